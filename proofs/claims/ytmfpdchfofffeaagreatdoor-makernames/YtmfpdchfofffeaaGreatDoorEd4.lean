import Derived.Test.YtmfpdchfofffeaaGreatDoorEd3
namespace Go.Proofs.YtmfpdchfofffeaaGreatDoor
open Go.RowKit Go.Shelf
set_option linter.unusedVariables false
abbrev ev16 (sa : Option Addr) (n sc : Nat) (da : Option Addr) (m dc : Nat) (xa : Option Addr) (k xc : Nat) : Value := .agg #[.slice sa n sc, .slice da m dc, .slice xa k xc]
/-- An edit lies in memory. -/
structure Ed16 (w : World) (sa : Option Addr) (n : Nat) (S : List St16) (da : Option Addr) (m : Nat) (D : List Int) (xa : Option Addr) (k : Nat) (X : List Int) : Prop where
  ss : SegS w sa S
  sd : Seg w da D
  sx : Seg w xa X
  hn : S.length = n
  hm : D.length = m
  hk : X.length = k
  ln : n ≤ 1073741824
  lm : m ≤ 1073741824
  lk : k ≤ 1073741824
theorem Ed16.old {w w' : World} {sa da xa : Option Addr} {n m k : Nat} {S : List St16} {D X : List Int} (h : Ed16 w sa n S da m D xa k X) (hb : Below w.heap.size w w') : Ed16 w' sa n S da m D xa k X :=
  ⟨h.ss.old hb, h.sd.old hb, h.sx.old hb, h.hn, h.hm, h.hk, h.ln, h.lm, h.lk⟩
def ob16 (S : List St16) (n : Nat) (old : Int) : Bool := decide (fi16 S n < 0 ∨ old < en16 S n)
set_option maxRecDepth 100000 in
set_option maxHeartbeats 2000000 in
theorem pout16 (a : Option Addr) (n cap : Nat) (S : List St16) (old : Int) (w : World) (hs : SegS w a S) (hn : Hid (S.length = n)) (hl : n ≤ 1073741824) (hok : Hid (Ok16 S n)) :
    Calls Tryz.prog 53 #[.slice a n cap, .int .i64 old] w fun e w' => e = .returned (.bool (ob16 S n old)) ∧ Below w.heap.size w w' := by
  have CS := pspan16 a n cap S w hs hn hl hok
  unfold ob16
  generalize fi16 S n = x at *
  generalize en16 S n = y at *
  by_cases h1 : x < 0
  · rw [decide_eq_true (.inl h1)]
    go_enter Tryz.func53, Tryz.ntmps53
    go_wp2_with (first | (go_at_call 86; refine CS.mono ?_; rintro e1 w1 ⟨rfl, B1⟩; clear CS))
    go_ret
    exact ⟨rfl, B1⟩
  · by_cases h2 : old < y
    · rw [decide_eq_true (.inr h2)]
      go_enter Tryz.func53, Tryz.ntmps53
      go_wp2_with (first | (go_at_call 86; refine CS.mono ?_; rintro e1 w1 ⟨rfl, B1⟩; clear CS))
      go_ret
      exact ⟨rfl, B1⟩
    · rw [decide_eq_false (by omega)]
      go_enter Tryz.func53, Tryz.ntmps53
      go_wp2_with (first | (go_at_call 86; refine CS.mono ?_; rintro e1 w1 ⟨rfl, B1⟩; clear CS))
      go_ret
      exact ⟨by show Ending.returned (Value.bool (decide (x < 0) || decide (old < y))) = _; rw [decide_eq_false (show ¬ x < 0 by omega), decide_eq_false (show ¬ old < y by omega)]; rfl, B1⟩
def szR16 (S : List St16) (m k : Nat) : Value := .tuple #[.int .i64 (sz16 S m k : Int), .int .i64 (it16 S m k)]
variable {w : World} {sa da xa : Option Addr} {n sc m dc k xc : Nat} {S : List St16} {D X : List Int}
set_option maxRecDepth 100000 in
set_option maxHeartbeats 4000000 in
theorem psize16 (h : Ed16 w sa n S da m D xa k X) :
    Calls Tryz.prog 89 #[ev16 sa n sc da m dc xa k xc] w fun e w' => e = .returned (szR16 S m k) ∧ Below w.heap.size w w' := by
  unfold ev16
  have hn : Hid (S.length = n) := h.hn
  obtain ⟨wA, hwA⟩ : ∃ wA, wA = w.alloc (.cells #[.slice sa n sc, .slice da m dc, .slice xa k xc] 48) := ⟨_, rfl⟩
  have bA : Below w.heap.size w wA := by rw [hwA]; exact below_box16 _ _
  have CS := psum16 sa n sc S wA (h.ss.old bA) hn h.ln
  have HWA : Hid (wA = w.alloc (.cells #[.slice sa n sc, .slice da m dc, .slice xa k xc] 48)) := hwA
  have hpA : wA.heap[w.heap.size]? = some (.cells #[.slice sa n sc, .slice da m dc, .slice xa k xc] 48 (0, 0)) := by rw [hwA]; exact heap_alloc_new w _
  obtain ⟨ob, hob⟩ : ∃ ob, ob = w.heap.size := ⟨_, rfl⟩
  have hlt : ob < wA.heap.size := by rw [hwA, hob]; simp
  rw [← hob] at hpA
  have HOB : Hid (ob = w.heap.size) := hob
  have HB : Hid (∀ W, Below wA.heap.size wA W → W.cell? ⟨ob, 1, none⟩ = some (.slice da m dc) ∧ W.cell? ⟨ob, 2, none⟩ = some (.slice xa k xc)) := fun W hW => by
    have := (hW.block ob hlt).trans hpA
    exact ⟨three_cell1 this, three_cell2 this⟩
  have hlm := h.lm
  have hlk := h.lk
  have hln := h.ln
  have c0 := three_cell0 hpA
  rw [hwA] at c0
  cases hall : S.all may16
  · have hR : Hid (sumR16 S n = .tuple #[.int .i64 0, .int .i64 0, .int .i64 160]) := by show _ = _; unfold sumR16; rw [hall]; rfl
    have hE : Hid (szR16 S m k = .tuple #[.int .i64 0, .int .i64 160]) := by show _ = _; unfold szR16 sz16; rw [it16_step hall]; rfl
    rw [hR.out] at CS
    rw [hE.out]
    clear hall h hwA hob
    go_enter Tryz.func89, Tryz.ntmps89
    go_wp2_with (first | (go_at_call 52; rw [← HWA.out]; refine CS.mono ?_; rintro e1 w1 ⟨rfl, B1⟩; clear CS))
    go_ret2
    exact ⟨rfl, bA.trans (B1.mono bA.size)⟩
  · have hR : Hid (sumR16 S n = .tuple #[.int .i64 (sa16 S n : Int), .int .i64 (sc16 S n : Int), .int .i64 0]) := by show _ = _; unfold sumR16; rw [hall]; rfl
    rw [hR.out] at CS
    have hbd := sa16_le n (by have := all16_ok hall; rwa [hn.out] at this)
    obtain ⟨hb1, hb2, -, -⟩ := hbd
    have hsz : ¬ (sa16 S n = m ∧ sc16 S n = k ∧ m + k ≤ 16777216) → szR16 S m k = .tuple #[.int .i64 0, .int .i64 162] := fun hno => by
      unfold szR16 sz16
      rw [it16_size hall (by rw [hn.out]; exact hno)]; rfl
    have hgo : (sa16 S n = m ∧ sc16 S n = k ∧ m + k ≤ 16777216) → szR16 S m k = .tuple #[.int .i64 ((m + k : Nat) : Int), .int .i64 0] := fun hyes => by
      unfold szR16 sz16
      rw [it16_ok hall (by rw [hn.out]; exact hyes)]; rfl
    clear hall h hwA hob hR hn
    generalize sa16 S n = A at *
    generalize sc16 S n = C at *
    by_cases h1 : A = m
    · subst h1
      by_cases h2 : C = k
      · subst h2
        by_cases h3 : A + C ≤ 16777216
        · rw [hgo ⟨rfl, rfl, h3⟩]
          have hw1 : IntKind.i64.wrap ((A : Int) + (C : Int)) = (A : Int) + (C : Int) := IntWalk.i64_in _ (by omega)
          have hle : ¬ 16777216 < (A : Int) + (C : Int) := by omega
          clear hgo hsz
          go_enter Tryz.func89, Tryz.ntmps89
          go_wp2_with (first | (go_at_call 52; rw [← HWA.out]; refine CS.mono ?_; rintro e1 w1 ⟨rfl, B1⟩; obtain ⟨x1, x2⟩ := HB.out w1 B1; rw [HOB.out] at x1 x2; clear CS))
          go_ret2
          exact ⟨by simp, bA.trans (B1.mono bA.size)⟩
        · rw [hsz (by omega)]
          have hw1 : IntKind.i64.wrap ((A : Int) + (C : Int)) = (A : Int) + (C : Int) := IntWalk.i64_in _ (by omega)
          have hle : 16777216 < (A : Int) + (C : Int) := by omega
          clear hgo hsz
          go_enter Tryz.func89, Tryz.ntmps89
          go_wp2_with (first | (go_at_call 52; rw [← HWA.out]; refine CS.mono ?_; rintro e1 w1 ⟨rfl, B1⟩; obtain ⟨x1, x2⟩ := HB.out w1 B1; rw [HOB.out] at x1 x2; clear CS))
          go_ret2
          exact ⟨rfl, bA.trans (B1.mono bA.size)⟩
      · rw [hsz (by omega)]
        have hne : ((C : Int) != (k : Int)) = true := by simp; omega
        clear hgo hsz
        go_enter Tryz.func89, Tryz.ntmps89
        go_wp2_with (first | (go_at_call 52; rw [← HWA.out]; refine CS.mono ?_; rintro e1 w1 ⟨rfl, B1⟩; obtain ⟨x1, x2⟩ := HB.out w1 B1; rw [HOB.out] at x1 x2; clear CS))
        go_ret2
        exact ⟨rfl, bA.trans (B1.mono bA.size)⟩
    · rw [hsz (by omega)]
      have hne : ((A : Int) != (m : Int)) = true := by simp; omega
      clear hgo hsz
      go_enter Tryz.func89, Tryz.ntmps89
      go_wp2_with (first | (go_at_call 52; rw [← HWA.out]; refine CS.mono ?_; rintro e1 w1 ⟨rfl, B1⟩; obtain ⟨x1, x2⟩ := HB.out w1 B1; rw [HOB.out] at x1 x2; clear CS))
      go_ret2
      exact ⟨rfl, bA.trans (B1.mono bA.size)⟩
end Go.Proofs.YtmfpdchfofffeaaGreatDoor
