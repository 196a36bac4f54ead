import Derived.Test.YtbjjddoeilhomaaPp
import Derived.Test.YtbjjddoeilhomaaPf
import Derived.Test.YtbjjddoeilhomaaProg
import Derived.Test.YtbjjddoeilhomaaPh
import Derived.WalkKit
import Derived.WalkSpells
import Derived.Laws.BytesArg
namespace Go.Proofs.Ytbjjddoeilhomaa
open Go.RowKit
set_option linter.unusedVariables false

/-! The landed suffix: same, Common, Lcp. -/
theorem lc13_more {a b : List Int} {k : Nat} (h : k ≤ lc13 a b) (ha : k < a.length) (hb : k < b.length) : a.getD k 0 = b.getD k 0 → k + 1 ≤ lc13 a b := by
  intro e
  rcases Nat.lt_or_ge k (lc13 a b) with c | c
  · exact c
  · have : k = lc13 a b := by omega
    subst this
    exact absurd e (lc13_end a b ha hb)
theorem lc13_stop {a b : List Int} {k : Nat} (h : k ≤ lc13 a b) : ¬ a.getD k 0 = b.getD k 0 → lc13 a b = k := by
  intro e
  rcases Nat.lt_or_ge k (lc13 a b) with c | c
  · exact absurd (lc13_get a b k c) e
  · omega
set_option maxRecDepth 100000 in
set_option maxHeartbeats 2000000 in
theorem psame13 (xa : Option Addr) (X : List Int) (m xc : Nat) (ya : Option Addr) (Y : List Int) (q yc : Nat) (k : Nat) (w : World) (hx : Seg w xa X) (hy : Seg w ya Y) (hm : Hid (X.length = m)) (hq : Hid (Y.length = q)) (hb : m ≤ 9223372036854775807) (hb2 : q ≤ 9223372036854775807) (hk : k ≤ lc13 X Y) :
    Calls Try.prog 78 #[.slice xa m xc, .slice ya q yc, .int .i64 (k : Int)] w fun e w' => e = .returned (.int .i64 ((lc13 X Y : Nat) : Int)) ∧ ∃ d, w' = w.drewN d := by
  have HL : Hid (lc13 X Y ≤ m ∧ lc13 X Y ≤ q) := ⟨by rw [← hm.out]; exact lc13_le X Y, by rw [← hq.out]; exact lc13_le' X Y⟩
  obtain ⟨t, ht⟩ : ∃ t, t = min m q := ⟨_, rfl⟩
  have HT : Hid (t = min m q) := ht
  have e1 : (if (q : Int) < (m : Int) then (q : Int) else (m : Int)) = (t : Int) := by split <;> omega
  have e2 : (if q < m then (q : Int) else (m : Int)) = (t : Int) := by split <;> omega
  have e3 : min (m : Int) (q : Int) = (t : Int) := by omega
  clear ht
  have KEY : Hid (∀ wr, (∃ d, wr = w.drewN d) → Seg wr xa X ∧ Seg wr ya Y) := by
    rintro wr ⟨d, rfl⟩
    exact ⟨hx.drewN d, hy.drewN d⟩
  clear hx hy
  by_cases hmq : q < m
  · have hmqi : (q : Int) < (m : Int) := by omega
    obtain rfl : t = q := by have := HT.out; omega
    clear e1 e2 e3
    go_enter Try.func78, Try.ntmps78
    go_wp2_with fail
    go_loopw [2] (fun ti wr => ∃ i : Nat, Hid (i ≤ lc13 X Y) ∧ ti = .int .i64 i ∧ ∃ d, wr = w.drewN d) (fun ti _ => m - (intOf ti).toNat)
    case atStart => exact ⟨k, hk, rfl, 0, rfl⟩
    case round =>
      obtain ⟨i, HI, rfl, hd⟩ := hrel
      obtain ⟨sx, sy⟩ := KEY.out wr hd
      obtain ⟨d, hd⟩ := hd
      have HD : Hid (wr = w.drewN d) := hd
      clear hd
      have hib : i ≤ t := by have := HL.out; have := HI.out; omega
      by_cases h1 : i < t
      · have h1i : (i : Int) < (t : Int) := by omega
        have h2i : (i : Int) < (m : Int) := by omega
        obtain ⟨b1, o1, rfl, c1⟩ := sx.at_ i (by rw [hm.out]; omega)
        obtain ⟨b2, o2, rfl, c2⟩ := sy.at_ i (by rw [hq.out]; omega)
        have v1 := sx.bd i
        have v2 := sy.bd i
        have HEQ : Hid (X.getD i 0 = Y.getD i 0 → i + 1 ≤ lc13 X Y) := lc13_more HI.out (by rw [hm.out]; omega) (by rw [hq.out]; omega)
        have HNE : Hid (¬ X.getD i 0 = Y.getD i 0 → lc13 X Y = i) := lc13_stop HI.out
        clear sx sy
        generalize X.getD i 0 = x at *
        generalize Y.getD i 0 = y at *
        by_cases hxy : x = y
        · subst hxy
          have HEQ2 : Hid (i + 1 ≤ lc13 X Y) := HEQ.out rfl
          clear HEQ HNE
          go_wp2_with fail
          go_region
          go_wp2_with fail
          go_roundw
          case rel => exact ⟨i + 1, HEQ2, by go_num, d + 1, by rw [HD.out]; rfl⟩
          case measure => simp [intOf]; omega
        · have HNE2 : Hid (lc13 X Y = i) := HNE.out hxy
          clear HEQ HNE
          go_wp2_with fail
          go_region
          go_wp2_with fail
          go_ret
          exact ⟨by rw [HNE2.out]; rfl, d + 1, by rw [HD.out]; rfl⟩
      · have h1i : ¬ (i : Int) < (t : Int) := by omega
        have HE : Hid (lc13 X Y = i) := by show _ = _; have := HL.out; have := HI.out; omega
        go_wp2_with fail
        go_region
        go_wp2_with fail
        go_ret
        exact ⟨by rw [HE.out]; rfl, d + 1, by rw [HD.out]; rfl⟩
  · have hmqi : ¬ (q : Int) < (m : Int) := by omega
    obtain rfl : t = m := by have := HT.out; omega
    clear e1 e2 e3
    go_enter Try.func78, Try.ntmps78
    go_wp2_with fail
    go_loopw [2] (fun ti wr => ∃ i : Nat, Hid (i ≤ lc13 X Y) ∧ ti = .int .i64 i ∧ ∃ d, wr = w.drewN d) (fun ti _ => t - (intOf ti).toNat)
    case atStart => exact ⟨k, hk, rfl, 0, rfl⟩
    case round =>
      obtain ⟨i, HI, rfl, hd⟩ := hrel
      obtain ⟨sx, sy⟩ := KEY.out wr hd
      obtain ⟨d, hd⟩ := hd
      have HD : Hid (wr = w.drewN d) := hd
      clear hd
      have hib : i ≤ t := by have := HL.out; have := HI.out; omega
      by_cases h1 : i < t
      · have h1i : (i : Int) < (t : Int) := by omega
        have h2i : (i : Int) < (q : Int) := by omega
        obtain ⟨b1, o1, rfl, c1⟩ := sx.at_ i (by rw [hm.out]; omega)
        obtain ⟨b2, o2, rfl, c2⟩ := sy.at_ i (by rw [hq.out]; omega)
        have v1 := sx.bd i
        have v2 := sy.bd i
        have HEQ : Hid (X.getD i 0 = Y.getD i 0 → i + 1 ≤ lc13 X Y) := lc13_more HI.out (by rw [hm.out]; omega) (by rw [hq.out]; omega)
        have HNE : Hid (¬ X.getD i 0 = Y.getD i 0 → lc13 X Y = i) := lc13_stop HI.out
        clear sx sy
        generalize X.getD i 0 = x at *
        generalize Y.getD i 0 = y at *
        by_cases hxy : x = y
        · subst hxy
          have HEQ2 : Hid (i + 1 ≤ lc13 X Y) := HEQ.out rfl
          clear HEQ HNE
          go_wp2_with fail
          go_region
          go_wp2_with fail
          go_roundw
          case rel => exact ⟨i + 1, HEQ2, by go_num, d + 1, by rw [HD.out]; rfl⟩
          case measure => simp [intOf]; omega
        · have HNE2 : Hid (lc13 X Y = i) := HNE.out hxy
          clear HEQ HNE
          go_wp2_with fail
          go_region
          go_wp2_with fail
          go_ret
          exact ⟨by rw [HNE2.out]; rfl, d + 1, by rw [HD.out]; rfl⟩
      · have h1i : ¬ (i : Int) < (t : Int) := by omega
        have HE : Hid (lc13 X Y = i) := by show _ = _; have := HL.out; have := HI.out; omega
        go_wp2_with fail
        go_region
        go_wp2_with fail
        go_ret
        exact ⟨by rw [HE.out]; rfl, d + 1, by rw [HD.out]; rfl⟩
end Go.Proofs.Ytbjjddoeilhomaa

namespace Go.Proofs.Ytbjjddoeilhomaa
open Go.RowKit
set_option linter.unusedVariables false

/-! The landed suffix: made, refusal, Len, Data, Array, At, Rank. -/
set_option maxRecDepth 100000 in
theorem pmaden13 (w : World) :
    Calls Try.prog 30 #[.pointer none] w fun e w' => e = .returned (.bool false) ∧ w' = w := by
  go_enter Try.func30, Try.ntmps30
  go_wp2_with fail
  go_ret
  exact ⟨rfl, rfl⟩
set_option maxRecDepth 100000 in
theorem pmadez13 (b : Nat) (w : World) (c2 : w.cell? ⟨b, 2, none⟩ = some .nilFunc) :
    Calls Try.prog 30 #[.pointer (some ⟨b, 0, none⟩)] w fun e w' => e = .returned (.bool false) ∧ w' = w := by
  have HE := run_neq_nilfunc13 (P := Try.prog) w Try.underlying47
  go_enter Try.func30, Try.ntmps30
  go_wp2_with fail
  go_ret
  exact ⟨rfl, rfl⟩
def in13 (n : Nat) (P : List Int) : Bool := P.all fun i => decide (0 ≤ i) && decide (i < (n : Int))
theorem in13_take (n : Nat) (P : List Int) (k : Nat) (h : k < P.length) : in13 n (P.take (k + 1)) = (in13 n (P.take k) && (decide (0 ≤ P.getD k 0) && decide (P.getD k 0 < (n : Int)))) := by
  unfold in13
  rw [take_snocZ h, List.all_append]
  simp
theorem in13_no (n : Nat) (P : List Int) (k : Nat) (h : k < P.length) (hv : ¬ (0 ≤ P.getD k 0 ∧ P.getD k 0 < (n : Int))) : in13 n P = false := by
  unfold in13
  rw [List.all_eq_false]
  refine ⟨P[k], List.getElem_mem h, ?_⟩
  have e : P.getD k 0 = P[k] := by simp [List.getD, h]
  rw [e] at hv
  simp only [Bool.and_eq_true, decide_eq_true_eq]
  exact hv
def er13 (n : Nat) (P : List Int) : Int := if in13 n P = true then 0 else 132
set_option maxRecDepth 100000 in
set_option maxHeartbeats 2000000 in
theorem pref13 (b : Nat) (da : Option Addr) (dc : Nat) (aa : Option Addr) (ac gb gr n : Nat) (z : List Int) (A : List Nat) (pa : Option Addr) (P : List Int) (m pc : Nat) (w : World) (h : Ix13 w b da dc aa ac gb gr n z A) (hp : SegZ w pa P) (hm : Hid (P.length = m)) (hmb : m ≤ 100) :
    Calls Try.prog 44 #[.pointer (some ⟨b, 0, none⟩), .slice pa m pc] w fun e w' => e = .returned (.int .i64 (er13 n P)) ∧ w' = w := by
  have HMD := pmade13 b da dc aa ac gb gr n z A w h
  have c0 := h.c0
  have hn24 := h.n24
  clear h
  go_enter Try.func44, Try.ntmps44
  go_wp2_with (first
    | (go_at_call 30; refine HMD.mono ?_; rintro e1 w1 ⟨rfl, hw1⟩; subst hw1))
  go_loopw [12] (fun ti wr => ∃ i : Nat, i ≤ m ∧ ti = .int .i64 i ∧ Hid (in13 n (P.take i) = true) ∧ wr = w1) (fun ti _ => m - (intOf ti).toNat)
  case atStart => exact ⟨0, Nat.zero_le _, rfl, (rfl : in13 n (P.take 0) = true), rfl⟩
  case round =>
    obtain ⟨i, hi, rfl, HI, hw⟩ := hrel
    subst hw
    by_cases h1 : i < m
    · have h1i : (i : Int) < (m : Int) := by omega
      have hl : i < P.length := by rw [hm.out]; exact h1
      obtain ⟨bb, off, rfl, c1⟩ := hp.at_ i hl
      have bd := hp.bd i
      have HNO : Hid (¬ (0 ≤ P.getD i 0 ∧ P.getD i 0 < (n : Int)) → er13 n P = 132) := fun hv => by unfold er13; rw [in13_no n P i hl hv]; rfl
      have HYES : Hid (0 ≤ P.getD i 0 → P.getD i 0 < (n : Int) → in13 n (P.take (i + 1)) = true) := fun h1 h2 => by rw [in13_take n P i hl, HI.out, decide_eq_true h1, decide_eq_true h2]; rfl
      generalize P.getD i 0 = v at *
      by_cases hv0 : v < 0
      · go_wp2_with fail
        go_ret
        exact ⟨by rw [HNO.out (by omega)]; rfl, rfl⟩
      · have hv1 : 0 ≤ v := by omega
        by_cases hvn : v < (n : Int)
        · have hvn2 : ¬ (n : Int) ≤ v := by omega
          go_wp2_with fail
          go_roundw
          case rel => exact ⟨i + 1, by omega, by go_num, HYES.out hv1 hvn, by first | trivial | rfl⟩
          case measure => simp [intOf]; omega
        · have hvn2 : (n : Int) ≤ v := by omega
          go_wp2_with fail
          go_ret
          exact ⟨by rw [HNO.out (by omega)]; rfl, rfl⟩
    · have h1i : ¬ (i : Int) < (m : Int) := by omega
      obtain rfl : i = m := by omega
      have HE : Hid (er13 n P = 0) := by
        show _ = _
        unfold er13
        have e := HI.out
        rw [← hm.out, List.take_length] at e
        rw [e]; rfl
      go_wp2_with fail
      go_ret
      exact ⟨by rw [HE.out]; rfl, rfl⟩
set_option maxRecDepth 100000 in
theorem plen13 (b : Nat) (da : Option Addr) (dc : Nat) (aa : Option Addr) (ac gb gr n : Nat) (z : List Int) (A : List Nat) (w : World) (h : Ix13 w b da dc aa ac gb gr n z A) :
    Calls Try.prog 64 #[.pointer (some ⟨b, 0, none⟩)] w fun e w' => e = .returned (.int .i64 (n : Int)) ∧ w' = w := by
  have HMD := pmade13 b da dc aa ac gb gr n z A w h
  have c0 := h.c0
  clear h
  go_enter Try.func64, Try.ntmps64
  go_wp2_with (first
    | (go_at_call 30; refine HMD.mono ?_; rintro e1 w1 ⟨rfl, hw1⟩; subst hw1))
  go_ret
  exact ⟨rfl, rfl⟩
set_option maxRecDepth 100000 in
set_option maxHeartbeats 1000000 in
theorem pdat13 (b : Nat) (da : Option Addr) (dc : Nat) (aa : Option Addr) (ac gb gr n : Nat) (z : List Int) (A : List Nat) (w : World) (h : Ix13 w b da dc aa ac gb gr n z A) :
    Calls Try.prog 16 #[.pointer (some ⟨b, 0, none⟩)] w (AnB13 w n z) := by
  have HMD := pmade13 b da dc aa ac gb gr n z A w h
  have c0 := h.c0
  have HC := pclb13 da z n dc w h.dat h.len h.nil (by have := h.n24; omega)
  clear h
  go_enter Try.func16, Try.ntmps16
  go_wp2_with (first
    | (go_at_call 30; refine HMD.mono ?_; rintro e1 w1 ⟨rfl, hw1⟩; subst hw1)
    | (go_at_call 31; refine HC.mono ?_; rintro e2 w2 ⟨ra, rc, rfl, hnil, hown, B2⟩))
  go_ret
  exact ⟨ra, rc, rfl, fun h => (hnil h).1, hown, B2⟩
theorem segZ_lit13 (w : World) (v : Int) (hv : -9223372036854775808 ≤ v ∧ v ≤ 9223372036854775807) : SegZ (w.alloc (.cells #[.int .i64 v] 3)) (some ⟨w.heap.size, 0, none⟩) [v] :=
  (Rz12.new w [v]).seg (by intro z hz; simp at hz; subst hz; exact hv)
theorem segZ_two13 (w : World) (v u : Int) (hv : -9223372036854775808 ≤ v ∧ v ≤ 9223372036854775807) (hu : -9223372036854775808 ≤ u ∧ u ≤ 9223372036854775807) : SegZ (w.alloc (.cells #[.int .i64 v, .int .i64 u] 3)) (some ⟨w.heap.size, 0, none⟩) [v, u] :=
  (Rz12.new w [v, u]).seg (by intro z hz; simp at hz; rcases hz with rfl | rfl <;> assumption)
theorem er13_one (n : Nat) (v : Int) : er13 n [v] = if 0 ≤ v ∧ v < (n : Int) then 0 else 132 := by
  unfold er13 in13
  by_cases h1 : 0 ≤ v <;> by_cases h2 : v < (n : Int) <;> simp [h1, h2]
theorem er13_two (n : Nat) (v u : Int) : er13 n [v, u] = if (0 ≤ v ∧ v < (n : Int)) ∧ (0 ≤ u ∧ u < (n : Int)) then 0 else 132 := by
  unfold er13 in13
  by_cases h1 : 0 ≤ v <;> by_cases h2 : v < (n : Int) <;> by_cases h3 : 0 ≤ u <;> by_cases h4 : u < (n : Int) <;> simp [h1, h2, h3, h4]
set_option maxRecDepth 100000 in
set_option maxHeartbeats 1000000 in
theorem pat13 (b : Nat) (da : Option Addr) (dc : Nat) (aa : Option Addr) (ac gb gr n : Nat) (z : List Int) (A : List Nat) (r : Nat) (w : World) (h : Ix13 w b da dc aa ac gb gr n z A) (hr : r < n) :
    Calls Try.prog 24 #[.pointer (some ⟨b, 0, none⟩), .int .i64 (r : Int)] w fun e w' => e = .returned (.tuple #[.int .i64 ((A.getD r 0 : Nat) : Int), .int .i64 0]) ∧ Below w.heap.size w w' := by
  have hn24 := h.n24
  have B1 : Below w.heap.size w (w.alloc (.cells #[.int .i64 (r : Int)] 3)) := (Below.refl _ _).alloc (Nat.le_refl _) _
  have h1 := h.old B1
  have HR := pref13 b da dc aa ac gb gr n z A (some ⟨w.heap.size, 0, none⟩) [(r : Int)] 1 1 _ h1 (segZ_lit13 w _ (by omega)) (rfl : _ = _) (by omega)
  rw [er13_one, if_pos (by omega)] at HR
  obtain ⟨ab, off, rfl, c3⟩ := h.arr.at_ r (by rw [nz12_len13, h.ar.len]; exact hr)
  rw [nz12_get13 (by rw [h.ar.len]; exact hr)] at c3
  have HC1 : Hid (∀ W, Below w.heap.size w W → W.cell? ⟨b, 1, none⟩ = some (.slice (some ⟨ab, off, none⟩) n ac) ∧ W.cell? ⟨ab, off + r, none⟩ = some (.int .i64 ((A.getD r 0 : Nat) : Int))) := fun W hW => ⟨(h.old hW).c1, (hW.cell (p := ⟨ab, off + r, none⟩) (World.block_lt_of_cell? w _ c3)).trans c3⟩
  have hri : (r : Int) < (n : Int) := by omega
  have hgt := h.ar.get hr
  clear h h1 c3
  generalize A.getD r 0 = v at *
  go_enter Try.func24, Try.ntmps24
  go_wp2_with (first
    | (go_at_call 44; refine HR.mono ?_; rintro e1 w2 ⟨rfl, hw1⟩; rw [← hw1] at B1; clear hw1; obtain ⟨c1, c3⟩ := HC1.out w2 B1))
  refine bodyPost_ret (results_tmp2 rfl _ _ _) rfl ?_
  exact ⟨rfl, B1⟩
set_option maxRecDepth 100000 in
set_option maxHeartbeats 1000000 in
theorem patn13 (b : Nat) (da : Option Addr) (dc : Nat) (aa : Option Addr) (ac gb gr n : Nat) (z : List Int) (A : List Nat) (r : Int) (w : World) (h : Ix13 w b da dc aa ac gb gr n z A) (hb : -9223372036854775808 ≤ r ∧ r ≤ 9223372036854775807) (hr : ¬ (0 ≤ r ∧ r < (n : Int))) :
    Calls Try.prog 24 #[.pointer (some ⟨b, 0, none⟩), .int .i64 r] w fun e w' => e = .returned (.tuple #[.int .i64 0, .int .i64 132]) ∧ Below w.heap.size w w' := by
  have B1 : Below w.heap.size w (w.alloc (.cells #[.int .i64 r] 3)) := (Below.refl _ _).alloc (Nat.le_refl _) _
  have HR := pref13 b da dc aa ac gb gr n z A (some ⟨w.heap.size, 0, none⟩) [r] 1 1 _ (h.old B1) (segZ_lit13 w _ hb) (rfl : _ = _) (by omega)
  rw [er13_one, if_neg hr] at HR
  clear h hr
  go_enter Try.func24, Try.ntmps24
  go_wp2_with (first
    | (go_at_call 44; refine HR.mono ?_; rintro e1 w2 ⟨rfl, hw1⟩; rw [← hw1] at B1; clear hw1))
  refine bodyPost_ret (results_tmp2 rfl _ _ _) rfl ?_
  exact ⟨rfl, B1⟩
set_option maxRecDepth 100000 in
set_option maxHeartbeats 1000000 in
theorem prank13 (b : Nat) (da : Option Addr) (dc : Nat) (aa : Option Addr) (ac gb gr n : Nat) (z : List Int) (A : List Nat) (j : Nat) (w : World) (h : Ix13 w b da dc aa ac gb gr n z A) (hr : j < n) :
    Calls Try.prog 104 #[.pointer (some ⟨b, 0, none⟩), .int .i64 (j : Int)] w fun e w' => e = .returned (.tuple #[.int .i64 ((rk13 A j : Nat) : Int), .int .i64 0]) ∧ Below w.heap.size w w' := by
  have hn24 := h.n24
  have B1 : Below w.heap.size w (w.alloc (.cells #[.int .i64 (j : Int)] 3)) := (Below.refl _ _).alloc (Nat.le_refl _) _
  have h1 := h.old B1
  have HR := pref13 b da dc aa ac gb gr n z A (some ⟨w.heap.size, 0, none⟩) [(j : Int)] 1 1 _ h1 (segZ_lit13 w _ (by omega)) (rfl : _ = _) (by omega)
  rw [er13_one, if_pos (by omega)] at HR
  have HC1 : Hid (∀ W, Below w.heap.size w W → W.cell? ⟨b, 2, none⟩ = some (.func (.func 59) #[] #[.pointer (some ⟨gb, 0, none⟩)]) ∧ Calls Try.prog 59 #[.int .i64 (j : Int), .pointer (some ⟨gb, 0, none⟩)] W fun e w' => e = .returned (.int .i64 ((rk13 A j : Nat) : Int)) ∧ w' = W) := fun W hW => ⟨(h.old hW).c2, pclo13 gb gr n A (S12 z) j _ (h.old hW).rk hr hn24 h.ar⟩
  clear h h1
  go_enter Try.func104, Try.ntmps104
  go_wp2_with (first
    | (go_at_call 44; refine HR.mono ?_; rintro e1 w2 ⟨rfl, hw1⟩; rw [← hw1] at B1; clear hw1; obtain ⟨c2, HK⟩ := HC1.out w2 B1))
  refine HK.mono ?_
  rintro e3 w3 ⟨rfl, hw3⟩
  subst hw3
  go_wp2_with fail
  refine bodyPost_ret (results_tmp2 rfl _ _ _) rfl ?_
  exact ⟨rfl, B1⟩
set_option maxRecDepth 100000 in
set_option maxHeartbeats 1000000 in
theorem prankn13 (b : Nat) (da : Option Addr) (dc : Nat) (aa : Option Addr) (ac gb gr n : Nat) (z : List Int) (A : List Nat) (r : Int) (w : World) (h : Ix13 w b da dc aa ac gb gr n z A) (hb : -9223372036854775808 ≤ r ∧ r ≤ 9223372036854775807) (hr : ¬ (0 ≤ r ∧ r < (n : Int))) :
    Calls Try.prog 104 #[.pointer (some ⟨b, 0, none⟩), .int .i64 r] w fun e w' => e = .returned (.tuple #[.int .i64 0, .int .i64 132]) ∧ Below w.heap.size w w' := by
  have B1 : Below w.heap.size w (w.alloc (.cells #[.int .i64 r] 3)) := (Below.refl _ _).alloc (Nat.le_refl _) _
  have HR := pref13 b da dc aa ac gb gr n z A (some ⟨w.heap.size, 0, none⟩) [r] 1 1 _ (h.old B1) (segZ_lit13 w _ hb) (rfl : _ = _) (by omega)
  rw [er13_one, if_neg hr] at HR
  clear h hr
  go_enter Try.func104, Try.ntmps104
  go_wp2_with (first
    | (go_at_call 44; refine HR.mono ?_; rintro e1 w2 ⟨rfl, hw1⟩; rw [← hw1] at B1; clear hw1))
  refine bodyPost_ret (results_tmp2 rfl _ _ _) rfl ?_
  exact ⟨rfl, B1⟩
end Go.Proofs.Ytbjjddoeilhomaa

namespace Go.Proofs.Ytbjjddoeilhomaa
open Go.RowKit
set_option linter.unusedVariables false

/-! The landed Compare. -/
set_option maxRecDepth 100000 in
set_option maxHeartbeats 4000000 in
theorem pcmp13 (b : Nat) (da : Option Addr) (dc : Nat) (aa : Option Addr) (ac gb gr n : Nat) (z : List Int) (A : List Nat) (i : Nat) (pa : Option Addr) (p : List Int) (m pc : Nat) (w : World) (h : Ix13 w b da dc aa ac gb gr n z A) (hp : Seg w pa p) (hm : Hid (p.length = m)) (hmb : m ≤ 9223372036854775807) (hi : i < n) :
    Calls Try.prog 66 #[.pointer (some ⟨b, 0, none⟩), .int .i64 (i : Int), .slice pa m pc] w fun e w' => e = .returned (.tuple #[.int .i64 (cv13 (z.drop i) p), .int .i64 ((lc13 (z.drop i) p : Nat) : Int), .int .i64 0]) ∧ Below w.heap.size w w' := by
  have hn24 := h.n24
  have B1 : Below w.heap.size w (w.alloc (.cells #[.int .i64 (i : Int)] 3)) := (Below.refl _ _).alloc (Nat.le_refl _) _
  have HR := pref13 b da dc aa ac gb gr n z A (some ⟨w.heap.size, 0, none⟩) [(i : Int)] 1 1 _ (h.old B1) (segZ_lit13 w _ (by omega)) (rfl : _ = _) (by omega)
  rw [er13_one, if_pos (by omega)] at HR
  obtain ⟨xb, off, rfl, c3⟩ := h.dat.at_ i (by rw [h.len]; exact hi)
  have hln : Hid (z.length = n) := h.len
  have HC1 : Hid (∀ W, Below w.heap.size w W → W.cell? ⟨b, 0, none⟩ = some (.slice (some ⟨xb, off, none⟩) n dc) ∧ Seg W (some ⟨xb, off + i, none⟩) (z.drop i) ∧ Seg W pa p) := fun W hW => ⟨(h.old hW).c0, (h.old hW).dat.drop i, hp.old hW⟩
  have HSM : Hid (∀ W, Below w.heap.size w W → Calls Try.prog 78 #[.slice (some ⟨xb, off + i, none⟩) (n - i) (dc - i), .slice pa m pc, .int .i64 0] W fun e w' => e = .returned (.int .i64 ((lc13 (z.drop i) p : Nat) : Int)) ∧ ∃ d, w' = W.drewN d) := fun W hW =>
    psame13 _ (z.drop i) (n - i) _ pa p m pc 0 W (HC1.out W hW).2.1 (HC1.out W hW).2.2 (by show _ = _; rw [List.length_drop, hln.out]) hm (by omega) hmb (Nat.zero_le _)
  have hii : (i : Int) < (n : Int) := by omega
  have hdc := h.dle
  have l1 : i ≤ n := by omega
  have l3 : ¬ dc = i := by omega
  have HDL : Hid ((z.drop i).length = n - i) := by show _ = _; rw [List.length_drop, hln.out]
  have HLX : Hid (lc13 (z.drop i) p ≤ n - i ∧ lc13 (z.drop i) p ≤ m) := ⟨by rw [← HDL.out]; exact lc13_le _ _, by rw [← hm.out]; exact lc13_le' _ _⟩
  clear h hp c3
  generalize hX : z.drop i = X at *
  clear hX
  have HIFF : Hid (¬ lc13 X p = m → (LL12 X p ↔ (lc13 X p = n - i ∨ X.getD (lc13 X p) 0 < p.getD (lc13 X p) 0))) := fun h => by
    have := ll_iff13 X p (by rw [hm.out]; exact h)
    rw [HDL.out] at this
    exact this
  by_cases h1 : lc13 X p = m
  · have HV : Hid (cv13 X p = 0) := cv13_zero (by rw [hm.out]; exact h1)
    rw [HV.out]
    rw [h1] at HSM ⊢
    clear h1 HIFF HLX
    go_enter Try.func66, Try.ntmps66
    go_wp2_with (first
      | (go_at_call 44; refine HR.mono ?_; rintro e1 w2 ⟨rfl, hw1⟩; rw [← hw1] at B1; clear hw1 HR; obtain ⟨c0, -, -⟩ := HC1.out w2 B1)
      | (go_at_call 78; refine (HSM.out w2 B1).mono ?_; rintro e2 w3 ⟨rfl, d, hd⟩; have B3 : Below w.heap.size w w3 := (by rw [hd]; exact B1.trans ⟨rfl, rfl, rfl, Nat.le_refl _, fun _ _ => rfl⟩); clear hd))
    go_ret3
    exact ⟨rfl, B3⟩
  · have h1i : ¬ ((lc13 X p : Nat) : Int) = (m : Int) := by omega
    have h1b : (((lc13 X p : Nat) : Int) == (m : Int)) = false := beq_eq_false_iff_ne.2 h1i
    have hlm : ((lc13 X p : Nat) : Int) < (m : Int) := by have := HLX.out; omega
    have HPC : Hid (∀ W, Below w.heap.size w W → ∃ pb po, pa = some ⟨pb, po, none⟩ ∧ W.cell? ⟨pb, po + lc13 X p, none⟩ = some (.int .u8 (p.getD (lc13 X p) 0)) ∧ 0 ≤ p.getD (lc13 X p) 0 ∧ p.getD (lc13 X p) 0 ≤ 255) := fun W hW => by
      obtain ⟨pb, po, q1, q2⟩ := (HC1.out W hW).2.2.at_ (lc13 X p) (by rw [hm.out]; omega)
      exact ⟨pb, po, q1, q2, (HC1.out W hW).2.2.bd _⟩
    obtain ⟨pb, po, rfl, -, pbd⟩ := HPC.out w (Below.refl _ _)
    have HPD : Hid (∀ W, Below w.heap.size w W → W.cell? ⟨pb, po + lc13 X p, none⟩ = some (.int .u8 (p.getD (lc13 X p) 0))) := fun W hW => by
      obtain ⟨pb', po', q1, q2, -⟩ := HPC.out W hW
      cases q1
      exact q2
    by_cases h3 : lc13 X p = n - i
    · have HV : Hid (cv13 X p = -1) := cv13_less (by rw [hm.out]; exact h1) ((HIFF.out h1).2 (Or.inl h3))
      rw [HV.out]
      have h3b : (((lc13 X p : Nat) : Int) == ((n - i : Nat) : Int)) = true := by rw [h3]; simp
      have h3c : ((lc13 X p : Nat) : Int) = ((n - i : Nat) : Int) := by omega
      clear h1 HIFF HLX HPC HPD
      generalize lc13 X p = v at *
      subst h3
      clear h3b h3c
      go_enter Try.func66, Try.ntmps66
      go_wp2_with (first
        | (go_at_call 44; refine HR.mono ?_; rintro e1 w2 ⟨rfl, hw1⟩; rw [← hw1] at B1; clear hw1 HR; obtain ⟨c0, -, -⟩ := HC1.out w2 B1)
        | (go_at_call 78; refine (HSM.out w2 B1).mono ?_; rintro e2 w3 ⟨rfl, d, hd⟩; have B3 : Below w.heap.size w w3 := (by rw [hd]; exact B1.trans ⟨rfl, rfl, rfl, Nat.le_refl _, fun _ _ => rfl⟩); clear hd))
      go_quiet (fail)
      go_wp2_with fail
      go_ret3
      exact ⟨rfl, B3.trans ⟨rfl, rfl, rfl, Nat.le_refl _, fun _ _ => rfl⟩⟩
    · have h3b : (((lc13 X p : Nat) : Int) == ((n - i : Nat) : Int)) = false := beq_eq_false_iff_ne.2 (by omega)
      have h3l : ((lc13 X p : Nat) : Int) < ((n - i : Nat) : Int) := by have := HLX.out; omega
      have HXD : Hid (∀ W, Below w.heap.size w W → W.cell? ⟨xb, off + i + lc13 X p, none⟩ = some (.int .u8 (X.getD (lc13 X p) 0)) ∧ 0 ≤ X.getD (lc13 X p) 0 ∧ X.getD (lc13 X p) 0 ≤ 255) := fun W hW => by
        obtain ⟨b', o', q1, q2⟩ := (HC1.out W hW).2.1.at_ (lc13 X p) (by rw [HDL.out]; have := HLX.out; omega)
        cases q1
        exact ⟨q2, (HC1.out W hW).2.1.bd _⟩
      have xbd := (HXD.out w (Below.refl _ _)).2
      have HCV : Hid (cv13 X p = if X.getD (lc13 X p) 0 < p.getD (lc13 X p) 0 then -1 else 1) := by
        show _ = _
        by_cases h4 : X.getD (lc13 X p) 0 < p.getD (lc13 X p) 0
        · rw [if_pos h4]; exact cv13_less (by rw [hm.out]; exact h1) ((HIFF.out h1).2 (Or.inr h4))
        · rw [if_neg h4]
          refine cv13_more (by rw [hm.out]; exact h1) fun k => ?_
          rcases (HIFF.out h1).1 k with c | c
          · exact h3 c
          · exact h4 c
      rw [HCV.out]
      clear h1 h3 HIFF HPC HCV
      have hvb : lc13 X p ≤ 16777216 := by have := HLX.out; omega
      clear HLX
      generalize X.getD (lc13 X p) 0 = x1 at *
      generalize p.getD (lc13 X p) 0 = y1 at *
      generalize lc13 X p = v at *
      by_cases h4 : x1 < y1
      · rw [if_pos h4]
        go_enter Try.func66, Try.ntmps66
        go_wp2_with (first
          | (go_at_call 44; refine HR.mono ?_; rintro e1 w2 ⟨rfl, hw1⟩; rw [← hw1] at B1; clear hw1 HR; obtain ⟨c0, -, -⟩ := HC1.out w2 B1)
          | (go_at_call 78; refine (HSM.out w2 B1).mono ?_; rintro e2 w3 ⟨rfl, d, hd⟩; have B3 : Below w.heap.size w w3 := (by rw [hd]; exact B1.trans ⟨rfl, rfl, rfl, Nat.le_refl _, fun _ _ => rfl⟩); clear hd; have c5 := (HXD.out w3 B3).1; have c6 := HPD.out w3 B3))
        go_quiet (fail)
        go_wp2_with fail
        go_ret3
        exact ⟨rfl, B3.trans ⟨rfl, rfl, rfl, Nat.le_refl _, fun _ _ => rfl⟩⟩
      · rw [if_neg h4]
        have h4b : decide (x1 < y1) = false := decide_eq_false h4
        go_enter Try.func66, Try.ntmps66
        go_wp2_with (first
          | (go_at_call 44; refine HR.mono ?_; rintro e1 w2 ⟨rfl, hw1⟩; rw [← hw1] at B1; clear hw1 HR; obtain ⟨c0, -, -⟩ := HC1.out w2 B1)
          | (go_at_call 78; refine (HSM.out w2 B1).mono ?_; rintro e2 w3 ⟨rfl, d, hd⟩; have B3 : Below w.heap.size w w3 := (by rw [hd]; exact B1.trans ⟨rfl, rfl, rfl, Nat.le_refl _, fun _ _ => rfl⟩); clear hd; have c5 := (HXD.out w3 B3).1; have c6 := HPD.out w3 B3))
        have h4c : decide (x1 < y1) = false := decide_eq_false (by omega)
        have h4d : ¬ x1 < y1 := by omega
        go_quiet (fail)
        go_wp2_with fail
        go_ret3
        exact ⟨rfl, B3.trans ⟨rfl, rfl, rfl, Nat.le_refl _, fun _ _ => rfl⟩⟩
set_option maxRecDepth 100000 in
set_option maxHeartbeats 1000000 in
theorem pcmpn13 (b : Nat) (da : Option Addr) (dc : Nat) (aa : Option Addr) (ac gb gr n : Nat) (z : List Int) (A : List Nat) (r : Int) (pa : Option Addr) (m pc : Nat) (w : World) (h : Ix13 w b da dc aa ac gb gr n z A) (hb : -9223372036854775808 ≤ r ∧ r ≤ 9223372036854775807) (hr : ¬ (0 ≤ r ∧ r < (n : Int))) :
    Calls Try.prog 66 #[.pointer (some ⟨b, 0, none⟩), .int .i64 r, .slice pa m pc] w fun e w' => e = .returned (.tuple #[.int .i64 0, .int .i64 0, .int .i64 132]) ∧ Below w.heap.size w w' := by
  have B1 : Below w.heap.size w (w.alloc (.cells #[.int .i64 r] 3)) := (Below.refl _ _).alloc (Nat.le_refl _) _
  have HR := pref13 b da dc aa ac gb gr n z A (some ⟨w.heap.size, 0, none⟩) [r] 1 1 _ (h.old B1) (segZ_lit13 w _ hb) (rfl : _ = _) (by omega)
  rw [er13_one, if_neg hr] at HR
  clear h hr
  go_enter Try.func66, Try.ntmps66
  go_wp2_with (first
    | (go_at_call 44; refine HR.mono ?_; rintro e1 w2 ⟨rfl, hw1⟩; rw [← hw1] at B1; clear hw1))
  go_ret3
  exact ⟨rfl, B1⟩
end Go.Proofs.Ytbjjddoeilhomaa

namespace Go.Proofs.Ytbjjddoeilhomaa
open Go.RowKit
set_option linter.unusedVariables false

theorem run_conv_segS {P : Program} {w : World} {a : Option Addr} {zs : List Int} (cap : Nat) (h : Seg w a zs) (src e dst : TypeId) (hs : P.underlying src = some (.slice e)) (he : P.underlying e = some (.int .u8)) (hd : P.underlying dst = some .string) :
    (convert src dst (.slice a zs.length cap)).run P w = .ok (.string (strOfNums zs)) w := by
  by_cases hz : 0 < zs.length
  · obtain ⟨b, off, rfl, _⟩ := h.at_ 0 hz
    refine run_convert_bytes_arg w src e hs he b off zs.length cap zs rfl (fun i hi => ?_) dst hd
    obtain ⟨b', off', hb, hc⟩ := h.at_ i hi
    cases hb
    exact hc
  · have : zs = [] := List.eq_nil_of_length_eq_zero (by omega)
    subst this
    cases a with
    | none => exact run_convert_bytes_nil w src e hs he _ _ dst hd
    | some x =>
      rw [run_convert_bytes_string w src dst e _ _ cap hs he hd]
      have hl : (loadCells x 0).run P w = .ok (([] : List Int).map (Value.int .u8)).toArray w := by simp [loadCells, loadCellsFrom]
      have := run_bytesToString (P := P) w x 0 cap [] hl
      exact this

theorem str_injS {xs ys : List Int} (hx : ∀ z ∈ xs, 0 ≤ z ∧ z ≤ 255) (hy : ∀ z ∈ ys, 0 ≤ z ∧ z ≤ 255) : ((strOfNums xs).toList == (strOfNums ys).toList) = (xs == ys) := by
  rw [ByteArray.toList_eq, ByteArray.toList_eq, strOfNums_data, strOfNums_data]
  have key : ∀ (xs ys : List Int), (∀ z ∈ xs, 0 ≤ z ∧ z ≤ 255) → (∀ z ∈ ys, 0 ≤ z ∧ z ≤ 255) → (xs.map fun n => UInt8.ofNat n.toNat) = (ys.map fun n => UInt8.ofNat n.toNat) → xs = ys := by
    intro xs
    induction xs with
    | nil => intro ys _ _ h; cases ys with
      | nil => rfl
      | cons y r => simp at h
    | cons x r ih =>
      intro ys hx hy h
      cases ys with
      | nil => simp at h
      | cons y t =>
        simp only [List.map_cons, List.cons.injEq] at h
        have h1 := hx x (by simp)
        have h2 := hy y (by simp)
        have h3 := congrArg UInt8.toNat h.1
        simp at h3
        have h4 : x = y := by omega
        rw [h4, ih t (fun z hz => hx z (by simp [hz])) (fun z hz => hy z (by simp [hz])) h.2]
  rw [Bool.eq_iff_iff, beq_iff_eq, beq_iff_eq]
  exact ⟨key xs ys hx hy, fun h => by rw [h]⟩

set_option maxRecDepth 100000 in
theorem bsame_any (a b : Option Addr) (xs ys : List Int) (ca cb : Nat) (w : World) (hx : Seg w a xs) (hy : Seg w b ys) :
    Calls Try.prog 15 #[.slice a xs.length ca, .slice b ys.length cb] w fun e w' => e = .returned (.bool (xs == ys)) ∧ w' = w := by
  have h1 := run_conv_segS (P := Try.prog) ca hx 23 5 9 Try.underlying23 Try.underlying5 Try.underlying9
  have h2 := run_conv_segS (P := Try.prog) cb hy 23 5 9 Try.underlying23 Try.underlying5 Try.underlying9
  have HE : Hid (((strOfNums xs).toList == (strOfNums ys).toList) = (xs == ys)) := str_injS hx.mem hy.mem
  go_enter Try.func15, Try.ntmps15
  go_wp2
  go_ret
  exact ⟨by rw [← HE.out]; rfl, rfl⟩
end Go.Proofs.Ytbjjddoeilhomaa
