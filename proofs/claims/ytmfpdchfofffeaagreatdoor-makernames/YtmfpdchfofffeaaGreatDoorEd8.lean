import Derived.Test.YtmfpdchfofffeaaGreatDoorEd4
namespace Go.Proofs.YtmfpdchfofffeaaGreatDoor
open Go.RowKit Go.Shelf
set_option linter.unusedVariables false
def ck16 (old size : Int) (S : List St16) (m k : Nat) : Int :=
  if ¬ (0 ≤ old ∧ old ≤ 16777216 ∧ 0 ≤ size ∧ size ≤ 16777216) then 1 else if it16 S m k ≠ 0 then it16 S m k else if ((m + k : Nat) : Int) ≠ size then 162 else if ob16 S S.length old = true then 161 else 0
set_option maxRecDepth 100000 in
theorem pwit16 (l x : Int) (h1 : l ≤ x) (h2 : x ≤ 16777216) (w : World) : Calls Tryz.prog 88 #[.int .i64 l, .int .i64 x] w fun e w' => e = .returned (.bool true) ∧ w' = w := by
  go_enter Tryz.func88, Tryz.ntmps88
  go_wp2
  go_ret
  exact ⟨rfl, rfl⟩
variable {w : World} {sa da xa : Option Addr} {n sc m dc k xc : Nat} {S : List St16} {D X : List Int}
set_option maxRecDepth 100000 in
set_option maxHeartbeats 8000000 in
theorem pchk16 (old size : Int) (h : Ed16 w sa n S da m D xa k X) :
    Calls Tryz.prog 57 #[ev16 sa n sc da m dc xa k xc, .int .i64 old, .int .i64 size] w fun e w' => e = .returned (.int .i64 (ck16 old size S m k)) ∧ Below w.heap.size w w' := by
  obtain ⟨wA, hwA⟩ : ∃ wA, wA = w.alloc (.cells #[.slice sa n sc, .slice da m dc, .slice xa k xc] 48) := ⟨_, rfl⟩
  have bA : Below w.heap.size w wA := by rw [hwA]; exact below_box16 _ _
  have CS := psize16 (sc := sc) (dc := dc) (xc := xc) (h.old bA)
  have hn : Hid (S.length = n) := h.hn
  have HWA : Hid (wA = w.alloc (.cells #[.slice sa n sc, .slice da m dc, .slice xa k xc] 48)) := hwA
  have hpA : wA.heap[w.heap.size]? = some (.cells #[.slice sa n sc, .slice da m dc, .slice xa k xc] 48 (0, 0)) := by rw [hwA]; exact heap_alloc_new w _
  obtain ⟨ob, hob⟩ : ∃ ob, ob = w.heap.size := ⟨_, rfl⟩
  have hlt : ob < wA.heap.size := by rw [hwA, hob]; simp
  rw [← hob] at hpA
  have HOB : Hid (ob = w.heap.size) := hob
  have HB : Hid (∀ W, Below wA.heap.size wA W → W.cell? ⟨ob, 0, none⟩ = some (.slice sa n sc)) := fun W hW => three_cell0 ((hW.block ob hlt).trans hpA)
  have c0 := three_cell0 hpA
  have c1 := three_cell1 hpA
  have c2 := three_cell2 hpA
  rw [hwA, hob] at c0 c1 c2
  have CO : it16 S m k = 0 → Hid (∀ W, Below wA.heap.size wA W → Calls Tryz.prog 53 #[.slice sa n sc, .int .i64 old] W fun e w' => e = .returned (.bool (ob16 S n old)) ∧ Below W.heap.size W w') := fun hi W hW => by
    have hok : Hid (Ok16 S n) := by have := (it16_zero hi).1; rw [hn.out] at this; exact this
    exact pout16 sa n sc S old W ((h.ss.old bA).old hW) hn h.ln hok
  unfold ev16 at CS ⊢
  clear h hwA hob
  by_cases h1 : 0 ≤ old
  · by_cases h2 : old ≤ 16777216
    · by_cases h3 : 0 ≤ size
      · by_cases h4 : size ≤ 16777216
        · have hck : ck16 old size S m k = if it16 S m k ≠ 0 then it16 S m k else if ((m + k : Nat) : Int) ≠ size then 162 else if ob16 S S.length old = true then 161 else 0 := by unfold ck16; rw [if_neg (by omega)]
          have hcc := it16_cases S m k
          by_cases hi : it16 S m k = 0
          · have CO := CO hi
            have hsz : szR16 S m k = .tuple #[.int .i64 ((m + k : Nat) : Int), .int .i64 0] := by unfold szR16 sz16; rw [hi]; rfl
            rw [hsz] at CS
            rw [if_neg (by simpa using hi), hn.out] at hck
            clear hsz hcc hi
            by_cases h5 : ((m + k : Nat) : Int) = size
            · rw [if_neg (by simpa using h5)] at hck
              subst h5
              generalize m + k = mk at *
              cases ho : ob16 S n old
              · rw [ho] at CO hck
                have HC : Hid (ck16 old (mk : Int) S m k = 0) := hck
                rw [HC.out]
                clear hck ho
                go_enter Tryz.func57, Tryz.ntmps57
                go_wp2_with (first
                  | (go_at_call 88; refine (pwit16 _ _ (by assumption) (by assumption) _).mono ?_; rintro e9 w9 ⟨rfl, h9⟩; subst w9)
                  | (go_at_call 89; rw [← HWA.out]; refine CS.mono ?_; rintro e1 w1 ⟨rfl, B1⟩; have x1 := HB.out w1 B1; rw [HOB.out] at x1; clear CS)
                  | (go_at_call 53; refine (CO.out w1 B1).mono ?_; rintro e2 w2 ⟨rfl, B2⟩; clear CO))
                go_ret
                exact ⟨rfl, (bA.trans (B1.mono bA.size)).trans (B2.mono (bA.trans (B1.mono bA.size)).size)⟩
              · rw [ho] at CO hck
                have HC : Hid (ck16 old (mk : Int) S m k = 161) := hck
                rw [HC.out]
                clear hck ho
                go_enter Tryz.func57, Tryz.ntmps57
                go_wp2_with (first
                  | (go_at_call 88; refine (pwit16 _ _ (by assumption) (by assumption) _).mono ?_; rintro e9 w9 ⟨rfl, h9⟩; subst w9)
                  | (go_at_call 89; rw [← HWA.out]; refine CS.mono ?_; rintro e1 w1 ⟨rfl, B1⟩; have x1 := HB.out w1 B1; rw [HOB.out] at x1; clear CS)
                  | (go_at_call 53; refine (CO.out w1 B1).mono ?_; rintro e2 w2 ⟨rfl, B2⟩; clear CO))
                go_ret
                exact ⟨rfl, (bA.trans (B1.mono bA.size)).trans (B2.mono (bA.trans (B1.mono bA.size)).size)⟩
            · rw [if_pos h5] at hck
              rw [hck]
              have hne : (((m + k : Nat) : Int) != size) = true := by simpa using h5
              clear hck CO
              generalize m + k = mk at *
              go_enter Tryz.func57, Tryz.ntmps57
              go_wp2_with (first
                | (go_at_call 88; refine (pwit16 _ _ (by assumption) (by assumption) _).mono ?_; rintro e9 w9 ⟨rfl, h9⟩; subst w9)
                | (go_at_call 89; rw [← HWA.out]; refine CS.mono ?_; rintro e1 w1 ⟨rfl, B1⟩; clear CS))
              go_ret
              exact ⟨rfl, bA.trans (B1.mono bA.size)⟩
          · have hsz : szR16 S m k = .tuple #[.int .i64 0, .int .i64 (it16 S m k)] := by unfold szR16 sz16; rw [if_neg hi]; rfl
            rw [hsz] at CS
            rw [if_pos hi] at hck
            rw [hck]
            clear hsz hck CO
            generalize it16 S m k = er at *
            rcases hcc with rfl | rfl | rfl
            · exact absurd rfl hi
            · clear hi
              go_enter Tryz.func57, Tryz.ntmps57
              go_wp2_with (first
                | (go_at_call 88; refine (pwit16 _ _ (by assumption) (by assumption) _).mono ?_; rintro e9 w9 ⟨rfl, h9⟩; subst w9)
                | (go_at_call 89; rw [← HWA.out]; refine CS.mono ?_; rintro e1 w1 ⟨rfl, B1⟩; clear CS))
              go_ret
              exact ⟨rfl, bA.trans (B1.mono bA.size)⟩
            · clear hi
              go_enter Tryz.func57, Tryz.ntmps57
              go_wp2_with (first
                | (go_at_call 88; refine (pwit16 _ _ (by assumption) (by assumption) _).mono ?_; rintro e9 w9 ⟨rfl, h9⟩; subst w9)
                | (go_at_call 89; rw [← HWA.out]; refine CS.mono ?_; rintro e1 w1 ⟨rfl, B1⟩; clear CS))
              go_ret
              exact ⟨rfl, bA.trans (B1.mono bA.size)⟩
        · rw [show ck16 old size S m k = 1 by unfold ck16; rw [if_pos (by omega)]]
          clear CO CS
          go_enter Tryz.func57, Tryz.ntmps57
          go_wp2
          go_ret
          exact ⟨rfl, below_box16 _ _⟩
      · rw [show ck16 old size S m k = 1 by unfold ck16; rw [if_pos (by omega)]]
        clear CO CS
        go_enter Tryz.func57, Tryz.ntmps57
        go_wp2
        go_ret
        exact ⟨rfl, below_box16 _ _⟩
    · rw [show ck16 old size S m k = 1 by unfold ck16; rw [if_pos (by omega)]]
      clear CO CS
      go_enter Tryz.func57, Tryz.ntmps57
      go_wp2
      go_ret
      exact ⟨rfl, below_box16 _ _⟩
  · rw [show ck16 old size S m k = 1 by unfold ck16; rw [if_pos (by omega)]]
    clear CO CS
    go_enter Tryz.func57, Tryz.ntmps57
    go_wp2
    go_ret
    exact ⟨rfl, below_box16 _ _⟩
end Go.Proofs.YtmfpdchfofffeaaGreatDoor
