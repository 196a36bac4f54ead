
import Derived.Test.YtkddjgdfjbjfpaaEd9
import Derived.Test.YtkddjgdfjbjfpaaEd7
import Derived.Test.YtkddjgdfjbjfpaaOpenE
import Derived.Laws.StructEq
namespace Go.Proofs.Ytkddjgdfjbjfpaa
open Go.RowKit Go.Shelf
set_option linter.unusedVariables false

/-! EditReach. -/
theorem ck16_ok {old : Int} {mk : Nat} {S : List St16} {n m k : Nat} (hn : S.length = n) (hi : it16 S m k = 0) (hmk : mk = m + k) (h1 : 0 ≤ old) (h2 : old ≤ 16777216) (hmkl : mk ≤ 16777216) : ck16 old (mk : Int) S m k = if ob16 S n old = true then 161 else 0 := by
  unfold ck16
  rw [if_neg (by omega), if_neg (by simpa using hi), if_neg (by rw [hmk]; simp), hn]
variable {w : World} {sa da xa : Option Addr} {n sc m dc k xc : Nat} {S : List St16} {D X : List Int}
set_option maxRecDepth 100000 in
set_option maxHeartbeats 8000000 in
theorem editReach_walk (w : World) (sa : Option Addr) (n sc : Nat) (S : List St16) (da : Option Addr) (m dc : Nat) (D : List Int) (xa : Option Addr) (k xc : Nat) (X : List Int) (hE : EdIn16 w sa n sc S da m dc D xa k xc X) (hl : n + m + k ≤ 1048576) :
    Calls Try.prog 8 #[ev16 sa n sc da m dc xa k xc] w fun e w' => e = .returned (.bool true) ∧ Below w.heap.size w w' := by
  have h := hE.ed hl
  obtain ⟨w1, hw1⟩ : ∃ w1, w1 = w.alloc (.cells #[.slice sa n sc, .slice da m dc, .slice xa k xc] 28) := ⟨_, rfl⟩
  have b1 : Below w.heap.size w w1 := by rw [hw1]; exact below_box16 _ _
  have HW1 : Hid (w1 = w.alloc (.cells #[.slice sa n sc, .slice da m dc, .slice xa k xc] 28)) := hw1
  have q1 : w1.heap[w.heap.size]? = some (.cells #[.slice sa n sc, .slice da m dc, .slice xa k xc] 28 (0, 0)) := by rw [hw1]; exact heap_alloc_new w _
  obtain ⟨be, hbe⟩ : ∃ be, be = w.heap.size := ⟨_, rfl⟩
  have HBe : Hid (be = w.heap.size) := hbe
  rw [← hbe] at q1
  have hel : be < w1.heap.size := (Array.getElem?_eq_some_iff.1 q1).1
  have HBX : Hid (∀ W, Below w1.heap.size w1 W → W.cell? ⟨be, 0, none⟩ = some (.slice sa n sc) ∧ W.cell? ⟨be, 1, none⟩ = some (.slice da m dc) ∧ W.cell? ⟨be, 2, none⟩ = some (.slice xa k xc)) := fun W hW => by
    have := (hW.block be hel).trans q1
    exact ⟨three_cell0 this, three_cell1 this, three_cell2 this⟩
  have c0 := three_cell0 q1
  have c1 := three_cell1 q1
  have c2 := three_cell2 q1
  have CT := ptell16 (sc := sc) (dc := dc) (xc := xc) (h.old b1) hE.nm
  have HCS : Hid (∀ W, Below w1.heap.size w1 W → Calls Try.prog 13 #[.agg #[.slice sa n sc, .slice da m dc, .slice xa k xc]] W fun e w' => e = .returned (szR16 S m k) ∧ Below W.heap.size W w') := fun W hW => psize16 ((h.old b1).old hW)
  have HCK : Hid (∀ W old size, Below w1.heap.size w1 W → Calls Try.prog 12 #[.agg #[.slice sa n sc, .slice da m dc, .slice xa k xc], .int .i64 old, .int .i64 size] W fun e w' => e = .returned (.int .i64 (ck16 old size S m k)) ∧ Below W.heap.size W w') := fun W old size hW => pchk16 old size ((h.old b1).old hW)
  have HAW : Hid (∀ W : World, Calls Try.prog 10 #[] W fun e w' => e = .returned (.bool true) ∧ Below W.heap.size W w') := fun W => pawk16 W
  unfold ev16 at CT ⊢
  have hn := h.hn
  have hln := h.ln
  have hcz := cz16_le D
  rw [h.hm] at hcz
  have HW3 : Hid (∀ w2 o, Below w1.heap.size w1 w2 → Below w1.heap.size w1 (w2.alloc o)) := fun w2 o hb => hb.trans ((Kp.alloc (S := fun _ => False) w2 o).below (fun _ h => h.elim) hb.size)
  clear h hE hw1 hbe q1
  by_cases hi : it16 S m k = 0
  · obtain ⟨i1, -, -, i4⟩ := it16_zero hi
    rw [hn] at i1
    have hte : teR16 S D n m k = .tuple #[.agg #[.int .i64 (n : Int), .int .i64 (m : Int), .int .i64 (cz16 D : Int), .int .i64 (k : Int), .int .i64 (jm16 S n : Int), .int .i64 (re16 S n)], .int .i64 0] := by unfold teR16; rw [if_pos hi]
    have hsz : szR16 S m k = .tuple #[.int .i64 ((m + k : Nat) : Int), .int .i64 0] := by unfold szR16 sz16; rw [hi]; rfl
    rw [hte] at CT
    rw [hsz] at HCS
    have hfe := fe16_bd n i1
    obtain ⟨mk, hmk⟩ : ∃ mk, mk = m + k := ⟨_, rfl⟩
    have hmkl : mk ≤ 16777216 := by omega
    have hck : ∀ old : Int, 0 ≤ old → old ≤ 16777216 → ck16 old (mk : Int) S m k = if ob16 S n old = true then 161 else 0 := fun old h1 h2 => ck16_ok hn hi hmk h1 h2 hmkl
    have hobi : ∀ old : Int, ob16 S n old = true ↔ (fi16 S n < 0 ∨ old < en16 S n) := fun old => by unfold ob16; exact decide_eq_true_iff
    have hre0 : 0 ≤ re16 S n := by unfold re16; split <;> omega
    rw [← hmk] at HCS
    have hadd : IntKind.i64.wrap ((m : Int) + (k : Int)) = (mk : Int) := by rw [IntWalk.i64_in _ (by omega), hmk]; simp
    have hcz0 : ¬ (m : Int) < (cz16 D : Int) := by omega
    have hre1 : ¬ re16 S n < 0 := by omega
    have HCK2 : Hid (ck16 16777216 (mk : Int) S m k = 0 → re16 S n = en16 S n ∧ en16 S n ≤ 16777216 ∧ ck16 (en16 S n) (mk : Int) S m k = 0 ∧ (en16 S n ≠ 0 → ck16 (en16 S n - 1) (mk : Int) S m k = 161)) := fun hc => by
      rw [hck _ (by omega) (by omega)] at hc
      have hob : ¬ ob16 S n 16777216 = true := fun x => by rw [if_pos x] at hc; cases hc
      have hob2 := fun x => hob ((hobi _).2 x)
      have hfi : fi16 S n = 0 := by
        by_cases hx : fi16 S n < 0
        · exact absurd (.inl hx) hob2
        · omega
      have hen : en16 S n ≤ 16777216 := by
        by_cases hx : 16777216 < en16 S n
        · exact absurd (.inr hx) hob2
        · omega
      refine ⟨by unfold re16; rw [if_pos hfi], hen, ?_, fun hz => ?_⟩
      · rw [hck _ (by omega) hen, if_neg]
        intro x
        have := (hobi _).1 x
        omega
      · rw [hck _ (by omega) (by omega), if_pos ((hobi _).2 (.inr (by omega)))]
    have HENB : Hid (0 ≤ en16 S n ∧ -9223372036854775808 ≤ en16 S n - 1 ∧ en16 S n - 1 ≤ 9223372036854775807) := ⟨by omega, by omega, by omega⟩
    clear hte hsz hck hobi hfe hmk hi i1 hcz hn
    generalize cz16 D = cz at *
    generalize jm16 S n = jm at *
    generalize re16 S n = re at *
    go_enter Try.func8, Try.ntmps8
    go_wp2_with (first
      | (go_at_call 22; rw [← HW1.out, ← HBe.out]; refine CT.mono ?_; rintro e2 w2 ⟨rfl, b2⟩; have c3 := fun o => HBX.out _ (HW3.out w2 o b2); have c30 := fun o => (c3 o).1; have c31 := fun o => (c3 o).2.1; have c32 := fun o => (c3 o).2.2; clear CT c3)
      | (go_at_call 13; fail))
    obtain ⟨w3, hw3⟩ : ∃ w3, w3 = w2.alloc (.cells #[.int .i64 (n : Int), .int .i64 (m : Int), .int .i64 (cz : Int), .int .i64 (k : Int), .int .i64 (jm : Int), .int .i64 re] 47) := ⟨_, rfl⟩
    have b3 := HW3.out w2 (.cells #[.int .i64 (n : Int), .int .i64 (m : Int), .int .i64 (cz : Int), .int .i64 (k : Int), .int .i64 (jm : Int), .int .i64 re] 47) b2
    have q3 : w3.heap[w2.heap.size]? = some (.cells #[.int .i64 (n : Int), .int .i64 (m : Int), .int .i64 (cz : Int), .int .i64 (k : Int), .int .i64 (jm : Int), .int .i64 re] 47 (0, 0)) := by rw [hw3]; exact heap_alloc_new w2 _
    rw [← hw3] at b3 ⊢
    refine (HCS.out w3 b3).mono ?_
    rintro e4 w4 ⟨rfl, b4⟩
    obtain ⟨bS, hbS⟩ : ∃ bS, bS = w2.heap.size := ⟨_, rfl⟩
    rw [← hbS] at q3 ⊢
    have q4 := (b4.block _ (Array.getElem?_eq_some_iff.1 q3).1).trans q3
    have b14 : Below w1.heap.size w1 w4 := b3.trans (b4.mono b3.size)
    obtain ⟨z0, z1, z2, z3, z4, z5⟩ := six_cells q4
    have hSl : bS < w4.heap.size := (Array.getElem?_eq_some_iff.1 q4).1
    have HQS : Hid (∀ W, Below w4.heap.size w4 W → W.cell? ⟨bS, 5, none⟩ = some (.int .i64 re)) := fun W hW => (six_cells ((hW.block bS hSl).trans q4)).2.2.2.2.2
    obtain ⟨d0, d1, d2⟩ := HBX.out w4 b14
    have HB14 : Hid (Below w1.heap.size w1 w4) := b14
    clear hw3 q3 q4 c30 c31 c32 b3 b4 hbS b14 b2
    go_wp2_with fail
    refine (HAW.out w4).mono ?_
    rintro e5 w5 ⟨rfl, b5⟩
    have b15 : Below w1.heap.size w1 w5 := HB14.out.trans (b5.mono HB14.out.size)
    obtain ⟨d0, d1, d2⟩ := HBX.out w5 b15
    have y5 := HQS.out w5 b5
    have HB15 : Hid (Below w1.heap.size w1 w5) := b15
    have HB5 : Hid (Below w4.heap.size w4 w5) := b5
    clear b15 b5 z0 z1 z2 z3 z4 z5
    go_wp2_with fail
    refine (HCK.out w5 16777216 (mk : Int) HB15.out).mono ?_
    rintro e6 w6 ⟨rfl, b6⟩
    have b16 : Below w1.heap.size w1 w6 := HB15.out.trans (b6.mono HB15.out.size)
    have b46 : Below w4.heap.size w4 w6 := HB5.out.trans (b6.mono HB5.out.size)
    have HBW : Hid (∀ W, Below w1.heap.size w1 W → Below w.heap.size w W) := fun W hW => b1.trans (hW.mono b1.size)
    by_cases hc : ck16 16777216 (mk : Int) S m k = 0
    · obtain ⟨k1, k2, k3, k4⟩ := HCK2.out hc
      rw [hc]
      have hEN := HENB.out
      have HC3 : Hid (∀ W, Below w1.heap.size w1 W → Calls Try.prog 12 #[.agg #[.slice sa n sc, .slice da m dc, .slice xa k xc], .int .i64 (en16 S n), .int .i64 (mk : Int)] W fun e w' => e = .returned (.int .i64 0) ∧ Below W.heap.size W w') := fun W hW => by
        have := HCK.out W (en16 S n) (mk : Int) hW
        rw [k3] at this
        exact this
      have HC4 : Hid (en16 S n ≠ 0 → ∀ W, Below w1.heap.size w1 W → Calls Try.prog 12 #[.agg #[.slice sa n sc, .slice da m dc, .slice xa k xc], .int .i64 (en16 S n - 1), .int .i64 (mk : Int)] W fun e w' => e = .returned (.int .i64 161) ∧ Below W.heap.size W w') := fun hz W hW => by
        have := HCK.out W (en16 S n - 1) (mk : Int) hW
        rw [k4 hz] at this
        exact this
      subst k1
      have hsub : IntKind.i64.wrap (en16 S n - 1) = en16 S n - 1 := IntWalk.i64_in _ hEN.2
      clear k3 k4 HCK2 HCK HENB hc hEN k2
      generalize en16 S n = en at *
      obtain ⟨d0, d1, d2⟩ := HBX.out w6 b16
      have y6 := HQS.out w6 b46
      by_cases hz : en = 0
      · subst hz
        go_wp2_with fail
        refine (HC3.out w6 b16).mono ?_
        rintro e7 w7 ⟨rfl, b7⟩
        have b17 : Below w1.heap.size w1 w7 := b16.trans (b7.mono b16.size)
        have y7 := HQS.out w7 (b46.trans (b7.mono b46.size))
        clear HC4
        go_wp2_with fail
        go_ret
        exact ⟨rfl, HBW.out _ b17⟩
      · have hzb : (en == 0) = false := by simpa using hz
        have HC4' := HC4.out hz
        clear HC4
        go_wp2_with fail
        refine (HC3.out w6 b16).mono ?_
        rintro e7 w7 ⟨rfl, b7⟩
        have b17 : Below w1.heap.size w1 w7 := b16.trans (b7.mono b16.size)
        have y7 := HQS.out w7 (b46.trans (b7.mono b46.size))
        obtain ⟨d0, d1, d2⟩ := HBX.out w7 b17
        go_wp2_with fail
        refine (HC4' w7 b17).mono ?_
        rintro e8 w8 ⟨rfl, b8⟩
        go_wp2_with fail
        go_ret
        exact ⟨rfl, HBW.out _ (b17.trans (b8.mono b17.size))⟩
    · have hcb : (ck16 16777216 (mk : Int) S m k != 0) = true := by simpa using hc
      generalize ck16 16777216 (mk : Int) S m k = cv at *
      clear HCK2 HCK
      go_wp2_with fail
      go_ret
      exact ⟨rfl, HBW.out _ b16⟩
  · have hte : teR16 S D n m k = .tuple #[.agg #[.int .i64 0, .int .i64 0, .int .i64 0, .int .i64 0, .int .i64 0, .int .i64 0], .int .i64 (it16 S m k)] := by unfold teR16; rw [if_neg hi]
    have hsz : szR16 S m k = .tuple #[.int .i64 0, .int .i64 (it16 S m k)] := by unfold szR16 sz16; rw [if_neg hi]; rfl
    rw [hte] at CT
    rw [hsz] at HCS
    have hne : (it16 S m k != 0) = true := by simpa using hi
    clear HCK hte hsz hcz
    generalize it16 S m k = er at *
    go_enter Try.func8, Try.ntmps8
    go_wp2_with (first
      | (go_at_call 22; rw [← HW1.out, ← HBe.out]; refine CT.mono ?_; rintro e2 w2 ⟨rfl, b2⟩; have c3 := fun o => HBX.out _ (HW3.out w2 o b2); have c30 := fun o => (c3 o).1; have c31 := fun o => (c3 o).2.1; have c32 := fun o => (c3 o).2.2; clear CT c3)
      | (go_at_call 13; fail)
      | (go_at_call 10; fail))
    obtain ⟨w3, hw3⟩ : ∃ w3, w3 = w2.alloc (.cells #[.int .i64 0, .int .i64 0, .int .i64 0, .int .i64 0, .int .i64 0, .int .i64 0] 47) := ⟨_, rfl⟩
    have b3 := HW3.out w2 (.cells #[.int .i64 0, .int .i64 0, .int .i64 0, .int .i64 0, .int .i64 0, .int .i64 0] 47) b2
    have q3 : w3.heap[w2.heap.size]? = some (.cells #[.int .i64 0, .int .i64 0, .int .i64 0, .int .i64 0, .int .i64 0, .int .i64 0] 47 (0, 0)) := by rw [hw3]; exact heap_alloc_new w2 _
    rw [← hw3] at b3 ⊢
    refine (HCS.out w3 b3).mono ?_
    rintro e4 w4 ⟨rfl, b4⟩
    have q4 := (b4.block _ (Array.getElem?_eq_some_iff.1 q3).1).trans q3
    obtain ⟨z0, z1, z2, z3, z4, z5⟩ := six_cells q4
    have B4 : Below w.heap.size w w4 := (b1.trans (b3.mono b1.size)).trans (b4.mono (b1.trans (b3.mono b1.size)).size)
    clear hw3 q3 q4 c30 c31 c32 b3 b4
    go_wp2_with fail
    refine (HAW.out w4).mono ?_
    rintro e5 w5 ⟨rfl, b5⟩
    go_wp2_with fail
    go_ret
    exact ⟨rfl, B4.trans (b5.mono B4.size)⟩
end Go.Proofs.Ytkddjgdfjbjfpaa
