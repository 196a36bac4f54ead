
import Derived.Test.YtboangeopbblnaaPuRe
import Derived.Test.YtboangeopbblnaaPuF
namespace Go.Proofs.Ytboangeopbblnaa
open Go.RowKit Go.Maps Go.WideMaps Go.MuLone Go.Shelf
set_option linter.unusedVariables false
set_option linter.unusedSimpArgs false
set_option maxRecDepth 100000

/-! The law's does. -/
theorem app_two23 {W : World} {B n : Nat} {v : Value} {xs : List Value} (h : W.ownsRow B 9 1 v n xs) (a b : ByteArray) (hn : n ≤ 1024) (hB : B ≤ W.heap.size) :
    ∃ ra rc W', (Builtin.append_ #[35, 35] 35 #[v, .slice (some ⟨W.heap.size, 0, none⟩) 2 2]).run Try.prog (W.alloc (.cells #[.string a, .string b] 9)) = .ok (.slice ra (n + 2) rc) W' ∧ Kp (fun k => v.ownBlock = some k) W W' := by
  obtain ⟨i0, hi, hz0, hz1, hz2⟩ := info_parts info_s23
  have hadd : ∀ j, (⟨W.heap.size, 0, none⟩ : Addr).add j = ⟨W.heap.size, j, none⟩ := by intro j; unfold Addr.add; split <;> simp_all
  have hh := new_blk23 W (.cells #[.string a, .string b] 9)
  obtain ⟨v', W', hr, ho, hg, _, _⟩ := run_app_st (P := Try.prog) 35 35 B 9 i0 (.string ByteArray.empty) 16 Try.underlying35 hi hz0 hz1 hz2 rfl (W.alloc (.cells #[.string a, .string b] 9)) (h.alloc _) ⟨W.heap.size, 0, none⟩ 2 2 [.string a, .string b] rfl
    (fun j u hu => by rw [hadd]; simp only [World.cell?, hh]; simpa using hu) (by intro u hu; simp at hu; rcases hu with rfl | rfl <;> rfl) (by omega) (by omega) (by simp; omega)
  obtain ⟨ra, rc, hv, _⟩ := own_at23 ho
  subst hv
  exact ⟨ra, rc, W', hr, (Kp.alloc (S := fun k => v.ownBlock = some k) W _).trans (Kp.grown hg (fun i e => e)) (fun _ _ e => e)⟩
theorem drop_get23 {xs ys : List ByteArray} {i : Nat} (h : xs.drop i = ys.drop i) : xs[i]? = ys[i]? := by
  have h1 : (xs.drop i)[0]? = (ys.drop i)[0]? := by rw [h]
  simpa [List.getElem?_drop] using h1
theorem drop_set23 {xs ys : List ByteArray} {i : Nat} (h : xs.drop i = ys.drop i) (t : ByteArray) : (xs.set i t).drop (i + 1) = ys.drop (i + 1) := by
  rw [List.drop_set_of_lt (by omega), ← List.drop_drop, ← List.drop_drop, h]
set_option maxRecDepth 100000 in
set_option maxHeartbeats 32000000 in
theorem pdoes23 {w : World} {p l m x g : Nat} {S : Pu23} (ha : Pm23 w p l m S) (hb : Rr23 w x g S) (hd : x ≠ l ∧ x ≠ m ∧ x ≠ p ∧ g ≠ l ∧ g ≠ m ∧ g ≠ p) (o : Oq23) (of : Of23 o) :
    Calls Try.prog 11 #[.pointer (some ⟨p, 0, none⟩), .pointer (some ⟨x, 0, none⟩), .agg #[.bool o.h, .string o.s, .int .i64 o.n]] w fun e w' => e = .returned (.bool true) ∧ ∃ g', Dk23 w w' p l m x g g' (stp23 S o) (stp23 S o) := by
  obtain ⟨w1, hw1⟩ : ∃ w1, w1 = w.alloc (.cells #[.bool o.h, .string o.s, .int .i64 o.n] 30) := ⟨_, rfl⟩
  obtain ⟨gu, hgu⟩ : ∃ gu, gu = w.heap.size := ⟨_, rfl⟩
  have HU : Hid (w.alloc (.cells #[.bool o.h, .string o.s, .int .i64 o.n] 30) = w1 ∧ w.heap.size = gu) := ⟨hw1.symm, hgu.symm⟩
  have HB1 : Hid (Below w.heap.size w w1) := by rw [hw1]; exact (Below.refl _ _).alloc (Nat.le_refl _) _
  have qu : w1.heap[gu]? = some (.cells #[.bool o.h, .string o.s, .int .i64 o.n] 30 (0, 0)) := by rw [hw1, hgu]; exact new_blk23 _ _
  have D0 : Hid (Dk23 w1 w1 p l m x g g S S) := ⟨ha.below HB1.out, hb.below HB1.out, hd, .inl rfl, Kp.refl _ _⟩
  have HCU : Hid (∀ V g' A C, Dk23 w1 V p l m x g g' A C → V.cell? ⟨gu, 1, none⟩ = some (.string o.s) ∧ V.cell? ⟨gu, 2, none⟩ = some (.int .i64 o.n)) := fun V g' A C h => by
    have h1 := ha.lt3
    have h2 := hb.lt
    have hk := h.k.heap qu (by omega)
    exact ⟨three_cell1 hk, three_cell2 hk⟩
  have c0 := three_cell0 qu
  have c1 := three_cell1 qu
  have c2 := three_cell2 qu
  have HOF : Hid (Of23 o) := of
  obtain ⟨X, hX⟩ : ∃ X, X = stp23 S o := ⟨_, rfl⟩
  have HX : Hid (X = stp23 S o) := hX
  obtain ⟨v0, hv0⟩ : ∃ v, v = w1.drew := ⟨_, rfl⟩
  have HV0 : Hid (w1.drew = v0) := hv0.symm
  have HVV : Hid (Dk23 w1 v0 p l m x g g S S) := by rw [hv0]; exact D0.out.below ((Below.refl _ _).drew)
  rw [← hX]
  clear hw1 hgu qu ha hb hd of hX hv0
  go_enter Try.func11, Try.ntmps11
  go_upto_if 15 with fail
  rw [HU.out.1, HU.out.2]
  go_cut [2] from 14 to 41 (fun s2 wc => ∃ g2, Dk23 w1 wc p l m x g g2 X X)
  case first =>
    cases hh : o.h with
    | true =>
      obtain ⟨E, hE⟩ : ∃ E, E = hE23 S o.s o.n := ⟨_, rfl⟩
      have hXX : X = hS23 S o.s o.n := by rw [HX.out]; unfold stp23; rw [hh]; rfl
      have HP1 : Hid (∀ V, Dk23 w1 V p l m x g g S S → Calls Try.prog 15 #[.pointer (some ⟨p, 0, none⟩), .string o.s, .int .i64 o.n] V fun e w' => e = .returned (.int .i64 E) ∧ Dk23 w1 w' p l m x g g X S) := fun V hV => by rw [hE, hXX]; exact kHld23 hV HOF.out.s o.n
      have HP2 : Hid (∀ V, Dk23 w1 V p l m x g g X S → Calls Try.prog 25 #[.pointer (some ⟨x, 0, none⟩), .string o.s, .int .i64 o.n] V fun e w' => e = .returned (.int .i64 E) ∧ ∃ g', Dk23 w1 w' p l m x g g' X X) := fun V hV => by have := jHld23 hV o.s o.n; rw [← hE, ← hXX] at this; exact this
      clear hE hXX
      go_upto_region 2 with fail
      refine plain_region16 (fun V => V.cell? ⟨gu, 1, none⟩ = some (.string o.s) ∧ V.cell? ⟨gu, 2, none⟩ = some (.int .i64 o.n)) 13 (by kernel_rfl) (by rw [HV0.out]; exact HCU.out v0 _ _ _ HVV.out) (fun hHeld => ?_)
      rw [HV0.out] at hHeld ⊢
      clear c0 c1 c2
      refine wpAnyK_take (i := 0) (v := .pointer (some ⟨p, 0, none⟩)) rfl (by kernel_rfl) (by kernel_rfl) (by kernel_rfl) (by kernel_rfl) (fun _ _ _ h => h) (Or.inl ⟨by rfl, fun w hSw => by go_simp⟩) hHeld ?_
      simp only [List.getElem_toArray, List.getElem_cons_zero, Act.put, List.setIfInBounds_toArray, List.set_cons_zero, List.set_cons_succ]
      refine wpAnyK_take (i := 1) (v := .pointer (some ⟨gu, 1, none⟩)) rfl (by kernel_rfl) (by kernel_rfl) (by kernel_rfl) (by kernel_rfl) (fun _ _ _ h => h) (Or.inl ⟨by rfl, fun w hSw => by go_simp⟩) hHeld ?_
      simp only [List.getElem_toArray, List.getElem_cons_zero, List.getElem_cons_succ, Act.put, List.setIfInBounds_toArray, List.set_cons_zero, List.set_cons_succ]
      refine wpAnyK_take (i := 2) (v := .string o.s) rfl (by kernel_rfl) (by kernel_rfl) (by kernel_rfl) (by kernel_rfl) (fun _ _ _ h => h) (Or.inl ⟨by rfl, fun w hSw => by go_simp⟩) hHeld ?_
      simp only [List.getElem_toArray, List.getElem_cons_zero, List.getElem_cons_succ, Act.put, List.setIfInBounds_toArray, List.set_cons_zero, List.set_cons_succ]
      refine wpAnyK_take (i := 3) (v := .pointer (some ⟨gu, 2, none⟩)) rfl (by kernel_rfl) (by kernel_rfl) (by kernel_rfl) (by kernel_rfl) (fun _ _ _ h => h) (Or.inl ⟨by rfl, fun w hSw => by go_simp⟩) hHeld ?_
      simp only [List.getElem_toArray, List.getElem_cons_zero, List.getElem_cons_succ, Act.put, List.setIfInBounds_toArray, List.set_cons_zero, List.set_cons_succ]
      refine wpAnyK_take (i := 4) (v := .int .i64 o.n) rfl (by kernel_rfl) (by kernel_rfl) (by kernel_rfl) (by kernel_rfl) (fun _ _ _ h => h) (Or.inl ⟨by rfl, fun w hSw => by go_simp⟩) hHeld ?_
      simp only [List.getElem_toArray, List.getElem_cons_zero, List.getElem_cons_succ, Act.put, List.setIfInBounds_toArray, List.set_cons_zero, List.set_cons_succ]
      refine wpAnyK_take (i := 6) (v := .pointer (some ⟨x, 0, none⟩)) rfl (by kernel_rfl) (by kernel_rfl) (by kernel_rfl) (by kernel_rfl) (fun _ _ _ h => h) (Or.inl ⟨by rfl, fun w hSw => by go_simp⟩) hHeld ?_
      simp only [List.getElem_toArray, List.getElem_cons_zero, List.getElem_cons_succ, Act.put, List.setIfInBounds_toArray, List.set_cons_zero, List.set_cons_succ]
      refine wpAnyK_take (i := 7) (v := .pointer (some ⟨gu, 1, none⟩)) rfl (by kernel_rfl) (by kernel_rfl) (by kernel_rfl) (by kernel_rfl) (fun _ _ _ h => h) (Or.inl ⟨by rfl, fun w hSw => by go_simp⟩) hHeld ?_
      simp only [List.getElem_toArray, List.getElem_cons_zero, List.getElem_cons_succ, Act.put, List.setIfInBounds_toArray, List.set_cons_zero, List.set_cons_succ]
      refine wpAnyK_take (i := 8) (v := .string o.s) rfl (by kernel_rfl) (by kernel_rfl) (by kernel_rfl) (by kernel_rfl) (fun _ _ _ h => h) (Or.inl ⟨by rfl, fun w hSw => by go_simp⟩) hHeld ?_
      simp only [List.getElem_toArray, List.getElem_cons_zero, List.getElem_cons_succ, Act.put, List.setIfInBounds_toArray, List.set_cons_zero, List.set_cons_succ]
      refine wpAnyK_take (i := 9) (v := .pointer (some ⟨gu, 2, none⟩)) rfl (by kernel_rfl) (by kernel_rfl) (by kernel_rfl) (by kernel_rfl) (fun _ _ _ h => h) (Or.inl ⟨by rfl, fun w hSw => by go_simp⟩) hHeld ?_
      simp only [List.getElem_toArray, List.getElem_cons_zero, List.getElem_cons_succ, Act.put, List.setIfInBounds_toArray, List.set_cons_zero, List.set_cons_succ]
      refine wpAnyK_take (i := 10) (v := .int .i64 o.n) rfl (by kernel_rfl) (by kernel_rfl) (by kernel_rfl) (by kernel_rfl) (fun _ _ _ h => h) (Or.inl ⟨by rfl, fun w hSw => by go_simp⟩) hHeld ?_
      simp only [List.getElem_toArray, List.getElem_cons_zero, List.getElem_cons_succ, Act.put, List.setIfInBounds_toArray, List.set_cons_zero, List.set_cons_succ]
      refine wpAnyK_one (i := 5) (by kernel_rfl) rfl (fun K hK => ?_)
      (try simp only [List.getElem_toArray, List.getElem_cons_zero, List.getElem_cons_succ, Act.put, List.setIfInBounds_toArray, List.set_cons_zero, List.set_cons_succ])
      go_simp
      refine (HP1.out v0 HVV.out).mono ?_
      rintro e v1 ⟨rfl, hD⟩
      have D1 : Hid (Dk23 w1 v1 p l m x g g X S) := hD
      clear hD hHeld
      refine hK.out _ _ (fun _ => HCU.out v1 _ _ _ D1.out) (fun hHeld0 => ?_)
      have hHeld := hHeld0 (by decide)
      clear hHeld0 hK K
      (try simp only [List.getElem_toArray, List.getElem_cons_zero, List.getElem_cons_succ, Act.put, List.setIfInBounds_toArray, List.set_cons_zero, List.set_cons_succ])
      clear hHeld
      refine wpAnyK_one (i := 11) (by kernel_rfl) rfl (fun K hK => ?_)
      (try simp only [List.getElem_toArray, List.getElem_cons_zero, List.getElem_cons_succ, Act.put, List.setIfInBounds_toArray, List.set_cons_zero, List.set_cons_succ])
      go_simp
      refine (HP2.out v1 D1.out).mono ?_
      rintro e v2 ⟨rfl, g2, hD⟩
      have D2 : Hid (Dk23 w1 v2 p l m x g g2 X X) := hD
      clear hD
      refine hK.out _ _ (fun _ => HCU.out v2 _ _ _ D2.out) (fun hHeld0 => ?_)
      have hHeld := hHeld0 (by decide)
      clear hHeld0 hK K
      (try simp only [List.getElem_toArray, List.getElem_cons_zero, List.getElem_cons_succ, Act.put, List.setIfInBounds_toArray, List.set_cons_zero, List.set_cons_succ])
      clear hHeld
      refine wpAnyK_one (i := 12) (by kernel_rfl) rfl (fun K hK => ?_)
      (try simp only [List.getElem_toArray, List.getElem_cons_zero, List.getElem_cons_succ, Act.put, List.setIfInBounds_toArray, List.set_cons_zero, List.set_cons_succ])
      go_simp
      refine hK.out _ _ (fun _ => HCU.out v2 _ _ _ D2.out) (fun _ => ?_)
      clear hK K
      refine wpAnyK_done (by kernel_rfl) ?_ _
      go_wp2_with fail
      go_meet
      case rel => exact ⟨g2, D2.out⟩
    | false =>
      obtain ⟨E, hE⟩ : ∃ E, E = oE23 S o.s o.n := ⟨_, rfl⟩
      have hXX : X = oS23 S o.s o.n := by rw [HX.out]; unfold stp23; rw [hh]; rfl
      have HP1 : Hid (∀ V, Dk23 w1 V p l m x g g S S → Calls Try.prog 14 #[.pointer (some ⟨p, 0, none⟩), .string o.s, .int .i64 o.n] V fun e w' => e = .returned (.int .i64 E) ∧ Dk23 w1 w' p l m x g g X S) := fun V hV => by rw [hE, hXX]; exact kOpn23 hV HOF.out.s o.n
      have HP2 : Hid (∀ V, Dk23 w1 V p l m x g g X S → Calls Try.prog 26 #[.pointer (some ⟨x, 0, none⟩), .string o.s, .int .i64 o.n] V fun e w' => e = .returned (.int .i64 E) ∧ ∃ g', Dk23 w1 w' p l m x g g' X X) := fun V hV => by have := jOpn23 hV HOF.out.s o.n; rw [← hE, ← hXX] at this; exact this
      clear hE hXX
      go_upto_region 4 with fail
      refine plain_region16 (fun V => V.cell? ⟨gu, 1, none⟩ = some (.string o.s) ∧ V.cell? ⟨gu, 2, none⟩ = some (.int .i64 o.n)) 13 (by kernel_rfl) (by rw [HV0.out]; exact HCU.out v0 _ _ _ HVV.out) (fun hHeld => ?_)
      rw [HV0.out] at hHeld ⊢
      clear c0 c1 c2
      refine wpAnyK_take (i := 0) (v := .pointer (some ⟨p, 0, none⟩)) rfl (by kernel_rfl) (by kernel_rfl) (by kernel_rfl) (by kernel_rfl) (fun _ _ _ h => h) (Or.inl ⟨by rfl, fun w hSw => by go_simp⟩) hHeld ?_
      simp only [List.getElem_toArray, List.getElem_cons_zero, Act.put, List.setIfInBounds_toArray, List.set_cons_zero, List.set_cons_succ]
      refine wpAnyK_take (i := 1) (v := .pointer (some ⟨gu, 1, none⟩)) rfl (by kernel_rfl) (by kernel_rfl) (by kernel_rfl) (by kernel_rfl) (fun _ _ _ h => h) (Or.inl ⟨by rfl, fun w hSw => by go_simp⟩) hHeld ?_
      simp only [List.getElem_toArray, List.getElem_cons_zero, List.getElem_cons_succ, Act.put, List.setIfInBounds_toArray, List.set_cons_zero, List.set_cons_succ]
      refine wpAnyK_take (i := 2) (v := .string o.s) rfl (by kernel_rfl) (by kernel_rfl) (by kernel_rfl) (by kernel_rfl) (fun _ _ _ h => h) (Or.inl ⟨by rfl, fun w hSw => by go_simp⟩) hHeld ?_
      simp only [List.getElem_toArray, List.getElem_cons_zero, List.getElem_cons_succ, Act.put, List.setIfInBounds_toArray, List.set_cons_zero, List.set_cons_succ]
      refine wpAnyK_take (i := 3) (v := .pointer (some ⟨gu, 2, none⟩)) rfl (by kernel_rfl) (by kernel_rfl) (by kernel_rfl) (by kernel_rfl) (fun _ _ _ h => h) (Or.inl ⟨by rfl, fun w hSw => by go_simp⟩) hHeld ?_
      simp only [List.getElem_toArray, List.getElem_cons_zero, List.getElem_cons_succ, Act.put, List.setIfInBounds_toArray, List.set_cons_zero, List.set_cons_succ]
      refine wpAnyK_take (i := 4) (v := .int .i64 o.n) rfl (by kernel_rfl) (by kernel_rfl) (by kernel_rfl) (by kernel_rfl) (fun _ _ _ h => h) (Or.inl ⟨by rfl, fun w hSw => by go_simp⟩) hHeld ?_
      simp only [List.getElem_toArray, List.getElem_cons_zero, List.getElem_cons_succ, Act.put, List.setIfInBounds_toArray, List.set_cons_zero, List.set_cons_succ]
      refine wpAnyK_take (i := 6) (v := .pointer (some ⟨x, 0, none⟩)) rfl (by kernel_rfl) (by kernel_rfl) (by kernel_rfl) (by kernel_rfl) (fun _ _ _ h => h) (Or.inl ⟨by rfl, fun w hSw => by go_simp⟩) hHeld ?_
      simp only [List.getElem_toArray, List.getElem_cons_zero, List.getElem_cons_succ, Act.put, List.setIfInBounds_toArray, List.set_cons_zero, List.set_cons_succ]
      refine wpAnyK_take (i := 7) (v := .pointer (some ⟨gu, 1, none⟩)) rfl (by kernel_rfl) (by kernel_rfl) (by kernel_rfl) (by kernel_rfl) (fun _ _ _ h => h) (Or.inl ⟨by rfl, fun w hSw => by go_simp⟩) hHeld ?_
      simp only [List.getElem_toArray, List.getElem_cons_zero, List.getElem_cons_succ, Act.put, List.setIfInBounds_toArray, List.set_cons_zero, List.set_cons_succ]
      refine wpAnyK_take (i := 8) (v := .string o.s) rfl (by kernel_rfl) (by kernel_rfl) (by kernel_rfl) (by kernel_rfl) (fun _ _ _ h => h) (Or.inl ⟨by rfl, fun w hSw => by go_simp⟩) hHeld ?_
      simp only [List.getElem_toArray, List.getElem_cons_zero, List.getElem_cons_succ, Act.put, List.setIfInBounds_toArray, List.set_cons_zero, List.set_cons_succ]
      refine wpAnyK_take (i := 9) (v := .pointer (some ⟨gu, 2, none⟩)) rfl (by kernel_rfl) (by kernel_rfl) (by kernel_rfl) (by kernel_rfl) (fun _ _ _ h => h) (Or.inl ⟨by rfl, fun w hSw => by go_simp⟩) hHeld ?_
      simp only [List.getElem_toArray, List.getElem_cons_zero, List.getElem_cons_succ, Act.put, List.setIfInBounds_toArray, List.set_cons_zero, List.set_cons_succ]
      refine wpAnyK_take (i := 10) (v := .int .i64 o.n) rfl (by kernel_rfl) (by kernel_rfl) (by kernel_rfl) (by kernel_rfl) (fun _ _ _ h => h) (Or.inl ⟨by rfl, fun w hSw => by go_simp⟩) hHeld ?_
      simp only [List.getElem_toArray, List.getElem_cons_zero, List.getElem_cons_succ, Act.put, List.setIfInBounds_toArray, List.set_cons_zero, List.set_cons_succ]
      refine wpAnyK_one (i := 5) (by kernel_rfl) rfl (fun K hK => ?_)
      (try simp only [List.getElem_toArray, List.getElem_cons_zero, List.getElem_cons_succ, Act.put, List.setIfInBounds_toArray, List.set_cons_zero, List.set_cons_succ])
      go_simp
      refine (HP1.out v0 HVV.out).mono ?_
      rintro e v1 ⟨rfl, hD⟩
      have D1 : Hid (Dk23 w1 v1 p l m x g g X S) := hD
      clear hD hHeld
      refine hK.out _ _ (fun _ => HCU.out v1 _ _ _ D1.out) (fun hHeld0 => ?_)
      have hHeld := hHeld0 (by decide)
      clear hHeld0 hK K
      (try simp only [List.getElem_toArray, List.getElem_cons_zero, List.getElem_cons_succ, Act.put, List.setIfInBounds_toArray, List.set_cons_zero, List.set_cons_succ])
      clear hHeld
      refine wpAnyK_one (i := 11) (by kernel_rfl) rfl (fun K hK => ?_)
      (try simp only [List.getElem_toArray, List.getElem_cons_zero, List.getElem_cons_succ, Act.put, List.setIfInBounds_toArray, List.set_cons_zero, List.set_cons_succ])
      go_simp
      refine (HP2.out v1 D1.out).mono ?_
      rintro e v2 ⟨rfl, g2, hD⟩
      have D2 : Hid (Dk23 w1 v2 p l m x g g2 X X) := hD
      clear hD
      refine hK.out _ _ (fun _ => HCU.out v2 _ _ _ D2.out) (fun hHeld0 => ?_)
      have hHeld := hHeld0 (by decide)
      clear hHeld0 hK K
      (try simp only [List.getElem_toArray, List.getElem_cons_zero, List.getElem_cons_succ, Act.put, List.setIfInBounds_toArray, List.set_cons_zero, List.set_cons_succ])
      clear hHeld
      refine wpAnyK_one (i := 12) (by kernel_rfl) rfl (fun K hK => ?_)
      (try simp only [List.getElem_toArray, List.getElem_cons_zero, List.getElem_cons_succ, Act.put, List.setIfInBounds_toArray, List.set_cons_zero, List.set_cons_succ])
      go_simp
      refine hK.out _ _ (fun _ => HCU.out v2 _ _ _ D2.out) (fun _ => ?_)
      clear hK K
      refine wpAnyK_done (by kernel_rfl) ?_ _
      go_wp2_with fail
      go_meet
      case rel => exact ⟨g2, D2.out⟩
  case rest =>
    obtain ⟨g2, hD⟩ := hcut
    obtain ⟨w3, hw3⟩ : ∃ w3, w3 = wc := ⟨_, rfl⟩
    have HW3 : Hid (wc = w3) := hw3.symm
    rw [← hw3] at hD
    obtain ⟨u0, hu0⟩ : ∃ v, v = w3.drew := ⟨_, rfl⟩
    have HU0 : Hid (w3.drew = u0) := hu0.symm
    obtain ⟨XH, hXH⟩ : ∃ y, y = hs23 X.L := ⟨_, rfl⟩
    obtain ⟨XM, hXM⟩ : ∃ y, y = ms23 X.L := ⟨_, rfl⟩
    obtain ⟨XP, hXP⟩ : ∃ y, y = X.pk := ⟨_, rfl⟩
    obtain ⟨N, hN⟩ : ∃ N, N = X.L.length := ⟨_, rfl⟩
    have HH1 : Hid (∀ V, Dk23 w1 V p l m x g g2 X X → Calls Try.prog 12 #[.pointer (some ⟨p, 0, none⟩)] V fun e w' => e = .returned (.int .i64 XH) ∧ Dk23 w1 w' p l m x g g2 X X) := fun V hV => by rw [hXH]; exact kHed23 hV
    have HH2 : Hid (∀ V, Dk23 w1 V p l m x g g2 X X → Calls Try.prog 13 #[.pointer (some ⟨x, 0, none⟩)] V fun e w' => e = .returned (.int .i64 XH) ∧ Dk23 w1 w' p l m x g g2 X X) := fun V hV => by rw [hXH]; exact jHed23 hV
    have HPk : Hid (∀ V, Dk23 w1 V p l m x g g2 X X → Calls Try.prog 16 #[.pointer (some ⟨p, 0, none⟩)] V fun e w' => e = .returned (.int .i64 XP) ∧ Dk23 w1 w' p l m x g g2 X X) := fun V hV => by rw [hXP]; exact kPek23 hV
    have HM1 : Hid (∀ V, Dk23 w1 V p l m x g g2 X X → Calls Try.prog 17 #[.pointer (some ⟨p, 0, none⟩)] V fun e w' => e = .returned (.int .i64 XM) ∧ Dk23 w1 w' p l m x g g2 X X) := fun V hV => by rw [hXM]; exact kMst23 hV
    have HM2 : Hid (∀ V, Dk23 w1 V p l m x g g2 X X → Calls Try.prog 27 #[.pointer (some ⟨x, 0, none⟩)] V fun e w' => e = .returned (.int .i64 XM) ∧ Dk23 w1 w' p l m x g g2 X X) := fun V hV => by rw [hXM]; exact jMst23 hV
    have HPC : Hid (∀ V, Dk23 w1 V p l m x g g2 X X → V.cell? ⟨x, 1, none⟩ = some (.int .i64 XP)) := fun V hV => by rw [hXP]; exact hV.pk
    have HN : Hid (N = X.L.length ∧ N ≤ 1024) := ⟨hN, by rw [hN]; exact hD.b.ok.ln⟩
    have hN24 : N ≤ 1024 := HN.out.2
    have E0 : Hid (Dk23 w1 u0 p l m x g g2 X X) := by rw [hu0]; exact hD.below ((Below.refl _ _).drew)
    clear hD hw3 hu0 hXH hXM hXP hN c0 c1 c2
    go_upto_region 6 with fail
    rw [HW3.out]
    refine plain_region16 (fun V => V.cell? ⟨x, 1, none⟩ = some (.int .i64 XP)) 21 (by kernel_rfl) (by rw [HU0.out]; exact HPC.out u0 E0.out) (fun hHeld => ?_)
    rw [HU0.out] at hHeld ⊢
    refine wpAnyK_take (i := 0) (v := .pointer (some ⟨p, 0, none⟩)) rfl (by kernel_rfl) (by kernel_rfl) (by kernel_rfl) (by kernel_rfl) (fun _ _ _ h => h) (Or.inl ⟨by rfl, fun w hSw => by go_simp⟩) hHeld ?_
    simp only [List.getElem_toArray, List.getElem_cons_zero, Act.put, List.setIfInBounds_toArray, List.set_cons_zero, List.set_cons_succ]
    refine wpAnyK_take (i := 2) (v := .pointer (some ⟨x, 0, none⟩)) rfl (by kernel_rfl) (by kernel_rfl) (by kernel_rfl) (by kernel_rfl) (fun _ _ _ h => h) (Or.inl ⟨by rfl, fun w hSw => by go_simp⟩) hHeld ?_
    simp only [List.getElem_toArray, List.getElem_cons_zero, List.getElem_cons_succ, Act.put, List.setIfInBounds_toArray, List.set_cons_zero, List.set_cons_succ]
    refine wpAnyK_one (i := 1) (by kernel_rfl) rfl (fun K hK => ?_)
    (try simp only [List.getElem_toArray, List.getElem_cons_zero, List.getElem_cons_succ, Act.put, List.setIfInBounds_toArray, List.set_cons_zero, List.set_cons_succ])
    go_simp
    refine (HH1.out u0 E0.out).mono ?_
    rintro e u1 ⟨rfl, hDn⟩
    have E1 : Hid (Dk23 w1 u1 p l m x g g2 X X) := hDn
    clear hDn hHeld
    refine hK.out _ _ (fun _ => HPC.out u1 E1.out) (fun hHeld0 => ?_)
    have hHeld := hHeld0 (by decide)
    clear hHeld0 hK K
    (try simp only [List.getElem_toArray, List.getElem_cons_zero, List.getElem_cons_succ, Act.put, List.setIfInBounds_toArray, List.set_cons_zero, List.set_cons_succ])
    refine wpAnyK_one (i := 3) (by kernel_rfl) rfl (fun K hK => ?_)
    (try simp only [List.getElem_toArray, List.getElem_cons_zero, List.getElem_cons_succ, Act.put, List.setIfInBounds_toArray, List.set_cons_zero, List.set_cons_succ])
    go_simp
    refine (HH2.out u1 E1.out).mono ?_
    rintro e u2 ⟨rfl, hDn⟩
    have E2 : Hid (Dk23 w1 u2 p l m x g g2 X X) := hDn
    clear hDn hHeld
    refine hK.out _ _ (fun _ => HPC.out u2 E2.out) (fun hHeld0 => ?_)
    have hHeld := hHeld0 (by decide)
    clear hHeld0 hK K
    (try simp only [List.getElem_toArray, List.getElem_cons_zero, List.getElem_cons_succ, Act.put, List.setIfInBounds_toArray, List.set_cons_zero, List.set_cons_succ])
    refine wpAnyK_one (i := 4) (by kernel_rfl) rfl (fun K hK => ?_)
    (try simp only [List.getElem_toArray, List.getElem_cons_zero, List.getElem_cons_succ, Act.put, List.setIfInBounds_toArray, List.set_cons_zero, List.set_cons_succ])
    go_simp
    refine hK.out _ _ (fun _ => hHeld) (fun hHeld0 => ?_)
    have hHeld := hHeld0 (by decide)
    clear hHeld0 hK K
    (try simp only [List.getElem_toArray, List.getElem_cons_zero, List.getElem_cons_succ, Act.put, List.setIfInBounds_toArray, List.set_cons_zero, List.set_cons_succ])
    refine wpAnyK_one (i := 5) (by kernel_rfl) rfl (fun K hK => ?_)
    (try simp only [List.getElem_toArray, List.getElem_cons_zero, List.getElem_cons_succ, Act.put, List.setIfInBounds_toArray, List.set_cons_zero, List.set_cons_succ])
    go_simp
    refine hK.out _ _ (fun _ => hHeld) (fun hHeld0 => ?_)
    have hHeld := hHeld0 (by decide)
    clear hHeld0 hK K
    (try simp only [List.getElem_toArray, List.getElem_cons_zero, List.getElem_cons_succ, Act.put, List.setIfInBounds_toArray, List.set_cons_zero, List.set_cons_succ])
    refine wpAnyK_take (i := 6) (v := .pointer (some ⟨p, 0, none⟩)) rfl (by kernel_rfl) (by kernel_rfl) (by kernel_rfl) (by kernel_rfl) (fun _ _ _ h => h) (Or.inl ⟨by rfl, fun w hSw => by go_simp⟩) hHeld ?_
    simp only [List.getElem_toArray, List.getElem_cons_zero, List.getElem_cons_succ, Act.put, List.setIfInBounds_toArray, List.set_cons_zero, List.set_cons_succ]
    refine wpAnyK_take (i := 8) (v := .pointer (some ⟨x, 0, none⟩)) rfl (by kernel_rfl) (by kernel_rfl) (by kernel_rfl) (by kernel_rfl) (fun _ _ _ h => h) (Or.inl ⟨by rfl, fun w hSw => by go_simp⟩) hHeld ?_
    simp only [List.getElem_toArray, List.getElem_cons_zero, List.getElem_cons_succ, Act.put, List.setIfInBounds_toArray, List.set_cons_zero, List.set_cons_succ]
    refine wpAnyK_take (i := 9) (v := .pointer (some ⟨x, 0, none⟩)) rfl (by kernel_rfl) (by kernel_rfl) (by kernel_rfl) (by kernel_rfl) (fun _ _ _ h => h) (Or.inl ⟨by rfl, fun w hSw => by go_simp⟩) hHeld ?_
    simp only [List.getElem_toArray, List.getElem_cons_zero, List.getElem_cons_succ, Act.put, List.setIfInBounds_toArray, List.set_cons_zero, List.set_cons_succ]
    refine wpAnyK_take (i := 10) (v := .pointer (some ⟨x, 1, none⟩)) rfl (by kernel_rfl) (by kernel_rfl) (by kernel_rfl) (by kernel_rfl) (fun _ _ _ h => h) (Or.inl ⟨by rfl, fun w hSw => by go_simp⟩) hHeld ?_
    simp only [List.getElem_toArray, List.getElem_cons_zero, List.getElem_cons_succ, Act.put, List.setIfInBounds_toArray, List.set_cons_zero, List.set_cons_succ]
    refine wpAnyK_take (i := 11) (v := .int .i64 XP) rfl (by kernel_rfl) (by kernel_rfl) (by kernel_rfl) (by kernel_rfl) (fun _ _ _ h => h) (Or.inl ⟨by rfl, fun w hSw => by go_simp⟩) hHeld ?_
    simp only [List.getElem_toArray, List.getElem_cons_zero, List.getElem_cons_succ, Act.put, List.setIfInBounds_toArray, List.set_cons_zero, List.set_cons_succ]
    refine wpAnyK_one (i := 7) (by kernel_rfl) rfl (fun K hK => ?_)
    (try simp only [List.getElem_toArray, List.getElem_cons_zero, List.getElem_cons_succ, Act.put, List.setIfInBounds_toArray, List.set_cons_zero, List.set_cons_succ])
    go_simp
    refine (HPk.out u2 E2.out).mono ?_
    rintro e u3 ⟨rfl, hDn⟩
    have E3 : Hid (Dk23 w1 u3 p l m x g g2 X X) := hDn
    clear hDn hHeld
    refine hK.out _ _ (fun _ => HPC.out u3 E3.out) (fun hHeld0 => ?_)
    have hHeld := hHeld0 (by decide)
    clear hHeld0 hK K
    (try simp only [List.getElem_toArray, List.getElem_cons_zero, List.getElem_cons_succ, Act.put, List.setIfInBounds_toArray, List.set_cons_zero, List.set_cons_succ])
    refine wpAnyK_one (i := 12) (by kernel_rfl) rfl (fun K hK => ?_)
    (try simp only [List.getElem_toArray, List.getElem_cons_zero, List.getElem_cons_succ, Act.put, List.setIfInBounds_toArray, List.set_cons_zero, List.set_cons_succ])
    go_simp
    refine hK.out _ _ (fun _ => hHeld) (fun hHeld0 => ?_)
    have hHeld := hHeld0 (by decide)
    clear hHeld0 hK K
    (try simp only [List.getElem_toArray, List.getElem_cons_zero, List.getElem_cons_succ, Act.put, List.setIfInBounds_toArray, List.set_cons_zero, List.set_cons_succ])
    refine wpAnyK_one (i := 13) (by kernel_rfl) rfl (fun K hK => ?_)
    (try simp only [List.getElem_toArray, List.getElem_cons_zero, List.getElem_cons_succ, Act.put, List.setIfInBounds_toArray, List.set_cons_zero, List.set_cons_succ])
    go_simp
    refine hK.out _ _ (fun _ => hHeld) (fun hHeld0 => ?_)
    have hHeld := hHeld0 (by decide)
    clear hHeld0 hK K
    (try simp only [List.getElem_toArray, List.getElem_cons_zero, List.getElem_cons_succ, Act.put, List.setIfInBounds_toArray, List.set_cons_zero, List.set_cons_succ])
    refine wpAnyK_one (i := 14) (by kernel_rfl) rfl (fun K hK => ?_)
    (try simp only [List.getElem_toArray, List.getElem_cons_zero, List.getElem_cons_succ, Act.put, List.setIfInBounds_toArray, List.set_cons_zero, List.set_cons_succ])
    go_simp
    refine hK.out _ _ (fun _ => hHeld) (fun hHeld0 => ?_)
    have hHeld := hHeld0 (by decide)
    clear hHeld0 hK K
    (try simp only [List.getElem_toArray, List.getElem_cons_zero, List.getElem_cons_succ, Act.put, List.setIfInBounds_toArray, List.set_cons_zero, List.set_cons_succ])
    refine wpAnyK_take (i := 15) (v := .pointer (some ⟨p, 0, none⟩)) rfl (by kernel_rfl) (by kernel_rfl) (by kernel_rfl) (by kernel_rfl) (fun _ _ _ h => h) (Or.inl ⟨by rfl, fun w hSw => by go_simp⟩) hHeld ?_
    simp only [List.getElem_toArray, List.getElem_cons_zero, List.getElem_cons_succ, Act.put, List.setIfInBounds_toArray, List.set_cons_zero, List.set_cons_succ]
    refine wpAnyK_take (i := 17) (v := .pointer (some ⟨x, 0, none⟩)) rfl (by kernel_rfl) (by kernel_rfl) (by kernel_rfl) (by kernel_rfl) (fun _ _ _ h => h) (Or.inl ⟨by rfl, fun w hSw => by go_simp⟩) hHeld ?_
    simp only [List.getElem_toArray, List.getElem_cons_zero, List.getElem_cons_succ, Act.put, List.setIfInBounds_toArray, List.set_cons_zero, List.set_cons_succ]
    refine wpAnyK_one (i := 16) (by kernel_rfl) rfl (fun K hK => ?_)
    (try simp only [List.getElem_toArray, List.getElem_cons_zero, List.getElem_cons_succ, Act.put, List.setIfInBounds_toArray, List.set_cons_zero, List.set_cons_succ])
    go_simp
    refine (HM1.out u3 E3.out).mono ?_
    rintro e u4 ⟨rfl, hDn⟩
    have E4 : Hid (Dk23 w1 u4 p l m x g g2 X X) := hDn
    clear hDn hHeld
    refine hK.out _ _ (fun _ => HPC.out u4 E4.out) (fun hHeld0 => ?_)
    have hHeld := hHeld0 (by decide)
    clear hHeld0 hK K
    (try simp only [List.getElem_toArray, List.getElem_cons_zero, List.getElem_cons_succ, Act.put, List.setIfInBounds_toArray, List.set_cons_zero, List.set_cons_succ])
    refine wpAnyK_one (i := 18) (by kernel_rfl) rfl (fun K hK => ?_)
    (try simp only [List.getElem_toArray, List.getElem_cons_zero, List.getElem_cons_succ, Act.put, List.setIfInBounds_toArray, List.set_cons_zero, List.set_cons_succ])
    go_simp
    refine (HM2.out u4 E4.out).mono ?_
    rintro e u5 ⟨rfl, hDn⟩
    have E5 : Hid (Dk23 w1 u5 p l m x g g2 X X) := hDn
    clear hDn hHeld
    refine hK.out _ _ (fun _ => HPC.out u5 E5.out) (fun hHeld0 => ?_)
    have hHeld := hHeld0 (by decide)
    clear hHeld0 hK K
    (try simp only [List.getElem_toArray, List.getElem_cons_zero, List.getElem_cons_succ, Act.put, List.setIfInBounds_toArray, List.set_cons_zero, List.set_cons_succ])
    refine wpAnyK_one (i := 19) (by kernel_rfl) rfl (fun K hK => ?_)
    (try simp only [List.getElem_toArray, List.getElem_cons_zero, List.getElem_cons_succ, Act.put, List.setIfInBounds_toArray, List.set_cons_zero, List.set_cons_succ])
    go_simp
    refine hK.out _ _ (fun _ => hHeld) (fun hHeld0 => ?_)
    have hHeld := hHeld0 (by decide)
    clear hHeld0 hK K
    (try simp only [List.getElem_toArray, List.getElem_cons_zero, List.getElem_cons_succ, Act.put, List.setIfInBounds_toArray, List.set_cons_zero, List.set_cons_succ])
    refine wpAnyK_one (i := 20) (by kernel_rfl) rfl (fun K hK => ?_)
    (try simp only [List.getElem_toArray, List.getElem_cons_zero, List.getElem_cons_succ, Act.put, List.setIfInBounds_toArray, List.set_cons_zero, List.set_cons_succ])
    go_simp
    refine hK.out _ _ (fun _ => hHeld) (fun _ => ?_)
    clear hK K hHeld
    refine wpAnyK_done (by kernel_rfl) ?_ _
    go_wp2_with fail
    refine (kNam23 E5.out).mono ?_
    rintro e w8 ⟨ra, na, ca, rfl, hna, hoa, hD8, hK8⟩
    obtain rfl : N = na := by rw [hna]; exact HN.out.1
    have F8 : Hid (Dk23 w1 w8 p l m x g g2 X X ∧ w8.ownsRow u5.heap.size 9 1 (.slice ra N ca) N ((X.L.map Ho23.nm).map Value.string) ∧ u5.heap.size ≤ w8.heap.size) := ⟨hD8, hoa, hK8.size⟩
    clear hna hoa hD8 hK8
    go_wp2_with fail
    refine (kNam23 F8.out.1).mono ?_
    rintro e w9 ⟨rb, nb, cb, rfl, hnb, hob, hD9, hK9⟩
    obtain rfl : N = nb := by rw [hnb]; exact HN.out.1
    have hl5 := E5.out.a.lt3
    have hx5 := E5.out.b.lt
    have F9 : Hid (Dk23 w1 w9 p l m x g g2 X X ∧ w9.ownsRow u5.heap.size 9 1 (.slice ra N ca) N ((X.L.map Ho23.nm).map Value.string) ∧ w9.ownsRow w8.heap.size 9 1 (.slice rb N cb) N ((X.L.map Ho23.nm).map Value.string) ∧ u5.heap.size ≤ w8.heap.size ∧ w8.heap.size ≤ w9.heap.size ∧ (∀ k, (Value.slice ra N ca).ownBlock = some k → u5.heap.size ≤ k ∧ k < w8.heap.size)) :=
      ⟨hD9, own_kp F8.out.2.1 hK9 (fun k e f => by have := (F8.out.2.1.lt k e).1; omega), hob, F8.out.2.2, hK9.size, F8.out.2.1.lt⟩
    clear hnb hob hD9 hK9 F8
    go_wp2_with fail
    refine (rnam23 F9.out.1.b).mono ?_
    rintro e w10 ⟨vw, rfl, how, hB10⟩
    rw [← HN.out.1] at how
    obtain ⟨rw_, cw, hvw, hwn, hwt⟩ := own_at23 how
    clear hwn
    subst hvw
    have hob10 := own_below F9.out.2.2.1 hB10
    obtain ⟨rb', cb', hb1, hb2, hbt⟩ := own_at23 hob10
    simp only [Value.slice.injEq] at hb1
    obtain ⟨rfl, -, rfl⟩ := hb1
    have FX : Hid (Dk23 w1 w10 p l m x g g2 X X ∧ w10.ownsRow u5.heap.size 9 1 (.slice ra N ca) N ((X.L.map Ho23.nm).map Value.string) ∧ u5.heap.size ≤ w10.heap.size) := ⟨F9.out.1.below hB10, own_below F9.out.2.1 hB10, by have := F9.out.2.2.2; have := hB10.size; omega⟩
    have HROW : Hid (∀ j y, (X.L.map Ho23.nm)[j]? = some y → ∃ gb gw, rb = some ⟨gb, 0, none⟩ ∧ rw_ = some ⟨gw, 0, none⟩ ∧ (∀ V, Kp (fun k => (Value.slice ra N ca).ownBlock = some k) w10 V → V.cell? ⟨gb, j, none⟩ = some (.string y) ∧ V.cell? ⟨gw, j, none⟩ = some (.string y))) := fun j y hy => by
      obtain ⟨gb, h1, h2, h3, h4⟩ := hbt j (.string y) (by rw [List.getElem?_map, hy]; rfl)
      obtain ⟨gw, h5, h6, h7, h8⟩ := hwt j (.string y) (by rw [List.getElem?_map, hy]; rfl)
      have hz := F9.out.2.2.2
      refine ⟨gb, gw, h1, h5, fun V hV => ⟨?_, ?_⟩⟩
      · exact (World.cell?_of_block (a := ⟨gb, j, none⟩) (hV.block gb h3 (fun e => by have := (hz.2.2 gb e).2; omega))).trans h4
      · exact (World.cell?_of_block (a := ⟨gw, j, none⟩) (hV.block gw h7 (fun e => by have := (hz.2.2 gw e).2; omega))).trans h8
    have HRB : Hid (∀ k, (Value.slice ra N ca).ownBlock = some k → u5.heap.size ≤ k ∧ k < w8.heap.size) := F9.out.2.2.2.2.2
    have HL5 : Hid ((p < u5.heap.size ∧ l < u5.heap.size ∧ m < u5.heap.size) ∧ (x < u5.heap.size ∧ g2 < u5.heap.size) ∧ w1.heap.size ≤ u5.heap.size) := ⟨hl5, hx5, E5.out.k.size⟩
    have hlN : (X.L.map Ho23.nm).length = N := by rw [List.length_map]; exact HN.out.1.symm
    have HLN : Hid ((X.L.map Ho23.nm).length = N) := hlN
    obtain ⟨nm, hnm⟩ : ∃ nm, nm = X.L.map Ho23.nm := ⟨_, rfl⟩
    rw [← hnm] at FX HROW HLN
    clear how hwt hob10 hb2 hbt hB10 hl5 hx5 F9 hnm hlN
    go_wp2_with fail
    go_loopw [83] (fun ti wv => ∃ (i : Nat) (xs : List ByteArray), i ≤ N ∧ ti = .int .i64 (i : Int) ∧ xs.length = N ∧ xs.drop i = nm.drop i ∧ wv.ownsRow u5.heap.size 9 1 (.slice ra N ca) N (xs.map Value.string) ∧ Kp (fun k => (Value.slice ra N ca).ownBlock = some k) w10 wv) (fun ti _ => N - (intOf ti).toNat)
    case atStart => exact ⟨0, nm, by omega, rfl, HLN.out, rfl, FX.out.2.1, Kp.refl _ _⟩
    case round =>
      obtain ⟨i, xs, hin, rfl, hxl, hxd, hown, hK⟩ := hrel
      by_cases hi : i < N
      · have hii : (i : Int) < (N : Int) := by omega
        have hiw : IntKind.i64.wrap ((i : Int) + 1) = ((i + 1 : Nat) : Int) := by rw [IntWalk.i64_in _ (by omega)]; omega
        obtain ⟨y, hy⟩ : ∃ y, nm[i]? = some y := ⟨_, List.getElem?_eq_getElem (by rw [HLN.out]; exact hi)⟩
        obtain ⟨gb, gw, hrb, hrw, hcs⟩ := HROW.out i y hy
        have y2 := (hcs wr hK).2
        have hxy : xs[i]? = some y := by rw [drop_get23 hxd]; exact hy
        obtain ⟨ra', ca', e1, e1n, hat⟩ := own_at23 hown
        clear e1n
        simp only [Value.slice.injEq] at e1
        obtain ⟨rfl, -, rfl⟩ := e1
        obtain ⟨ga, hra, hgl, hga, y1⟩ := hat i (.string y) (by rw [List.getElem?_map, hxy]; rfl)
        subst hrb
        subst hrw
        subst hra
        have hfz := hown.frozenAt i
        have hbb : (y.toList == y.toList) = true := beq_self_eq_true _
        have hst := (hown.stored i (.string ⟨#[116, 117, 114, 110, 101, 100]⟩)).1
        rw [← List.map_set] at hst
        have HST : Hid (∃ zs : List ByteArray, zs.length = N ∧ zs.drop (i + 1) = nm.drop (i + 1) ∧ (wr.setCell ⟨ga, i, none⟩ (.string ⟨#[116, 117, 114, 110, 101, 100]⟩)).ownsRow u5.heap.size 9 1 (.slice (some ⟨ga, 0, none⟩) N ca) N (zs.map Value.string) ∧ Kp (fun k => (Value.slice (some ⟨ga, 0, none⟩) N ca).ownBlock = some k) w10 (wr.setCell ⟨ga, i, none⟩ (.string ⟨#[116, 117, 114, 110, 101, 100]⟩))) :=
          ⟨_, by rw [List.length_set]; exact hxl, drop_set23 hxd _, hst, hK.trans (Kp.set (S := fun k => (Value.slice (some ⟨ga, 0, none⟩) N ca).ownBlock = some k) rfl _) (fun _ _ e => e)⟩
        clear hst hy hcs hxy hat hga hgl hown hK hxl hxd
        go_wp2_with fail
        go_roundw
        case rel =>
          obtain ⟨zs, z1, z2, z3, z4⟩ := HST.out
          exact ⟨i + 1, zs, by omega, rfl, z1, z2, z3, z4⟩
        case measure => simp [intOf]; omega
      · obtain rfl : i = N := by omega
        have hii : ¬ (i : Int) < (i : Int) := by omega
        obtain ⟨w11, hw11⟩ : ∃ w11, w11 = wr := ⟨_, rfl⟩
        have HW11 : Hid (wr = w11) := hw11.symm
        rw [← hw11] at hown hK
        have h11 := FX.out.2.2
        have h12 := hK.size
        obtain ⟨rz, cz, w12, hr12, k12⟩ := app_two23 hown ⟨#[109, 111, 114, 101]⟩ ⟨#[109, 111, 114, 101]⟩ (by omega) (by omega)
        have H12 : Hid (Kp (fun k => (Value.slice ra i ca).ownBlock = some k) w10 w12) := hK.trans k12 (fun _ _ e => e)
        have HR12 : Hid ((Builtin.append_ #[35, 35] 35 #[.slice ra i ca, .slice (some ⟨w11.heap.size, 0, none⟩) 2 2]).run Try.prog (w11.alloc (.cells #[.string ⟨#[109, 111, 114, 101]⟩, .string ⟨#[109, 111, 114, 101]⟩] 9)) = .ok (.slice rz (i + 2) cz) w12) := hr12
        have hw2 : IntKind.i64.wrap ((i : Int) + 2) = ((i + 2 : Nat) : Int) := by rw [IntWalk.i64_in _ (by omega)]; omega
        clear hown hK hxd hxl hw11 h11 h12 k12 hr12
        go_upto_region 19 with fail
        rw [HW11.out]
        go_wp2_with (at_builtin; refine wpList_plain rfl fun K hK => ?_; refine operwp_app23 _ _ _ rfl rfl rfl HR12.out ?_; refine hK _ _ ?_; clear hK K)
        go_loopw [103] (fun ti wv => ∃ j : Nat, j ≤ i ∧ ti = .int .i64 (j : Int) ∧ w12 = wv) (fun ti _ => i - (intOf ti).toNat)
        case atStart => exact ⟨0, by omega, rfl, rfl⟩
        case round =>
          obtain ⟨j, hjn, rfl, rfl⟩ := hrel
          by_cases hj : j < i
          · have hjj : (j : Int) < (i : Int) := by omega
            have hjw : IntKind.i64.wrap ((j : Int) + 1) = ((j + 1 : Nat) : Int) := by rw [IntWalk.i64_in _ (by omega)]; omega
            obtain ⟨y, hy⟩ : ∃ y, nm[j]? = some y := ⟨_, List.getElem?_eq_getElem (by rw [HLN.out]; exact hj)⟩
            obtain ⟨gb, gw, hrb, hrw, hcs⟩ := HROW.out j y hy
            obtain ⟨y1, y2⟩ := hcs w12 H12.out
            subst hrb
            subst hrw
            have hbb : (y.toList == y.toList) = true := beq_self_eq_true _
            clear hcs hy
            go_wp2_with fail
            go_roundw
            case rel => exact ⟨j + 1, by omega, rfl, by trivial⟩
            case measure => simp [intOf]; omega
          · obtain rfl : j = i := by omega
            have hjj : ¬ (j : Int) < (j : Int) := by omega
            go_wp2_with fail
            go_ret
            refine ⟨rfl, g2, (FX.out.1.rows H12.out (fun k e => ?_) (fun k e => ?_)).base HB1.out⟩
            · have h1 := HRB.out k e; have h2 := HL5.out; omega
            · have h1 := HRB.out k e; have h2 := HL5.out; omega
end Go.Proofs.Ytboangeopbblnaa
