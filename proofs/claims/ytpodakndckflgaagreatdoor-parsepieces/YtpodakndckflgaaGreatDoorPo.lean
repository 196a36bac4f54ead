import Derived.Test.YtpodakndckflgaaGreatDoorPn
namespace Go.Proofs.YtpodakndckflgaaGreatDoor
open Go.RowKit Go.Shelf
set_option linter.unusedVariables false
set_option maxRecDepth 100000 in
theorem pmost18 (x : Int) (w : World) (h1 : 64 ≤ x) (h2 : x ≤ 65536) : Calls Tryz.prog 72 #[.int .i64 x] w fun e w' => e = .returned (.int .i64 (6 * x)) ∧ w' = w := by
  have C : Calls Tryz.prog 88 #[.int .i64 x] w fun e w' => e = .returned (.bool true) ∧ w' = w := by
    go_enter Tryz.func88, Tryz.ntmps88
    go_wp2
    go_ret
    exact ⟨rfl, rfl⟩
  have hw : IntKind.i64.wrap (6 * x) = 6 * x := IntWalk.i64_in _ (by omega)
  go_enter Tryz.func72, Tryz.ntmps72
  go_wp2_with fail
  refine C.mono ?_
  rintro e w' ⟨rfl, hw'⟩
  subst w'
  go_wp2_with fail
  go_ret
  exact ⟨rfl, rfl⟩
def fz18 (q1 q2 q3 q5 k0 k1 k2 : Nat) : Array Value := #[.func (.func 69) #[] #[], .func (.func 87) #[] #[.pointer (some ⟨q1, 0, none⟩), .pointer (some ⟨q1 + 1, 0, none⟩)], .func (.func 71) #[] #[], .func (.func 87) #[] #[.pointer (some ⟨q2, 0, none⟩), .pointer (some ⟨q2 + 1, 0, none⟩)], .func (.func 73) #[] #[], .func (.func 87) #[] #[.pointer (some ⟨q3, 0, none⟩), .pointer (some ⟨q3 + 1, 0, none⟩)], .func (.func 74) #[] #[], .func (.func 75) #[] #[.pointer (some ⟨q5, 0, none⟩)], .func (.func 89) #[] #[.pointer (some ⟨k0, 0, none⟩)], .func (.func 90) #[] #[.pointer (some ⟨k0, 0, none⟩)], .func (.func 89) #[] #[.pointer (some ⟨k1, 0, none⟩)], .func (.func 90) #[] #[.pointer (some ⟨k1, 0, none⟩)], .func (.func 89) #[] #[.pointer (some ⟨k2, 0, none⟩)], .func (.func 90) #[] #[.pointer (some ⟨k2, 0, none⟩)]]
structure Sf18 (g q1 q2 q3 q5 k0 k1 k2 : Nat) (h : Hd18) (Z : Int) (V : World) : Prop where
  fl : V.heap[g]? = some (.cells (fz18 q1 q2 q3 q5 k0 k1 k2) 142 (0, 0))
  a1 : Bz18 V q1 0
  a2 : Bz18 V (q1 + 1) h.o
  b1 : Bz18 V q2 1
  b2 : Bz18 V (q2 + 1) (6 * h.wi)
  c1 : Bz18 V q3 0
  c2 : Bz18 V (q3 + 1) Z
  z : Bz18 V q5 Z
  d0 : Bz18 V k0 0
  d1 : Bz18 V k1 1
  d2 : Bz18 V k2 2
theorem Sf18.old {g q1 q2 q3 q5 k0 k1 k2 : Nat} {h : Hd18} {Z : Int} {V V' : World} (x : Sf18 g q1 q2 q3 q5 k0 k1 k2 h Z V) (hb : Below V.heap.size V V') : Sf18 g q1 q2 q3 q5 k0 k1 k2 h Z V' :=
  ⟨(hb.block _ (Array.getElem?_eq_some_iff.1 x.fl).1).trans x.fl, x.a1.old hb, x.a2.old hb, x.b1.old hb, x.b2.old hb, x.c1.old hb, x.c2.old hb, x.z.old hb, x.d0.old hb, x.d1.old hb, x.d2.old hb⟩
def SfQ18 (w : World) (h : Hd18) (Z : Int) (e : Ending) (w' : World) : Prop := ∃ g q1 q2 q3 q5 k0 k1 k2, e = .returned (.slice (some ⟨g, 0, none⟩) 7 7) ∧ Sf18 g q1 q2 q3 q5 k0 k1 k2 h Z w' ∧ Below w.heap.size w w'
set_option maxRecDepth 100000 in
set_option maxHeartbeats 8000000 in
theorem psfs18 (h : Hd18) (i : Int) (w : World) (hk : h.Ok) : Calls Tryz.prog 51 #[.agg #[.int .i64 h.o, .int .i64 h.n, .int .u32 h.so, .int .u32 h.sn, .int .i64 h.wi, .int .i64 h.lo], .int .i64 i] w (SfQ18 w h (siz18 h i)) := by
  have hmf : ∀ (fn : Fn) (first cap : Array Value) (w : World), (Instr.makeFunc fn first cap).run Tryz.prog w = .ok (.func fn first cap) w := fun _ _ _ _ => rfl
  obtain ⟨wA, b4, X⟩ := bx18 w h
  have HX : Hid (Bx18 w h wA b4) := X
  have CS := psiz18 h i wA
  obtain ⟨l0, l1, l2, l3, l4, l5⟩ := X.cl (Below.refl _ _)
  rw [← X.wa] at l0 l1 l2 l3 l4 l5
  rw [← X.b] at l0 l1 l2 l3 l4 l5
  have HC : Hid (∀ V, Below wA.heap.size wA V → Cl18 V b4 h) := fun V hV => X.cl hV
  have HM : Hid (∀ V, Calls Tryz.prog 72 #[.int .i64 h.wi] V fun e w' => e = .returned (.int .i64 (6 * h.wi)) ∧ w' = V) := fun V => pmost18 h.wi V hk.2.2.1.1 hk.2.2.1.2
  generalize siz18 h i = Z at *
  clear X hk
  go_enter Tryz.func51, Tryz.ntmps51
  go_wp2_with fail
  rw [HX.out.wa, HX.out.b]
  clear l0 l1 l2 l3 l4 l5
  refine CS.mono ?_
  rintro e1 w1 ⟨rfl, b1⟩
  have HB1 : Hid (Below wA.heap.size wA w1) := b1
  have cZ := cb16 w1 #[.int .i64 Z] 3
  obtain ⟨w2, hw2⟩ : ∃ w2, w2 = w1.alloc (.cells #[.int .i64 Z] 3) := ⟨_, rfl⟩
  rw [← hw2] at cZ
  obtain ⟨q5, hq5⟩ : ∃ q5, q5 = w1.heap.size := ⟨_, rfl⟩
  have HW2 : Hid (w1.alloc (.cells #[.int .i64 Z] 3) = w2) := hw2.symm
  have HQ5 : Hid (w1.heap.size = q5) := hq5.symm
  have z2 : Bz18 w2 q5 Z := by rw [hq5]; exact cZ.cl
  have HB2 : Hid (Below wA.heap.size wA w2) := b1.trans (cZ.bl.mono b1.size)
  clear b1 CS cZ hw2 hq5
  go_wp2_with fail
  rw [HW2.out, HQ5.out]
  have HD2 : Hid (Below w2.heap.size w2 w2.drew) := (Below.refl _ _).drew
  have HS : Hid (∀ V, Below w2.heap.size w2 V → V.cell? ⟨b4, 0, none⟩ = some (.int .i64 h.o) ∧ V.cell? ⟨b4, 4, none⟩ = some (.int .i64 h.wi) ∧ V.cell? ⟨q5, 0, none⟩ = some (.int .i64 Z)) := fun V hV => by
    have c := HC.out V (HB2.out.trans (hV.mono HB2.out.size))
    exact ⟨c.c0, c.c4, one_cell16 (z2.old hV)⟩
  have HZ : Hid (∀ V, Below w2.heap.size w2 V → Bz18 V q5 Z) := fun V hV => z2.old hV
  clear z2
  refine plain_region16 (fun V => V.cell? ⟨b4, 0, none⟩ = some (.int .i64 h.o) ∧ V.cell? ⟨b4, 4, none⟩ = some (.int .i64 h.wi) ∧ V.cell? ⟨q5, 0, none⟩ = some (.int .i64 Z)) 19 (by kernel_rfl) (HS.out _ HD2.out) (fun hHeld => ?_)
  refine wpAnyK_take (i := 0) (v := .pointer (some ⟨b4, 0, none⟩)) rfl (by kernel_rfl) (by kernel_rfl) (by kernel_rfl) (by kernel_rfl) (fun _ _ _ h => h) (Or.inl ⟨by rfl, fun w hSw => by go_simp⟩) hHeld ?_
  simp only [List.getElem_toArray, List.getElem_cons_zero, Act.put, List.setIfInBounds_toArray, List.set_cons_zero, List.set_cons_succ]
  refine wpAnyK_take (i := 1) (v := .int .i64 h.o) rfl (by kernel_rfl) (by kernel_rfl) (by kernel_rfl) (by kernel_rfl) (fun _ _ _ h => h) (Or.inl ⟨by rfl, fun w hSw => by go_simp⟩) hHeld ?_
  simp only [List.getElem_toArray, List.getElem_cons_zero, List.getElem_cons_succ, Act.put, List.setIfInBounds_toArray, List.set_cons_zero, List.set_cons_succ]
  refine wpAnyK_take (i := 4) (v := .pointer (some ⟨b4, 4, none⟩)) rfl (by kernel_rfl) (by kernel_rfl) (by kernel_rfl) (by kernel_rfl) (fun _ _ _ h => h) (Or.inl ⟨by rfl, fun w hSw => by go_simp⟩) hHeld ?_
  simp only [List.getElem_toArray, List.getElem_cons_zero, List.getElem_cons_succ, Act.put, List.setIfInBounds_toArray, List.set_cons_zero, List.set_cons_succ]
  refine wpAnyK_take (i := 5) (v := .int .i64 h.wi) rfl (by kernel_rfl) (by kernel_rfl) (by kernel_rfl) (by kernel_rfl) (fun _ _ _ h => h) (Or.inl ⟨by rfl, fun w hSw => by go_simp⟩) hHeld ?_
  simp only [List.getElem_toArray, List.getElem_cons_zero, List.getElem_cons_succ, Act.put, List.setIfInBounds_toArray, List.set_cons_zero, List.set_cons_succ]
  refine wpAnyK_take (i := 9) (v := .int .i64 Z) rfl (by kernel_rfl) (by kernel_rfl) (by kernel_rfl) (by kernel_rfl) (fun _ _ _ h => h) (Or.inl ⟨by rfl, fun w hSw => by go_simp⟩) hHeld ?_
  simp only [List.getElem_toArray, List.getElem_cons_zero, List.getElem_cons_succ, Act.put, List.setIfInBounds_toArray, List.set_cons_zero, List.set_cons_succ]
  refine wpAnyK_take (i := 12) (v := .func (.func 75) #[] #[.pointer (some ⟨q5, 0, none⟩)]) rfl (by kernel_rfl) (by kernel_rfl) (by kernel_rfl) (by kernel_rfl) (fun _ _ _ h => h) (Or.inl ⟨by rfl, fun w hSw => by go_simp⟩) hHeld ?_
  simp only [List.getElem_toArray, List.getElem_cons_zero, List.getElem_cons_succ, Act.put, List.setIfInBounds_toArray, List.set_cons_zero, List.set_cons_succ]
  refine wpAnyK_take (i := 13) (v := .agg #[.func (.func 74) #[] #[], .func (.func 75) #[] #[.pointer (some ⟨q5, 0, none⟩)]]) rfl (by kernel_rfl) (by kernel_rfl) (by kernel_rfl) (by kernel_rfl) (fun _ _ _ h => h) (Or.inl ⟨by rfl, fun w hSw => by go_simp⟩) hHeld ?_
  simp only [List.getElem_toArray, List.getElem_cons_zero, List.getElem_cons_succ, Act.put, List.setIfInBounds_toArray, List.set_cons_zero, List.set_cons_succ]
  refine wpAnyK_one (i := 2) (by kernel_rfl) rfl (fun K hK => ?_)
  (try simp only [List.getElem_toArray, List.getElem_cons_zero, List.getElem_cons_succ, Act.put, List.setIfInBounds_toArray, List.set_cons_zero, List.set_cons_succ])
  go_simp
  refine (pbtz18 0 h.o w2.drew).mono ?_
  rintro e3 w3 ⟨rfl, x1, x2, b3⟩
  have HB3 : Hid (Below w2.heap.size w2 w3) := HD2.out.trans (b3.mono (Nat.le_refl _))
  have HE1 : Hid (Bz18 w3 w2.heap.size 0 ∧ Bz18 w3 (w2.heap.size + 1) h.o) := ⟨x1, x2⟩
  clear x1 x2 b3
  obtain ⟨q1, hq1⟩ : ∃ q1, q1 = w2.heap.size := ⟨_, rfl⟩
  have hqq : w2.drew.heap.size = q1 := hq1.symm
  rw [hqq]
  rw [← hq1] at HE1
  clear hqq hq1
  refine hK.out _ _ (fun _ => HS.out w3 HB3.out) (fun hHeld0 => ?_)
  have hHeld := hHeld0 (by decide)
  clear hHeld0 hK K
  (try simp only [List.getElem_toArray, List.getElem_cons_zero, List.getElem_cons_succ, Act.put, List.setIfInBounds_toArray, List.set_cons_zero, List.set_cons_succ])
  refine wpAnyK_take (i := 3) (v := .agg #[.func (.func 69) #[] #[], .func (.func 87) #[] #[.pointer (some ⟨q1, 0, none⟩), .pointer (some ⟨q1 + 1, 0, none⟩)]]) rfl (by kernel_rfl) (by kernel_rfl) (by kernel_rfl) (by kernel_rfl) (fun _ _ _ h => h) (Or.inl ⟨by rfl, fun w hSw => by go_simp⟩) hHeld ?_
  simp only [List.getElem_toArray, List.getElem_cons_zero, List.getElem_cons_succ, Act.put, List.setIfInBounds_toArray, List.set_cons_zero, List.set_cons_succ]
  refine wpAnyK_one (i := 6) (by kernel_rfl) rfl (fun K hK => ?_)
  (try simp only [List.getElem_toArray, List.getElem_cons_zero, List.getElem_cons_succ, Act.put, List.setIfInBounds_toArray, List.set_cons_zero, List.set_cons_succ])
  go_simp
  refine (HM.out w3).mono ?_
  rintro e4 w4 ⟨rfl, hw4⟩
  subst w4
  refine hK.out _ _ (fun _ => HS.out w3 HB3.out) (fun hHeld0 => ?_)
  have hHeld := hHeld0 (by decide)
  clear hHeld0 hK K
  (try simp only [List.getElem_toArray, List.getElem_cons_zero, List.getElem_cons_succ, Act.put, List.setIfInBounds_toArray, List.set_cons_zero, List.set_cons_succ])
  refine wpAnyK_one (i := 7) (by kernel_rfl) rfl (fun K hK => ?_)
  (try simp only [List.getElem_toArray, List.getElem_cons_zero, List.getElem_cons_succ, Act.put, List.setIfInBounds_toArray, List.set_cons_zero, List.set_cons_succ])
  go_simp
  refine (pbtz18 1 (6 * h.wi) w3).mono ?_
  rintro e5 w5 ⟨rfl, x1, x2, b5⟩
  have HB5 : Hid (Below w2.heap.size w2 w5) := HB3.out.trans (b5.mono HB3.out.size)
  have H35 : Hid (Below w3.heap.size w3 w5) := b5
  have HE2 : Hid (Bz18 w5 w3.heap.size 1 ∧ Bz18 w5 (w3.heap.size + 1) (6 * h.wi)) := ⟨x1, x2⟩
  clear x1 x2 b5
  obtain ⟨q2, hq2⟩ : ∃ q2, q2 = w3.heap.size := ⟨_, rfl⟩
  rw [← hq2] at HE2 ⊢
  clear hq2
  refine hK.out _ _ (fun _ => HS.out w5 HB5.out) (fun hHeld0 => ?_)
  have hHeld := hHeld0 (by decide)
  clear hHeld0 hK K
  (try simp only [List.getElem_toArray, List.getElem_cons_zero, List.getElem_cons_succ, Act.put, List.setIfInBounds_toArray, List.set_cons_zero, List.set_cons_succ])
  refine wpAnyK_take (i := 8) (v := .agg #[.func (.func 71) #[] #[], .func (.func 87) #[] #[.pointer (some ⟨q2, 0, none⟩), .pointer (some ⟨q2 + 1, 0, none⟩)]]) rfl (by kernel_rfl) (by kernel_rfl) (by kernel_rfl) (by kernel_rfl) (fun _ _ _ h => h) (Or.inl ⟨by rfl, fun w hSw => by go_simp⟩) hHeld ?_
  simp only [List.getElem_toArray, List.getElem_cons_zero, List.getElem_cons_succ, Act.put, List.setIfInBounds_toArray, List.set_cons_zero, List.set_cons_succ]
  refine wpAnyK_one (i := 10) (by kernel_rfl) rfl (fun K hK => ?_)
  (try simp only [List.getElem_toArray, List.getElem_cons_zero, List.getElem_cons_succ, Act.put, List.setIfInBounds_toArray, List.set_cons_zero, List.set_cons_succ])
  go_simp
  refine (pbtz18 0 Z w5).mono ?_
  rintro e6 w6 ⟨rfl, x1, x2, b6⟩
  have HB6 : Hid (Below w2.heap.size w2 w6) := HB5.out.trans (b6.mono HB5.out.size)
  have H56 : Hid (Below w5.heap.size w5 w6) := b6
  have HE3 : Hid (Bz18 w6 w5.heap.size 0 ∧ Bz18 w6 (w5.heap.size + 1) Z) := ⟨x1, x2⟩
  clear x1 x2 b6
  obtain ⟨q3, hq3⟩ : ∃ q3, q3 = w5.heap.size := ⟨_, rfl⟩
  rw [← hq3] at HE3 ⊢
  clear hq3
  refine hK.out _ _ (fun _ => HS.out w6 HB6.out) (fun hHeld0 => ?_)
  have hHeld := hHeld0 (by decide)
  clear hHeld0 hK K
  (try simp only [List.getElem_toArray, List.getElem_cons_zero, List.getElem_cons_succ, Act.put, List.setIfInBounds_toArray, List.set_cons_zero, List.set_cons_succ])
  refine wpAnyK_take (i := 11) (v := .agg #[.func (.func 73) #[] #[], .func (.func 87) #[] #[.pointer (some ⟨q3, 0, none⟩), .pointer (some ⟨q3 + 1, 0, none⟩)]]) rfl (by kernel_rfl) (by kernel_rfl) (by kernel_rfl) (by kernel_rfl) (fun _ _ _ h => h) (Or.inl ⟨by rfl, fun w hSw => by go_simp⟩) hHeld ?_
  simp only [List.getElem_toArray, List.getElem_cons_zero, List.getElem_cons_succ, Act.put, List.setIfInBounds_toArray, List.set_cons_zero, List.set_cons_succ]
  refine wpAnyK_one (i := 14) (by kernel_rfl) rfl (fun K hK => ?_)
  (try simp only [List.getElem_toArray, List.getElem_cons_zero, List.getElem_cons_succ, Act.put, List.setIfInBounds_toArray, List.set_cons_zero, List.set_cons_succ])
  go_simp
  refine (ppf18 0 w6).mono ?_
  rintro e7 w7 ⟨rfl, x1, b7⟩
  have HB7 : Hid (Below w2.heap.size w2 w7) := HB6.out.trans (b7.mono HB6.out.size)
  have H67 : Hid (Below w6.heap.size w6 w7) := b7
  have HE4 : Hid (Bz18 w7 w6.heap.size 0) := x1
  clear x1 b7
  obtain ⟨k0, hk0⟩ : ∃ k0, k0 = w6.heap.size := ⟨_, rfl⟩
  rw [← hk0] at HE4 ⊢
  clear hk0
  refine hK.out _ _ (fun _ => HS.out w7 HB7.out) (fun hHeld0 => ?_)
  have hHeld := hHeld0 (by decide)
  clear hHeld0 hK K
  (try simp only [List.getElem_toArray, List.getElem_cons_zero, List.getElem_cons_succ, Act.put, List.setIfInBounds_toArray, List.set_cons_zero, List.set_cons_succ])
  refine wpAnyK_one (i := 15) (by kernel_rfl) rfl (fun K hK => ?_)
  (try simp only [List.getElem_toArray, List.getElem_cons_zero, List.getElem_cons_succ, Act.put, List.setIfInBounds_toArray, List.set_cons_zero, List.set_cons_succ])
  go_simp
  refine (ppf18 1 w7).mono ?_
  rintro e8 w8 ⟨rfl, x1, b8⟩
  have HB8 : Hid (Below w2.heap.size w2 w8) := HB7.out.trans (b8.mono HB7.out.size)
  have H78 : Hid (Below w7.heap.size w7 w8) := b8
  have HE5 : Hid (Bz18 w8 w7.heap.size 1) := x1
  clear x1 b8
  obtain ⟨k1, hk1⟩ : ∃ k1, k1 = w7.heap.size := ⟨_, rfl⟩
  rw [← hk1] at HE5 ⊢
  clear hk1
  refine hK.out _ _ (fun _ => HS.out w8 HB8.out) (fun hHeld0 => ?_)
  have hHeld := hHeld0 (by decide)
  clear hHeld0 hK K
  (try simp only [List.getElem_toArray, List.getElem_cons_zero, List.getElem_cons_succ, Act.put, List.setIfInBounds_toArray, List.set_cons_zero, List.set_cons_succ])
  refine wpAnyK_one (i := 16) (by kernel_rfl) rfl (fun K hK => ?_)
  (try simp only [List.getElem_toArray, List.getElem_cons_zero, List.getElem_cons_succ, Act.put, List.setIfInBounds_toArray, List.set_cons_zero, List.set_cons_succ])
  go_simp
  refine (ppf18 2 w8).mono ?_
  rintro e9 w9 ⟨rfl, x1, b9⟩
  have HB9 : Hid (Below w2.heap.size w2 w9) := HB8.out.trans (b9.mono HB8.out.size)
  have H89 : Hid (Below w8.heap.size w8 w9) := b9
  have HE6 : Hid (Bz18 w9 w8.heap.size 2) := x1
  clear x1 b9
  obtain ⟨k2, hk2⟩ : ∃ k2, k2 = w8.heap.size := ⟨_, rfl⟩
  rw [← hk2] at HE6 ⊢
  clear hk2
  refine hK.out _ _ (fun _ => HS.out w9 HB9.out) (fun hHeld0 => ?_)
  have hHeld := hHeld0 (by decide)
  clear hHeld0 hK K
  (try simp only [List.getElem_toArray, List.getElem_cons_zero, List.getElem_cons_succ, Act.put, List.setIfInBounds_toArray, List.set_cons_zero, List.set_cons_succ])
  have HFI : Hid (SfQ18 w h Z (.returned (.slice (some ⟨w9.heap.size, 0, none⟩) 7 7)) (w9.alloc (.cells (fz18 q1 q2 q3 q5 k0 k1 k2) 142))) := by
    have cF := cb16 w9 (fz18 q1 q2 q3 q5 k0 k1 k2) 142
    have d9 := cF.bl
    have d8 := H89.out.trans (d9.mono H89.out.size)
    have d7 := H78.out.trans (d8.mono H78.out.size)
    have d6 := H67.out.trans (d7.mono H67.out.size)
    have d5 := H56.out.trans (d6.mono H56.out.size)
    have d3 := H35.out.trans (d5.mono H35.out.size)
    have d2 := HB9.out.trans (d9.mono HB9.out.size)
    have dA := HB2.out.trans (d2.mono HB2.out.size)
    exact ⟨_, q1, q2, q3, q5, k0, k1, k2, rfl, ⟨cF.cl, HE1.out.1.old d3, HE1.out.2.old d3, HE2.out.1.old d5, HE2.out.2.old d5, HE3.out.1.old d6, HE3.out.2.old d6, HZ.out _ d2, HE4.out.old d7, HE5.out.old d8, HE6.out.old d9⟩, HX.out.bl.trans (dA.mono HX.out.bl.size)⟩
  have HS9 : Hid (∀ o, (w9.alloc o).cell? ⟨b4, 0, none⟩ = some (.int .i64 h.o) ∧ (w9.alloc o).cell? ⟨b4, 4, none⟩ = some (.int .i64 h.wi) ∧ (w9.alloc o).cell? ⟨q5, 0, none⟩ = some (.int .i64 Z)) := fun o => HS.out _ (HB9.out.trans ((Below.refl _ _).alloc HB9.out.size o))
  clear HE1 HE2 HE3 HE4 HE5 HE6
  refine wpAnyK_one (i := 17) (by kernel_rfl) rfl (fun K hK => ?_)
  (try simp only [List.getElem_toArray, List.getElem_cons_zero, List.getElem_cons_succ, Act.put, List.setIfInBounds_toArray, List.set_cons_zero, List.set_cons_succ])
  go_simp
  refine hK.out _ _ (fun _ => HS9.out _) (fun hHeld0 => ?_)
  have hHeld := hHeld0 (by decide)
  clear hHeld0 hK K
  (try simp only [List.getElem_toArray, List.getElem_cons_zero, List.getElem_cons_succ, Act.put, List.setIfInBounds_toArray, List.set_cons_zero, List.set_cons_succ])
  refine wpAnyK_one (i := 18) (by kernel_rfl) rfl (fun K hK => ?_)
  (try simp only [List.getElem_toArray, List.getElem_cons_zero, List.getElem_cons_succ, Act.put, List.setIfInBounds_toArray, List.set_cons_zero, List.set_cons_succ])
  go_simp
  refine hK.out _ _ (fun _ => HS9.out _) (fun hHeld0 => ?_)
  clear hHeld0 hK K
  (try simp only [List.getElem_toArray, List.getElem_cons_zero, List.getElem_cons_succ, Act.put, List.setIfInBounds_toArray, List.set_cons_zero, List.set_cons_succ])
  refine wpAnyK_done (by kernel_rfl) ?_ _
  go_wp2_with fail
  go_ret
  exact HFI.out
end Go.Proofs.YtpodakndckflgaaGreatDoor
