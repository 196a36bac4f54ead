import Derived.Test.YtmojfdccobebfaaGreatDoorPs
import Derived.Test.YtmojfdccobebfaaGreatDoorPu
import Derived.Test.YtmojfdccobebfaaGreatDoorPa
import Derived.WalkKit
import Derived.ProofKit
import Derived.OpenShut
import Derived.SizedLaws
import Derived.Test.YtmojfdccobebfaaGreatDoorPc
import Derived.Lib.SmallJoins
import Derived.Test.YtmojfdccobebfaaGreatDoorPm
import Derived.Laws.IdiomArrays
namespace Go.Proofs.YtmojfdccobebfaaGreatDoor
open Go.RowKit Go.Shelf
set_option linter.unusedVariables false

/-! FrameSizes. -/
theorem sb18_bd (h : Hd18) (i : Int) (s : Sz18) : ∀ z ∈ sb18 h i s, 0 ≤ z ∧ z ≤ 255 := by
  unfold sb18
  split
  · rename_i hf
    obtain ⟨hk, hn, hs⟩ := ft18_ok hf
    have hbd := fs18_bd hs (siz18_bd hk hn) hk.1.2
    refine encA_bd _ (fun z hz => ?_)
    obtain ⟨x0, x1, x2, x3, x4, x5, x6⟩ := hbd
    simp [sv18] at hz
    omega
  · intro z hz; simp at hz
theorem sb18_len (h : Hd18) (i : Int) (s : Sz18) : (sb18 h i s).length ≤ 1000 := by
  unfold sb18
  split
  · have := (encA_len (sv18 s)).2
    simp only [sv18, List.length_cons, List.length_nil] at this ⊢
    omega
  · simp
set_option maxRecDepth 100000 in
set_option maxHeartbeats 8000000 in
theorem frameSizes_walk (h : Hd18) (i : Int) (s : Sz18) (w : World) (ht : Tab w) :
    Calls Tryz.prog 6 #[.agg #[.int .i64 h.o, .int .i64 h.n, .int .u32 h.so, .int .u32 h.sn, .int .i64 h.wi, .int .i64 h.lo], .int .i64 i, .agg #[.int .i64 s.p, .int .i64 s.r0, .int .i64 s.r1, .int .i64 s.r2, .int .i64 s.k0, .int .i64 s.k1, .int .i64 s.k2]] w fun e w' => e = .returned (.bool true) ∧ Below w.heap.size w w' := by
  obtain ⟨wB, b4, b5, X⟩ := bw18 w h s
  have HX : Hid (Bw18 w h s wB b4 b5) := X
  have HCC : Hid (∀ V, Below wB.heap.size wB V → V.cell? ⟨b4, 0, none⟩ = some (.int .i64 h.o) ∧ V.cell? ⟨b4, 1, none⟩ = some (.int .i64 h.n) ∧ V.cell? ⟨b4, 2, none⟩ = some (.int .u32 h.so) ∧ V.cell? ⟨b4, 3, none⟩ = some (.int .u32 h.sn) ∧ V.cell? ⟨b4, 4, none⟩ = some (.int .i64 h.wi) ∧ V.cell? ⟨b4, 5, none⟩ = some (.int .i64 h.lo) ∧ V.cell? ⟨b5, 0, none⟩ = some (.int .i64 s.p) ∧ V.cell? ⟨b5, 1, none⟩ = some (.int .i64 s.r0) ∧ V.cell? ⟨b5, 2, none⟩ = some (.int .i64 s.r1) ∧ V.cell? ⟨b5, 3, none⟩ = some (.int .i64 s.r2) ∧ V.cell? ⟨b5, 4, none⟩ = some (.int .i64 s.k0) ∧ V.cell? ⟨b5, 5, none⟩ = some (.int .i64 s.k1) ∧ V.cell? ⟨b5, 6, none⟩ = some (.int .i64 s.k2)) := fun V hV => by
    have c := X.cl hV
    have d := X.cz hV
    exact ⟨c.c0, c.c1, c.c2, c.c3, c.c4, c.c5, d.c0, d.c1, d.c2, d.c3, d.c4, d.c5, d.c6⟩
  have HT : Hid (∀ V, Below wB.heap.size wB V → Tab V) := fun V hV => (ht.old X.bl).old hV
  have RH := rsz18 h i s wB
  have HPH : Hid (∀ V, Calls Tryz.prog 23 #[.agg #[.int .i64 h.o, .int .i64 h.n, .int .u32 h.so, .int .u32 h.sn, .int .i64 h.wi, .int .i64 h.lo], .int .i64 i, .agg #[.int .i64 s.p, .int .i64 s.r0, .int .i64 s.r1, .int .i64 s.r2, .int .i64 s.k0, .int .i64 s.k1, .int .i64 s.k2]] V (HdQ18 V (sb18 h i s) (ft18 h i s))) := psz18 h i s
  have HBD : Hid (∀ z ∈ sb18 h i s, 0 ≤ z ∧ z ≤ 255) := sb18_bd h i s
  have HLL : Hid ((sb18 h i s).length ≤ 1000) := sb18_len h i s
  have HCK : Hid (∀ V, Calls Tryz.prog 24 #[.agg #[.int .i64 h.o, .int .i64 h.n, .int .u32 h.so, .int .u32 h.sn, .int .i64 h.wi, .int .i64 h.lo], .int .i64 i, .agg #[.int .i64 s.p, .int .i64 s.r0, .int .i64 s.r1, .int .i64 s.r2, .int .i64 s.k0, .int .i64 s.k1, .int .i64 s.k2]] V fun e w' => e = .returned (.int .i64 (ft18 h i s)) ∧ Below V.heap.size V w') := pfts18 h i s
  have HRK : Hid (∀ V, Calls Tryz.prog 25 #[.agg #[.int .i64 h.o, .int .i64 h.n, .int .u32 h.so, .int .u32 h.sn, .int .i64 h.wi, .int .i64 h.lo], .int .i64 i, .agg #[.int .i64 s.p, .int .i64 s.r0, .int .i64 s.r1, .int .i64 s.r2, .int .i64 s.k0, .int .i64 s.k1, .int .i64 s.k2]] V fun e w' => e = .returned (.int .i64 (ft18 h i s)) ∧ Below V.heap.size V w') := rfts18 h i s
  generalize sb18 h i s = L at *
  generalize ft18 h i s = er at *
  obtain ⟨l0, l1, l2, l3, l4, l5⟩ := X.cl (Below.refl _ _)
  obtain ⟨m0, m1, m2, m3, m4, m5, m6⟩ := X.cz (Below.refl _ _)
  rw [← X.wa] at l0 l1 l2 l3 l4 l5 m0 m1 m2 m3 m4 m5 m6
  rw [← X.e5] at m0 m1 m2 m3 m4 m5 m6
  rw [← X.e4] at l0 l1 l2 l3 l4 l5 m0 m1 m2 m3 m4 m5 m6
  clear X ht
  go_enter Tryz.func6, Tryz.ntmps6
  go_wp2_with fail
  rw [HX.out.wa, HX.out.e4, HX.out.e5]
  clear l0 l1 l2 l3 l4 l5 m0 m1 m2 m3 m4 m5 m6
  refine RH.mono ?_
  rintro e1 w1 ⟨p1, c1, rfl, o1, b1⟩
  have HO1 : Hid (w1.ownsRow wB.heap.size 5 1 (.slice p1 L.length c1) L.length (L.map (Value.int .u8))) := o1
  have HB1 : Hid (Below wB.heap.size wB w1) := b1
  clear RH o1 b1
  obtain ⟨l0, l1, l2, l3, l4, l5, m0, m1, m2, m3, m4, m5, m6⟩ := HCC.out w1 HB1.out
  go_wp2_with fail
  refine (HPH.out w1).mono ?_
  rintro e2 w2 ⟨p2, c2, rfl, o2, b2⟩
  have HO2 : Hid (w2.ownsRow w1.heap.size 5 1 (.slice p2 L.length c2) L.length (L.map (Value.int .u8))) := o2
  have H12 : Hid (Below w1.heap.size w1 w2) := b2
  have HB2 : Hid (Below wB.heap.size wB w2) := HB1.out.trans (b2.mono HB1.out.size)
  clear l0 l1 l2 l3 l4 l5 m0 m1 m2 m3 m4 m5 m6 o2 b2
  obtain ⟨l0, l1, l2, l3, l4, l5, m0, m1, m2, m3, m4, m5, m6⟩ := HCC.out w2 HB2.out
  go_wp2_with fail
  refine (HPH.out w2).mono ?_
  rintro e3 w3 ⟨p3, c3, rfl, o3, b3⟩
  have HO3 : Hid (w3.ownsRow w2.heap.size 5 1 (.slice p3 L.length c3) L.length (L.map (Value.int .u8))) := o3
  have H23 : Hid (Below w2.heap.size w2 w3) := b3
  have HB3 : Hid (Below wB.heap.size wB w3) := HB2.out.trans (b3.mono HB2.out.size)
  clear l0 l1 l2 l3 l4 l5 m0 m1 m2 m3 m4 m5 m6 o3 b3
  go_wp2_with fail
  have HD3 : Hid (Below w3.heap.size w3 w3.drew) := (Below.refl _ _).drew
  have HS : Hid (∀ V, Below w3.heap.size w3 V → V.cell? ⟨b4, 0, none⟩ = some (.int .i64 h.o) ∧ V.cell? ⟨b4, 1, none⟩ = some (.int .i64 h.n) ∧ V.cell? ⟨b4, 2, none⟩ = some (.int .u32 h.so) ∧ V.cell? ⟨b4, 3, none⟩ = some (.int .u32 h.sn) ∧ V.cell? ⟨b4, 4, none⟩ = some (.int .i64 h.wi) ∧ V.cell? ⟨b4, 5, none⟩ = some (.int .i64 h.lo) ∧ V.cell? ⟨b5, 0, none⟩ = some (.int .i64 s.p) ∧ V.cell? ⟨b5, 1, none⟩ = some (.int .i64 s.r0) ∧ V.cell? ⟨b5, 2, none⟩ = some (.int .i64 s.r1) ∧ V.cell? ⟨b5, 3, none⟩ = some (.int .i64 s.r2) ∧ V.cell? ⟨b5, 4, none⟩ = some (.int .i64 s.k0) ∧ V.cell? ⟨b5, 5, none⟩ = some (.int .i64 s.k1) ∧ V.cell? ⟨b5, 6, none⟩ = some (.int .i64 s.k2)) := fun V hV => HCC.out V (HB3.out.trans (hV.mono HB3.out.size))
  refine plain_region16 (fun V => V.cell? ⟨b4, 0, none⟩ = some (.int .i64 h.o) ∧ V.cell? ⟨b4, 1, none⟩ = some (.int .i64 h.n) ∧ V.cell? ⟨b4, 2, none⟩ = some (.int .u32 h.so) ∧ V.cell? ⟨b4, 3, none⟩ = some (.int .u32 h.sn) ∧ V.cell? ⟨b4, 4, none⟩ = some (.int .i64 h.wi) ∧ V.cell? ⟨b4, 5, none⟩ = some (.int .i64 h.lo) ∧ V.cell? ⟨b5, 0, none⟩ = some (.int .i64 s.p) ∧ V.cell? ⟨b5, 1, none⟩ = some (.int .i64 s.r0) ∧ V.cell? ⟨b5, 2, none⟩ = some (.int .i64 s.r1) ∧ V.cell? ⟨b5, 3, none⟩ = some (.int .i64 s.r2) ∧ V.cell? ⟨b5, 4, none⟩ = some (.int .i64 s.k0) ∧ V.cell? ⟨b5, 5, none⟩ = some (.int .i64 s.k1) ∧ V.cell? ⟨b5, 6, none⟩ = some (.int .i64 s.k2)) 32 (by kernel_rfl) (HS.out _ HD3.out) (fun hHeld => ?_)
  refine wpAnyK_take (i := 0) (v := .agg #[.int .i64 h.o, .int .i64 h.n, .int .u32 h.so, .int .u32 h.sn, .int .i64 h.wi, .int .i64 h.lo]) rfl (by kernel_rfl) (by kernel_rfl) (by kernel_rfl) (by kernel_rfl) (fun _ _ _ h => h) (Or.inl ⟨by rfl, fun w hSw => by go_simp⟩) hHeld ?_
  simp only [List.getElem_toArray, List.getElem_cons_zero, Act.put, List.setIfInBounds_toArray, List.set_cons_zero, List.set_cons_succ]
  refine wpAnyK_take (i := 1) (v := .int .i64 i) rfl (by kernel_rfl) (by kernel_rfl) (by kernel_rfl) (by kernel_rfl) (fun _ _ _ h => h) (Or.inl ⟨by rfl, fun w hSw => by go_simp⟩) hHeld ?_
  simp only [List.getElem_toArray, List.getElem_cons_zero, List.getElem_cons_succ, Act.put, List.setIfInBounds_toArray, List.set_cons_zero, List.set_cons_succ]
  refine wpAnyK_take (i := 2) (v := .agg #[.int .i64 s.p, .int .i64 s.r0, .int .i64 s.r1, .int .i64 s.r2, .int .i64 s.k0, .int .i64 s.k1, .int .i64 s.k2]) rfl (by kernel_rfl) (by kernel_rfl) (by kernel_rfl) (by kernel_rfl) (fun _ _ _ h => h) (Or.inl ⟨by rfl, fun w hSw => by go_simp⟩) hHeld ?_
  simp only [List.getElem_toArray, List.getElem_cons_zero, List.getElem_cons_succ, Act.put, List.setIfInBounds_toArray, List.set_cons_zero, List.set_cons_succ]
  refine wpAnyK_take (i := 5) (v := .agg #[.int .i64 h.o, .int .i64 h.n, .int .u32 h.so, .int .u32 h.sn, .int .i64 h.wi, .int .i64 h.lo]) rfl (by kernel_rfl) (by kernel_rfl) (by kernel_rfl) (by kernel_rfl) (fun _ _ _ h => h) (Or.inl ⟨by rfl, fun w hSw => by go_simp⟩) hHeld ?_
  simp only [List.getElem_toArray, List.getElem_cons_zero, List.getElem_cons_succ, Act.put, List.setIfInBounds_toArray, List.set_cons_zero, List.set_cons_succ]
  refine wpAnyK_take (i := 6) (v := .int .i64 i) rfl (by kernel_rfl) (by kernel_rfl) (by kernel_rfl) (by kernel_rfl) (fun _ _ _ h => h) (Or.inl ⟨by rfl, fun w hSw => by go_simp⟩) hHeld ?_
  simp only [List.getElem_toArray, List.getElem_cons_zero, List.getElem_cons_succ, Act.put, List.setIfInBounds_toArray, List.set_cons_zero, List.set_cons_succ]
  refine wpAnyK_take (i := 7) (v := .agg #[.int .i64 s.p, .int .i64 s.r0, .int .i64 s.r1, .int .i64 s.r2, .int .i64 s.k0, .int .i64 s.k1, .int .i64 s.k2]) rfl (by kernel_rfl) (by kernel_rfl) (by kernel_rfl) (by kernel_rfl) (fun _ _ _ h => h) (Or.inl ⟨by rfl, fun w hSw => by go_simp⟩) hHeld ?_
  simp only [List.getElem_toArray, List.getElem_cons_zero, List.getElem_cons_succ, Act.put, List.setIfInBounds_toArray, List.set_cons_zero, List.set_cons_succ]
  refine wpAnyK_one (i := 3) (by kernel_rfl) rfl (fun K hK => ?_)
  (try simp only [List.getElem_toArray, List.getElem_cons_zero, List.getElem_cons_succ, Act.put, List.setIfInBounds_toArray, List.set_cons_zero, List.set_cons_succ])
  go_simp
  refine (HCK.out _).mono ?_
  rintro e4 w4 ⟨rfl, b4'⟩
  have HB4 : Hid (Below w3.heap.size w3 w4) := HD3.out.trans (b4'.mono (Nat.le_refl _))
  clear b4'
  refine hK.out _ _ (fun _ => HS.out w4 HB4.out) (fun hHeld0 => ?_)
  have hHeld := hHeld0 (by decide)
  clear hHeld0 hK K
  (try simp only [List.getElem_toArray, List.getElem_cons_zero, List.getElem_cons_succ, Act.put, List.setIfInBounds_toArray, List.set_cons_zero, List.set_cons_succ])
  refine wpAnyK_one (i := 4) (by kernel_rfl) rfl (fun K hK => ?_)
  (try simp only [List.getElem_toArray, List.getElem_cons_zero, List.getElem_cons_succ, Act.put, List.setIfInBounds_toArray, List.set_cons_zero, List.set_cons_succ])
  go_simp
  refine (pnum18 er w4).mono ?_
  rintro e5 w5 ⟨rfl, hw5⟩
  subst w5
  refine hK.out _ _ (fun _ => HS.out w4 HB4.out) (fun hHeld0 => ?_)
  have hHeld := hHeld0 (by decide)
  clear hHeld0 hK K
  (try simp only [List.getElem_toArray, List.getElem_cons_zero, List.getElem_cons_succ, Act.put, List.setIfInBounds_toArray, List.set_cons_zero, List.set_cons_succ])
  refine wpAnyK_one (i := 8) (by kernel_rfl) rfl (fun K hK => ?_)
  (try simp only [List.getElem_toArray, List.getElem_cons_zero, List.getElem_cons_succ, Act.put, List.setIfInBounds_toArray, List.set_cons_zero, List.set_cons_succ])
  go_simp
  refine (HRK.out _).mono ?_
  rintro e6 w6 ⟨rfl, b6⟩
  have HB6 : Hid (Below w3.heap.size w3 w6) := HB4.out.trans (b6.mono HB4.out.size)
  clear b6
  refine hK.out _ _ (fun _ => HS.out w6 HB6.out) (fun hHeld0 => ?_)
  have hHeld := hHeld0 (by decide)
  clear hHeld0 hK K
  (try simp only [List.getElem_toArray, List.getElem_cons_zero, List.getElem_cons_succ, Act.put, List.setIfInBounds_toArray, List.set_cons_zero, List.set_cons_succ])
  refine wpAnyK_one (i := 9) (by kernel_rfl) rfl (fun K hK => ?_)
  (try simp only [List.getElem_toArray, List.getElem_cons_zero, List.getElem_cons_succ, Act.put, List.setIfInBounds_toArray, List.set_cons_zero, List.set_cons_succ])
  go_simp
  refine hK.out _ _ (fun _ => HS.out w6 HB6.out) (fun hHeld0 => ?_)
  have hHeld := hHeld0 (by decide)
  clear hHeld0 hK K
  (try simp only [List.getElem_toArray, List.getElem_cons_zero, List.getElem_cons_succ, Act.put, List.setIfInBounds_toArray, List.set_cons_zero, List.set_cons_succ])
  refine wpAnyK_one (i := 10) (by kernel_rfl) rfl (fun K hK => ?_)
  (try simp only [List.getElem_toArray, List.getElem_cons_zero, List.getElem_cons_succ, Act.put, List.setIfInBounds_toArray, List.set_cons_zero, List.set_cons_succ])
  go_simp
  refine hK.out _ _ (fun _ => HS.out w6 HB6.out) (fun hHeld0 => ?_)
  have hHeld := hHeld0 (by decide)
  clear hHeld0 hK K
  (try simp only [List.getElem_toArray, List.getElem_cons_zero, List.getElem_cons_succ, Act.put, List.setIfInBounds_toArray, List.set_cons_zero, List.set_cons_succ])
  refine wpAnyK_take (i := 11) (v := .int .i64 er) rfl (by kernel_rfl) (by kernel_rfl) (by kernel_rfl) (by kernel_rfl) (fun _ _ _ h => h) (Or.inl ⟨by rfl, fun w hSw => by go_simp⟩) hHeld ?_
  simp only [List.getElem_toArray, List.getElem_cons_zero, List.getElem_cons_succ, Act.put, List.setIfInBounds_toArray, List.set_cons_zero, List.set_cons_succ]
  refine wpAnyK_take (i := 13) (v := .int .i64 er) rfl (by kernel_rfl) (by kernel_rfl) (by kernel_rfl) (by kernel_rfl) (fun _ _ _ h => h) (Or.inl ⟨by rfl, fun w hSw => by go_simp⟩) hHeld ?_
  simp only [List.getElem_toArray, List.getElem_cons_zero, List.getElem_cons_succ, Act.put, List.setIfInBounds_toArray, List.set_cons_zero, List.set_cons_succ]
  refine wpAnyK_one (i := 12) (by kernel_rfl) rfl (fun K hK => ?_)
  (try simp only [List.getElem_toArray, List.getElem_cons_zero, List.getElem_cons_succ, Act.put, List.setIfInBounds_toArray, List.set_cons_zero, List.set_cons_succ])
  go_simp
  refine (pnum18 er w6).mono ?_
  rintro e5 w5 ⟨rfl, hw5⟩
  subst w5
  refine hK.out _ _ (fun _ => HS.out w6 HB6.out) (fun hHeld0 => ?_)
  have hHeld := hHeld0 (by decide)
  clear hHeld0 hK K
  (try simp only [List.getElem_toArray, List.getElem_cons_zero, List.getElem_cons_succ, Act.put, List.setIfInBounds_toArray, List.set_cons_zero, List.set_cons_succ])
  refine wpAnyK_one (i := 14) (by kernel_rfl) rfl (fun K hK => ?_)
  (try simp only [List.getElem_toArray, List.getElem_cons_zero, List.getElem_cons_succ, Act.put, List.setIfInBounds_toArray, List.set_cons_zero, List.set_cons_succ])
  go_simp
  refine hK.out _ _ (fun _ => HS.out w6 HB6.out) (fun hHeld0 => ?_)
  have hHeld := hHeld0 (by decide)
  clear hHeld0 hK K
  (try simp only [List.getElem_toArray, List.getElem_cons_zero, List.getElem_cons_succ, Act.put, List.setIfInBounds_toArray, List.set_cons_zero, List.set_cons_succ])
  refine wpAnyK_one (i := 15) (by kernel_rfl) rfl (fun K hK => ?_)
  (try simp only [List.getElem_toArray, List.getElem_cons_zero, List.getElem_cons_succ, Act.put, List.setIfInBounds_toArray, List.set_cons_zero, List.set_cons_succ])
  go_simp
  refine hK.out _ _ (fun _ => HS.out w6 HB6.out) (fun hHeld0 => ?_)
  have hHeld := hHeld0 (by decide)
  clear hHeld0 hK K
  (try simp only [List.getElem_toArray, List.getElem_cons_zero, List.getElem_cons_succ, Act.put, List.setIfInBounds_toArray, List.set_cons_zero, List.set_cons_succ])
  refine wpAnyK_one (i := 16) (by kernel_rfl) rfl (fun K hK => ?_)
  (try simp only [List.getElem_toArray, List.getElem_cons_zero, List.getElem_cons_succ, Act.put, List.setIfInBounds_toArray, List.set_cons_zero, List.set_cons_succ])
  go_simp
  refine hK.out _ _ (fun _ => HS.out w6 HB6.out) (fun hHeld0 => ?_)
  have hHeld := hHeld0 (by decide)
  clear hHeld0 hK K
  (try simp only [List.getElem_toArray, List.getElem_cons_zero, List.getElem_cons_succ, Act.put, List.setIfInBounds_toArray, List.set_cons_zero, List.set_cons_succ])
  refine wpAnyK_take (i := 17) (v := .int .i64 er) rfl (by kernel_rfl) (by kernel_rfl) (by kernel_rfl) (by kernel_rfl) (fun _ _ _ h => h) (Or.inl ⟨by rfl, fun w hSw => by go_simp⟩) hHeld ?_
  simp only [List.getElem_toArray, List.getElem_cons_zero, List.getElem_cons_succ, Act.put, List.setIfInBounds_toArray, List.set_cons_zero, List.set_cons_succ]
  refine wpAnyK_take (i := 19) (v := .int .i64 er) rfl (by kernel_rfl) (by kernel_rfl) (by kernel_rfl) (by kernel_rfl) (fun _ _ _ h => h) (Or.inl ⟨by rfl, fun w hSw => by go_simp⟩) hHeld ?_
  simp only [List.getElem_toArray, List.getElem_cons_zero, List.getElem_cons_succ, Act.put, List.setIfInBounds_toArray, List.set_cons_zero, List.set_cons_succ]
  refine wpAnyK_one (i := 18) (by kernel_rfl) rfl (fun K hK => ?_)
  (try simp only [List.getElem_toArray, List.getElem_cons_zero, List.getElem_cons_succ, Act.put, List.setIfInBounds_toArray, List.set_cons_zero, List.set_cons_succ])
  go_simp
  refine (pnum18 er w6).mono ?_
  rintro e5 w5 ⟨rfl, hw5⟩
  subst w5
  refine hK.out _ _ (fun _ => HS.out w6 HB6.out) (fun hHeld0 => ?_)
  have hHeld := hHeld0 (by decide)
  clear hHeld0 hK K
  (try simp only [List.getElem_toArray, List.getElem_cons_zero, List.getElem_cons_succ, Act.put, List.setIfInBounds_toArray, List.set_cons_zero, List.set_cons_succ])
  refine wpAnyK_one (i := 20) (by kernel_rfl) rfl (fun K hK => ?_)
  (try simp only [List.getElem_toArray, List.getElem_cons_zero, List.getElem_cons_succ, Act.put, List.setIfInBounds_toArray, List.set_cons_zero, List.set_cons_succ])
  go_simp
  refine hK.out _ _ (fun _ => HS.out w6 HB6.out) (fun hHeld0 => ?_)
  have hHeld := hHeld0 (by decide)
  clear hHeld0 hK K
  (try simp only [List.getElem_toArray, List.getElem_cons_zero, List.getElem_cons_succ, Act.put, List.setIfInBounds_toArray, List.set_cons_zero, List.set_cons_succ])
  refine wpAnyK_one (i := 21) (by kernel_rfl) rfl (fun K hK => ?_)
  (try simp only [List.getElem_toArray, List.getElem_cons_zero, List.getElem_cons_succ, Act.put, List.setIfInBounds_toArray, List.set_cons_zero, List.set_cons_succ])
  go_simp
  refine hK.out _ _ (fun _ => HS.out w6 HB6.out) (fun hHeld0 => ?_)
  have hHeld := hHeld0 (by decide)
  clear hHeld0 hK K
  (try simp only [List.getElem_toArray, List.getElem_cons_zero, List.getElem_cons_succ, Act.put, List.setIfInBounds_toArray, List.set_cons_zero, List.set_cons_succ])
  refine wpAnyK_one (i := 22) (by kernel_rfl) rfl (fun K hK => ?_)
  (try simp only [List.getElem_toArray, List.getElem_cons_zero, List.getElem_cons_succ, Act.put, List.setIfInBounds_toArray, List.set_cons_zero, List.set_cons_succ])
  go_simp
  refine hK.out _ _ (fun _ => HS.out w6 HB6.out) (fun hHeld0 => ?_)
  have hHeld := hHeld0 (by decide)
  clear hHeld0 hK K
  (try simp only [List.getElem_toArray, List.getElem_cons_zero, List.getElem_cons_succ, Act.put, List.setIfInBounds_toArray, List.set_cons_zero, List.set_cons_succ])
  refine wpAnyK_take (i := 23) (v := .slice p2 L.length c2) rfl (by kernel_rfl) (by kernel_rfl) (by kernel_rfl) (by kernel_rfl) (fun _ _ _ h => h) (Or.inl ⟨by rfl, fun w hSw => by go_simp⟩) hHeld ?_
  simp only [List.getElem_toArray, List.getElem_cons_zero, List.getElem_cons_succ, Act.put, List.setIfInBounds_toArray, List.set_cons_zero, List.set_cons_succ]
  refine wpAnyK_take (i := 24) (v := .slice p3 L.length c3) rfl (by kernel_rfl) (by kernel_rfl) (by kernel_rfl) (by kernel_rfl) (fun _ _ _ h => h) (Or.inl ⟨by rfl, fun w hSw => by go_simp⟩) hHeld ?_
  simp only [List.getElem_toArray, List.getElem_cons_zero, List.getElem_cons_succ, Act.put, List.setIfInBounds_toArray, List.set_cons_zero, List.set_cons_succ]
  refine wpAnyK_take (i := 25) (v := .slice p1 L.length c1) rfl (by kernel_rfl) (by kernel_rfl) (by kernel_rfl) (by kernel_rfl) (fun _ _ _ h => h) (Or.inl ⟨by rfl, fun w hSw => by go_simp⟩) hHeld ?_
  simp only [List.getElem_toArray, List.getElem_cons_zero, List.getElem_cons_succ, Act.put, List.setIfInBounds_toArray, List.set_cons_zero, List.set_cons_succ]
  refine wpAnyK_one (i := 26) (by kernel_rfl) rfl (fun K hK => ?_)
  (try simp only [List.getElem_toArray, List.getElem_cons_zero, List.getElem_cons_succ, Act.put, List.setIfInBounds_toArray, List.set_cons_zero, List.set_cons_succ])
  go_simp
  obtain ⟨oA, hOw⟩ := ow18_of HBD.out HO1.out HO2.out HO3.out H12.out H23.out HB6.out
  refine (pown18 w1.heap.size p2 p3 p1 c2 c3 c1 L w6 HBD.out (by have := HLL.out; omega) oA hOw).mono ?_
  rintro e7 w7 ⟨rfl, b7⟩
  have HA6 : Hid (Below wB.heap.size wB w6) := HB3.out.trans (HB6.out.mono HB3.out.size)
  have HA7 : Hid (Below wB.heap.size wB w7) := HA6.out.trans (b7.mono HB1.out.size)
  clear oA hOw b7
  refine hK.out _ _ (fun _ => HCC.out w7 HA7.out) (fun hHeld0 => ?_)
  have hHeld := hHeld0 (by decide)
  clear hHeld0 hK K
  (try simp only [List.getElem_toArray, List.getElem_cons_zero, List.getElem_cons_succ, Act.put, List.setIfInBounds_toArray, List.set_cons_zero, List.set_cons_succ])
  refine wpAnyK_one (i := 27) (by kernel_rfl) rfl (fun K hK => ?_)
  (try simp only [List.getElem_toArray, List.getElem_cons_zero, List.getElem_cons_succ, Act.put, List.setIfInBounds_toArray, List.set_cons_zero, List.set_cons_succ])
  go_simp
  refine hK.out _ _ (fun _ => HCC.out w7 HA7.out) (fun hHeld0 => ?_)
  have hHeld := hHeld0 (by decide)
  clear hHeld0 hK K
  (try simp only [List.getElem_toArray, List.getElem_cons_zero, List.getElem_cons_succ, Act.put, List.setIfInBounds_toArray, List.set_cons_zero, List.set_cons_succ])
  refine wpAnyK_one (i := 28) (by kernel_rfl) rfl (fun K hK => ?_)
  (try simp only [List.getElem_toArray, List.getElem_cons_zero, List.getElem_cons_succ, Act.put, List.setIfInBounds_toArray, List.set_cons_zero, List.set_cons_succ])
  go_simp
  refine hK.out _ _ (fun _ => HCC.out w7 HA7.out) (fun hHeld0 => ?_)
  have hHeld := hHeld0 (by decide)
  clear hHeld0 hK K
  (try simp only [List.getElem_toArray, List.getElem_cons_zero, List.getElem_cons_succ, Act.put, List.setIfInBounds_toArray, List.set_cons_zero, List.set_cons_succ])
  refine wpAnyK_one (i := 29) (by kernel_rfl) rfl (fun K hK => ?_)
  (try simp only [List.getElem_toArray, List.getElem_cons_zero, List.getElem_cons_succ, Act.put, List.setIfInBounds_toArray, List.set_cons_zero, List.set_cons_succ])
  go_simp
  refine (pawk18 w7 (HT.out w7 HA7.out)).mono ?_
  rintro e8 w8 ⟨rfl, b8⟩
  have HA8 : Hid (Below wB.heap.size wB w8) := HA7.out.trans (b8.mono HA7.out.size)
  clear b8
  refine hK.out _ _ (fun _ => HCC.out w8 HA8.out) (fun hHeld0 => ?_)
  have hHeld := hHeld0 (by decide)
  clear hHeld0 hK K
  (try simp only [List.getElem_toArray, List.getElem_cons_zero, List.getElem_cons_succ, Act.put, List.setIfInBounds_toArray, List.set_cons_zero, List.set_cons_succ])
  refine wpAnyK_one (i := 30) (by kernel_rfl) rfl (fun K hK => ?_)
  (try simp only [List.getElem_toArray, List.getElem_cons_zero, List.getElem_cons_succ, Act.put, List.setIfInBounds_toArray, List.set_cons_zero, List.set_cons_succ])
  go_simp
  refine hK.out _ _ (fun _ => HCC.out w8 HA8.out) (fun hHeld0 => ?_)
  have hHeld := hHeld0 (by decide)
  clear hHeld0 hK K
  (try simp only [List.getElem_toArray, List.getElem_cons_zero, List.getElem_cons_succ, Act.put, List.setIfInBounds_toArray, List.set_cons_zero, List.set_cons_succ])
  refine wpAnyK_one (i := 31) (by kernel_rfl) rfl (fun K hK => ?_)
  (try simp only [List.getElem_toArray, List.getElem_cons_zero, List.getElem_cons_succ, Act.put, List.setIfInBounds_toArray, List.set_cons_zero, List.set_cons_succ])
  go_simp
  refine hK.out _ _ (fun _ => HCC.out w8 HA8.out) (fun hHeld0 => ?_)
  clear hHeld0 hK K
  (try simp only [List.getElem_toArray, List.getElem_cons_zero, List.getElem_cons_succ, Act.put, List.setIfInBounds_toArray, List.set_cons_zero, List.set_cons_succ])
  refine wpAnyK_done (by kernel_rfl) ?_ _
  go_wp2_with fail
  go_ret
  exact ⟨rfl, HX.out.bl.trans (HA8.out.mono HX.out.bl.size)⟩
end Go.Proofs.YtmojfdccobebfaaGreatDoor

namespace Go.Proofs.YtmojfdccobebfaaGreatDoor
open Go.ChangeShapes Go.WideShapes Go.ChangeAt Go.RowKit
set_option linter.unusedVariables false

/-- A slice of whole numbers that came in: what lies there, and how it was read. -/
theorem open_seg {H : Type} {enc : TypeId × Value → H} {P : Program} {W : World} {T e : TypeId} {k : IntKind} {M : Int} {a : Option Addr} {len cap : Nat} {d : DataW H} {p : List MemPlace}
    (hT : P.underlying T = some (.slice e)) (he : P.underlying e = some (.int k)) (hc : P.cellsOf e = 1) (hM : 0 ≤ M) (hwf : ∀ n, (Lit.int k n).wf = true → 0 ≤ n ∧ n ≤ M)
    (h : DataW.Trod enc P W 0 (fun _ => true) true T (.slice a len cap) d p) :
    ∃ zs : List Int, zs.length = len ∧ SegK k M W a zs ∧ len ≤ cap ∧ (a = none → cap = 0) ∧ ((d = .nil ∧ len = 0) ∨ ∃ elems spare, d = .slice elems spare ∧ elems.length = len) := by
  obtain ⟨fuel, hf⟩ := h
  rcases open_ints hT he hc hf with ⟨hcs, hx⟩ | ⟨x, l, c, zs, hcs, _, hl, hm, hz, hx, hcell, hwz⟩
  · simp [Value.cells] at hcs
    obtain ⟨rfl, rfl, rfl⟩ := hcs
    simp only [Prod.mk.injEq] at hx
    exact ⟨[], rfl, SegK.nil hM _ _, Nat.le_refl _, fun _ => rfl, Or.inl ⟨hx.1, rfl⟩⟩
  · simp [Value.cells] at hcs
    obtain ⟨rfl, rfl, rfl⟩ := hcs
    simp only [Prod.mk.injEq] at hx
    simp only [if_true] at hz
    refine ⟨zs.take len, by simp; omega, ⟨fun i hi => ?_, hM, getD_bd hM ?_⟩, hl, (by intro h; cases h), Or.inr ⟨_, _, hx.1, by simp [ChangeShapes.lits]; omega⟩⟩
    · simp at hi
      have hi2 : i < len := by omega
      have h1 := hcell i (by omega)
      obtain ⟨b, off, spot⟩ := x
      have hs : spot = none := by
        have := hcell 0 (by omega)
        simpa [Addr.add] using World.cell?_spot this
      subst hs
      refine ⟨b, off, rfl, ?_⟩
      have hadd : (⟨b, off, none⟩ : Addr).add i = ⟨b, off + i, none⟩ := by unfold Addr.add; split <;> simp_all
      rw [hadd] at h1
      rw [h1]
      simp [List.getD, hi2]
    · intro z hz1
      exact hwf z (hwz z (List.mem_of_mem_take hz1))
end Go.Proofs.YtmojfdccobebfaaGreatDoor

namespace Go.Proofs.YtmojfdccobebfaaGreatDoor
open Go.ChangeShapes Go.WideShapes Go.ChangeAt Go.RowKit
set_option linter.unusedVariables false
set_option maxRecDepth 100000

theorem cells_int18 : Tryz.prog.cellsOf 3 = 1 := by kernel_rfl
theorem cells_u3218 : Tryz.prog.cellsOf 22 = 1 := by kernel_rfl
theorem cells_hd18 : Tryz.prog.cellsOf 24 = 6 := by kernel_rfl
/-- A header by value that came in. -/
theorem open_head18 {H : Type} {enc : TypeId × Value → H} {W : World} {r : Reach} {b0 : Nat} {v : Value} {d : DataW H} {pl : List MemPlace}
    (hv : Value.okWide Tryz.prog W r b0 24 v) (h : DataW.Trod enc Tryz.prog W 0 (fun _ => true) true 24 v d pl) :
    ∃ x : Hd18, v = .agg #[.int .i64 x.o, .int .i64 x.n, .int .u32 x.so, .int .u32 x.sn, .int .i64 x.wi, .int .i64 x.lo] ∧ (0 ≤ x.so ∧ x.so ≤ 4294967295) ∧ (0 ≤ x.sn ∧ x.sn ≤ 4294967295) := by
  obtain ⟨cs, rfl, hsz⟩ := okWide_struct Tryz.underlying24 hv
  rw [cells_hd18] at hsz
  obtain ⟨l⟩ := cs
  match l, hsz with
  | [u0, u1, u2, u3, u4, u5], _ =>
    obtain ⟨fuel, hf⟩ := h
    obtain ⟨xs, kk, _, hd, _, hxl, hfl⟩ := DataW.trod_struct Tryz.underlying24 hf
    match xs, hxl with
    | [y0, y1, y2, y3, y4, y5], _ =>
      have g0 := hfl 0 _ rfl
      have g1 := hfl 1 _ rfl
      have g2 := hfl 2 _ rfl
      have g3 := hfl 3 _ rfl
      have g4 := hfl 4 _ rfl
      have g5 := hfl 5 _ rfl
      simp [cells_int18, cells_u3218, Value.cells] at g0 g1 g2 g3 g4 g5
      obtain ⟨V0, e0, _, w0⟩ := DataW.trod_int Tryz.underlying3 g0
      obtain ⟨V1, e1, _, w1⟩ := DataW.trod_int Tryz.underlying3 g1
      obtain ⟨V2, e2, _, w2⟩ := DataW.trod_int Tryz.underlying22 g2
      obtain ⟨V3, e3, _, w3⟩ := DataW.trod_int Tryz.underlying22 g3
      obtain ⟨V4, e4, _, w4⟩ := DataW.trod_int Tryz.underlying3 g4
      obtain ⟨V5, e5, _, w5⟩ := DataW.trod_int Tryz.underlying3 g5
      simp at e0 e1 e2 e3 e4 e5
      subst e0 e1 e2 e3 e4 e5
      exact ⟨⟨V0, V1, V2, V3, V4, V5⟩, rfl, bounds_u32 w2, bounds_u32 w3⟩
end Go.Proofs.YtmojfdccobebfaaGreatDoor

namespace Go.Proofs.YtmojfdccobebfaaGreatDoor
open Go.ChangeShapes Go.WideShapes Go.ChangeAt Go.RowKit
set_option linter.unusedVariables false
set_option maxRecDepth 100000

theorem cells_int18z : Tryz.prog.cellsOf 3 = 1 := by kernel_rfl
theorem cells_arr18 : Tryz.prog.cellsOf 44 = 3 := by kernel_rfl
theorem cells_sz18 : Tryz.prog.cellsOf 46 = 7 := by kernel_rfl
/-- Sizes by value that came in. -/
theorem open_sizes18 {H : Type} {enc : TypeId × Value → H} {W : World} {r : Reach} {b0 : Nat} {v : Value} {d : DataW H} {pl : List MemPlace}
    (hv : Value.okWide Tryz.prog W r b0 46 v) (h : DataW.Trod enc Tryz.prog W 0 (fun _ => true) true 46 v d pl) :
    ∃ x : Sz18, v = .agg #[.int .i64 x.p, .int .i64 x.r0, .int .i64 x.r1, .int .i64 x.r2, .int .i64 x.k0, .int .i64 x.k1, .int .i64 x.k2] := by
  obtain ⟨cs, rfl, hsz⟩ := okWide_struct Tryz.underlying46 hv
  rw [cells_sz18] at hsz
  obtain ⟨l⟩ := cs
  match l, hsz with
  | [u0, u1, u2, u3, u4, u5, u6], _ =>
    obtain ⟨fuel, hf⟩ := h
    obtain ⟨xs, kk, _, hd, _, hxl, hfl⟩ := DataW.trod_struct Tryz.underlying46 hf
    match xs, hxl with
    | [y0, y1, y2], _ =>
      have g0 := hfl 0 _ rfl
      have g1 := hfl 1 _ rfl
      have g2 := hfl 2 _ rfl
      simp [cells_int18z, cells_arr18, Value.cells] at g0 g1 g2
      obtain ⟨V0, e0, _, w0⟩ := DataW.trod_int Tryz.underlying3 g0
      obtain ⟨z0, z1, z2, n, _, t0, t1, t2⟩ := trod_array3 Tryz.underlying44 cells_int18z g1
      obtain ⟨z3, z4, z5, n2, _, t3, t4, t5⟩ := trod_array3 Tryz.underlying44 cells_int18z g2
      obtain ⟨V1, e1, _, _⟩ := DataW.trod_int Tryz.underlying3 t0
      obtain ⟨V2, e2, _, _⟩ := DataW.trod_int Tryz.underlying3 t1
      obtain ⟨V3, e3, _, _⟩ := DataW.trod_int Tryz.underlying3 t2
      obtain ⟨V4, e4, _, _⟩ := DataW.trod_int Tryz.underlying3 t3
      obtain ⟨V5, e5, _, _⟩ := DataW.trod_int Tryz.underlying3 t4
      obtain ⟨V6, e6, _, _⟩ := DataW.trod_int Tryz.underlying3 t5
      simp at e0 e1 e2 e3 e4 e5 e6
      subst e0 e1 e2 e3 e4 e5 e6
      exact ⟨⟨V0, V1, V2, V3, V4, V5, V6⟩, rfl⟩
end Go.Proofs.YtmojfdccobebfaaGreatDoor
