import Derived.Test.YtpodakndckflgaaGreatDoorPg
import Derived.Laws.BitsAllLaws
namespace Go.Proofs.YtpodakndckflgaaGreatDoor
open Go.RowKit Go.Shelf
set_option linter.unusedVariables false
set_option linter.unusedSimpArgs false
def mg19 (s : R19) (v : Int) : Int × R19 := if v = mag18.getD s.cn.toNat 0 then (0, { s with cn := (s.cn + 1) % 5, nx := if (s.cn + 1) % 5 = 0 then 2 else s.nx }) else (190, s)
set_option maxRecDepth 100000 in
set_option maxHeartbeats 4000000 in
theorem pmag19 (b : Nat) (t : TypeId) (s : R19) (v : Int) (q : Value) (w : World) (h : St19 w b t s) (hv : 0 ≤ v ∧ v ≤ 255) (hc : 0 ≤ s.cn ∧ s.cn < 5) :
    Calls Tryz.prog 20 #[.pointer (some ⟨b, 0, none⟩), .int .u8 v, q] w fun e w' => e = .returned (.tuple #[.bool false, .int .i64 (mg19 s v).1]) ∧ St19 w' b t (mg19 s v).2 ∧ Kp (fun k => k = b) w w' := by
  have c0 := h.c0
  have c4 := h.c4
  have LA := plast19 b t s 5 w h ⟨hc.1, by omega⟩ (by omega)
  obtain ⟨k, hk⟩ : ∃ k : Nat, s.cn = (k : Int) := ⟨s.cn.toNat, by omega⟩
  have hk5 : k < 5 := by omega
  rw [hk] at c4
  rw [hk] at LA
  have HCN : Hid (s.cn = (k : Int)) := hk
  have HST : Hid (St19 w b t s) := h
  clear hk hc h
  rcases (by omega : k = 0 ∨ k = 1 ∨ k = 2 ∨ k = 3 ∨ k = 4) with rfl | rfl | rfl | rfl | rfl
  · have hch : ((({ data := #[83, 65, 80, 82, 1] } : ByteArray)[0]).toNat : Int) = 83 := rfl
    by_cases hx : v = 83
    · subst hx
      have HM : Hid (mg19 s 83 = (0, { s with cn := 1, nx := s.nx })) := by show _ = _; unfold mg19; rw [HCN.out, if_pos (by rfl)]; rfl
      simp only [Int.reduceAdd, Int.reduceMod, Int.cast_ofNat_Int] at LA
      go_enter Tryz.func20, Tryz.ntmps20
      go_wp2_with fail
      refine LA.mono ?_
      rintro e1 w1 ⟨rfl, q1, k1⟩
      have HQ : Hid (St19 w1 b t { s with cn := 1, nx := s.nx } ∧ Kp (fun k => k = b) w w1) := ⟨q1, k1⟩
      clear LA q1 k1
      go_wp2
      go_ret2
      rw [HM.out]
      exact ⟨rfl, HQ.out.1, HQ.out.2⟩
    · have HM : Hid (mg19 s v = (190, s)) := by show _ = _; unfold mg19; rw [HCN.out, if_neg (by exact hx)]
      have hxb : (v != 83) = true := by simp [hx]
      clear LA hx
      go_enter Tryz.func20, Tryz.ntmps20
      go_wp2
      go_ret2
      rw [HM.out]
      exact ⟨rfl, HST.out, Kp.refl _ _⟩
  · have hch : ((({ data := #[83, 65, 80, 82, 1] } : ByteArray)[1]).toNat : Int) = 65 := rfl
    by_cases hx : v = 65
    · subst hx
      have HM : Hid (mg19 s 65 = (0, { s with cn := 2, nx := s.nx })) := by show _ = _; unfold mg19; rw [HCN.out, if_pos (by rfl)]; rfl
      simp only [Int.reduceAdd, Int.reduceMod, Int.cast_ofNat_Int] at LA
      go_enter Tryz.func20, Tryz.ntmps20
      go_wp2_with fail
      refine LA.mono ?_
      rintro e1 w1 ⟨rfl, q1, k1⟩
      have HQ : Hid (St19 w1 b t { s with cn := 2, nx := s.nx } ∧ Kp (fun k => k = b) w w1) := ⟨q1, k1⟩
      clear LA q1 k1
      go_wp2
      go_ret2
      rw [HM.out]
      exact ⟨rfl, HQ.out.1, HQ.out.2⟩
    · have HM : Hid (mg19 s v = (190, s)) := by show _ = _; unfold mg19; rw [HCN.out, if_neg (by exact hx)]
      have hxb : (v != 65) = true := by simp [hx]
      clear LA hx
      go_enter Tryz.func20, Tryz.ntmps20
      go_wp2
      go_ret2
      rw [HM.out]
      exact ⟨rfl, HST.out, Kp.refl _ _⟩
  · have hch : ((({ data := #[83, 65, 80, 82, 1] } : ByteArray)[2]).toNat : Int) = 80 := rfl
    by_cases hx : v = 80
    · subst hx
      have HM : Hid (mg19 s 80 = (0, { s with cn := 3, nx := s.nx })) := by show _ = _; unfold mg19; rw [HCN.out, if_pos (by rfl)]; rfl
      simp only [Int.reduceAdd, Int.reduceMod, Int.cast_ofNat_Int] at LA
      go_enter Tryz.func20, Tryz.ntmps20
      go_wp2_with fail
      refine LA.mono ?_
      rintro e1 w1 ⟨rfl, q1, k1⟩
      have HQ : Hid (St19 w1 b t { s with cn := 3, nx := s.nx } ∧ Kp (fun k => k = b) w w1) := ⟨q1, k1⟩
      clear LA q1 k1
      go_wp2
      go_ret2
      rw [HM.out]
      exact ⟨rfl, HQ.out.1, HQ.out.2⟩
    · have HM : Hid (mg19 s v = (190, s)) := by show _ = _; unfold mg19; rw [HCN.out, if_neg (by exact hx)]
      have hxb : (v != 80) = true := by simp [hx]
      clear LA hx
      go_enter Tryz.func20, Tryz.ntmps20
      go_wp2
      go_ret2
      rw [HM.out]
      exact ⟨rfl, HST.out, Kp.refl _ _⟩
  · have hch : ((({ data := #[83, 65, 80, 82, 1] } : ByteArray)[3]).toNat : Int) = 82 := rfl
    by_cases hx : v = 82
    · subst hx
      have HM : Hid (mg19 s 82 = (0, { s with cn := 4, nx := s.nx })) := by show _ = _; unfold mg19; rw [HCN.out, if_pos (by rfl)]; rfl
      simp only [Int.reduceAdd, Int.reduceMod, Int.cast_ofNat_Int] at LA
      go_enter Tryz.func20, Tryz.ntmps20
      go_wp2_with fail
      refine LA.mono ?_
      rintro e1 w1 ⟨rfl, q1, k1⟩
      have HQ : Hid (St19 w1 b t { s with cn := 4, nx := s.nx } ∧ Kp (fun k => k = b) w w1) := ⟨q1, k1⟩
      clear LA q1 k1
      go_wp2
      go_ret2
      rw [HM.out]
      exact ⟨rfl, HQ.out.1, HQ.out.2⟩
    · have HM : Hid (mg19 s v = (190, s)) := by show _ = _; unfold mg19; rw [HCN.out, if_neg (by exact hx)]
      have hxb : (v != 82) = true := by simp [hx]
      clear LA hx
      go_enter Tryz.func20, Tryz.ntmps20
      go_wp2
      go_ret2
      rw [HM.out]
      exact ⟨rfl, HST.out, Kp.refl _ _⟩
  · have hch : ((({ data := #[83, 65, 80, 82, 1] } : ByteArray)[4]).toNat : Int) = 1 := rfl
    by_cases hx : v = 1
    · subst hx
      have HM : Hid (mg19 s 1 = (0, { s with cn := 0, nx := 2 })) := by show _ = _; unfold mg19; rw [HCN.out, if_pos (by rfl)]; rfl
      simp only [Int.reduceAdd, Int.reduceMod, Int.cast_ofNat_Int] at LA
      go_enter Tryz.func20, Tryz.ntmps20
      go_wp2_with fail
      refine LA.mono ?_
      rintro e1 w1 ⟨rfl, q1, k1⟩
      have d0 := q1.c0
      have d3 := q1.c3
      have g3 := q1.f 3
      have HQ : Hid (St19 (w1.setCell ⟨b, 3, none⟩ (.int .i64 2)) b t { s with cn := 0, nx := 2 } ∧ Kp (fun k => k = b) w (w1.setCell ⟨b, 3, none⟩ (.int .i64 2))) := ⟨q1.set (s' := { s with cn := 0, nx := 2 }) rfl, kpt_19 k1 (kp1_19 _)⟩
      clear LA q1 k1
      go_wp2
      go_ret2
      rw [HM.out]
      exact ⟨rfl, HQ.out.1, HQ.out.2⟩
    · have HM : Hid (mg19 s v = (190, s)) := by show _ = _; unfold mg19; rw [HCN.out, if_neg (by exact hx)]
      have hxb : (v != 1) = true := by simp [hx]
      clear LA hx
      go_enter Tryz.func20, Tryz.ntmps20
      go_wp2
      go_ret2
      rw [HM.out]
      exact ⟨rfl, HST.out, Kp.refl _ _⟩
/-- headNumber: the error, the state. -/
def hn19 (s : R19) (v : Int) : Int × R19 := if (nb19 s v 4).1 then (0, { (nb19 s v 4).2.2 with hd := ⟨(nb19 s v 4).2.2.n0, (nb19 s v 4).2.2.n1, 0, 0, (nb19 s v 4).2.2.n2, (nb19 s v 4).2.2.n3⟩, nx := 3 }) else ((nb19 s v 4).2.1, (nb19 s v 4).2.2)
theorem nb19_ok {s : R19} {v m : Int} (h : (nb19 s v m).1 = true) : (nb19 s v m).2.1 = 0 := by
  unfold nb19 at *
  split at h
  · cases h
  · rename_i h1
    split at h
    · cases h
    · rename_i h2
      rw [if_neg h1, if_neg h2]
set_option maxRecDepth 100000 in
set_option maxHeartbeats 4000000 in
theorem phnm19 (b : Nat) (t : TypeId) (s : R19) (v : Int) (q : Value) (w : World) (h : St19 w b t s) (hT : Tk19 s) (hv : 0 ≤ v ∧ v ≤ 255) (hc : 0 ≤ s.cn ∧ s.cn < 4) :
    Calls Tryz.prog 21 #[.pointer (some ⟨b, 0, none⟩), .int .u8 v, q] w fun e w' => e = .returned (.tuple #[.bool false, .int .i64 (hn19 s v).1]) ∧ St19 w' b t (hn19 s v).2 ∧ Kp (fun k => k = b) w w' := by
  have NB := pnum19 b t s v 4 w h hT hv (by omega) hc
  have HER := fun x => nb19_ok (s := s) (v := v) (m := 4) x
  by_cases hw : (nb19 s v 4).1 = true
  · have HH : Hid (hn19 s v = (0, { (nb19 s v 4).2.2 with hd := ⟨(nb19 s v 4).2.2.n0, (nb19 s v 4).2.2.n1, 0, 0, (nb19 s v 4).2.2.n2, (nb19 s v 4).2.2.n3⟩, nx := 3 })) := by show _ = _; unfold hn19; rw [if_pos hw]
    have he := HER hw
    rw [hw, he] at NB
    generalize (nb19 s v 4).2.2 = r at *
    clear hw he HER hT hc h hv
    go_enter Tryz.func21, Tryz.ntmps21
    go_wp2_with fail
    refine NB.mono ?_
    rintro e1 w1 ⟨rfl, q1, k1⟩
    have HQ1 : Hid (St19 w1.drew b t r ∧ Kp (fun k => k = b) w w1.drew) := ⟨q1, k1.drew⟩
    have HSC : Hid (w1.drew.cell? ⟨b, 0, none⟩ = some (.int .u32 (wI r.sm)) ∧ w1.drew.cell? ⟨b, 5, none⟩ = some (.int .i64 r.n0) ∧ w1.drew.cell? ⟨b, 6, none⟩ = some (.int .i64 r.n1) ∧ w1.drew.cell? ⟨b, 7, none⟩ = some (.int .i64 r.n2) ∧ w1.drew.cell? ⟨b, 8, none⟩ = some (.int .i64 r.n3)) := ⟨HQ1.out.1.c0, HQ1.out.1.c5, HQ1.out.1.c6, HQ1.out.1.c7, HQ1.out.1.c8⟩
    clear NB q1 k1
    go_wp2_with fail
    refine plain_region16 (fun V => V.cell? ⟨b, 0, none⟩ = some (.int .u32 (wI r.sm)) ∧ V.cell? ⟨b, 5, none⟩ = some (.int .i64 r.n0) ∧ V.cell? ⟨b, 6, none⟩ = some (.int .i64 r.n1) ∧ V.cell? ⟨b, 7, none⟩ = some (.int .i64 r.n2) ∧ V.cell? ⟨b, 8, none⟩ = some (.int .i64 r.n3)) 25 (by kernel_rfl) HSC.out (fun hHeld => ?_)
    generalize w1.drew = u1 at *
    refine wpAnyK_take (i := 0) (v := .pointer (some ⟨b, 0, none⟩)) rfl (by kernel_rfl) (by kernel_rfl) (by kernel_rfl) (by kernel_rfl) (fun _ _ _ h => h) (Or.inl ⟨by rfl, fun w hSw => by go_simp⟩) hHeld ?_
    simp only [List.getElem_toArray, List.getElem_cons_zero, Act.put, List.setIfInBounds_toArray, List.set_cons_zero, List.set_cons_succ]
    refine wpAnyK_take (i := 1) (v := .pointer (some ⟨b, 0, none⟩)) rfl (by kernel_rfl) (by kernel_rfl) (by kernel_rfl) (by kernel_rfl) (fun _ _ _ h => h) (Or.inl ⟨by rfl, fun w hSw => by go_simp⟩) hHeld ?_
    simp only [List.getElem_toArray, List.getElem_cons_zero, List.getElem_cons_succ, Act.put, List.setIfInBounds_toArray, List.set_cons_zero, List.set_cons_succ]
    refine wpAnyK_take (i := 2) (v := .pointer (some ⟨b, 0, none⟩)) rfl (by kernel_rfl) (by kernel_rfl) (by kernel_rfl) (by kernel_rfl) (fun _ _ _ h => h) (Or.inl ⟨by rfl, fun w hSw => by go_simp⟩) hHeld ?_
    simp only [List.getElem_toArray, List.getElem_cons_zero, List.getElem_cons_succ, Act.put, List.setIfInBounds_toArray, List.set_cons_zero, List.set_cons_succ]
    refine wpAnyK_take (i := 3) (v := .pointer (some ⟨b, 5, none⟩)) rfl (by kernel_rfl) (by kernel_rfl) (by kernel_rfl) (by kernel_rfl) (fun _ _ _ h => h) (Or.inl ⟨by rfl, fun w hSw => by go_simp⟩) hHeld ?_
    simp only [List.getElem_toArray, List.getElem_cons_zero, List.getElem_cons_succ, Act.put, List.setIfInBounds_toArray, List.set_cons_zero, List.set_cons_succ]
    refine wpAnyK_take (i := 4) (v := .pointer (some ⟨b, 5, none⟩)) rfl (by kernel_rfl) (by kernel_rfl) (by kernel_rfl) (by kernel_rfl) (fun _ _ _ h => h) (Or.inl ⟨by rfl, fun w hSw => by go_simp⟩) hHeld ?_
    simp only [List.getElem_toArray, List.getElem_cons_zero, List.getElem_cons_succ, Act.put, List.setIfInBounds_toArray, List.set_cons_zero, List.set_cons_succ]
    refine wpAnyK_take (i := 5) (v := .int .i64 r.n0) rfl (by kernel_rfl) (by kernel_rfl) (by kernel_rfl) (by kernel_rfl) (fun _ _ _ h => h) (Or.inl ⟨by rfl, fun w hSw => by go_simp⟩) hHeld ?_
    simp only [List.getElem_toArray, List.getElem_cons_zero, List.getElem_cons_succ, Act.put, List.setIfInBounds_toArray, List.set_cons_zero, List.set_cons_succ]
    refine wpAnyK_take (i := 6) (v := .pointer (some ⟨b, 0, none⟩)) rfl (by kernel_rfl) (by kernel_rfl) (by kernel_rfl) (by kernel_rfl) (fun _ _ _ h => h) (Or.inl ⟨by rfl, fun w hSw => by go_simp⟩) hHeld ?_
    simp only [List.getElem_toArray, List.getElem_cons_zero, List.getElem_cons_succ, Act.put, List.setIfInBounds_toArray, List.set_cons_zero, List.set_cons_succ]
    refine wpAnyK_take (i := 7) (v := .pointer (some ⟨b, 0, none⟩)) rfl (by kernel_rfl) (by kernel_rfl) (by kernel_rfl) (by kernel_rfl) (fun _ _ _ h => h) (Or.inl ⟨by rfl, fun w hSw => by go_simp⟩) hHeld ?_
    simp only [List.getElem_toArray, List.getElem_cons_zero, List.getElem_cons_succ, Act.put, List.setIfInBounds_toArray, List.set_cons_zero, List.set_cons_succ]
    refine wpAnyK_take (i := 8) (v := .pointer (some ⟨b, 5, none⟩)) rfl (by kernel_rfl) (by kernel_rfl) (by kernel_rfl) (by kernel_rfl) (fun _ _ _ h => h) (Or.inl ⟨by rfl, fun w hSw => by go_simp⟩) hHeld ?_
    simp only [List.getElem_toArray, List.getElem_cons_zero, List.getElem_cons_succ, Act.put, List.setIfInBounds_toArray, List.set_cons_zero, List.set_cons_succ]
    refine wpAnyK_take (i := 9) (v := .pointer (some ⟨b, 6, none⟩)) rfl (by kernel_rfl) (by kernel_rfl) (by kernel_rfl) (by kernel_rfl) (fun _ _ _ h => h) (Or.inl ⟨by rfl, fun w hSw => by go_simp⟩) hHeld ?_
    simp only [List.getElem_toArray, List.getElem_cons_zero, List.getElem_cons_succ, Act.put, List.setIfInBounds_toArray, List.set_cons_zero, List.set_cons_succ]
    refine wpAnyK_take (i := 10) (v := .int .i64 r.n1) rfl (by kernel_rfl) (by kernel_rfl) (by kernel_rfl) (by kernel_rfl) (fun _ _ _ h => h) (Or.inl ⟨by rfl, fun w hSw => by go_simp⟩) hHeld ?_
    simp only [List.getElem_toArray, List.getElem_cons_zero, List.getElem_cons_succ, Act.put, List.setIfInBounds_toArray, List.set_cons_zero, List.set_cons_succ]
    refine wpAnyK_take (i := 11) (v := .pointer (some ⟨b, 0, none⟩)) rfl (by kernel_rfl) (by kernel_rfl) (by kernel_rfl) (by kernel_rfl) (fun _ _ _ h => h) (Or.inl ⟨by rfl, fun w hSw => by go_simp⟩) hHeld ?_
    simp only [List.getElem_toArray, List.getElem_cons_zero, List.getElem_cons_succ, Act.put, List.setIfInBounds_toArray, List.set_cons_zero, List.set_cons_succ]
    refine wpAnyK_take (i := 12) (v := .pointer (some ⟨b, 0, none⟩)) rfl (by kernel_rfl) (by kernel_rfl) (by kernel_rfl) (by kernel_rfl) (fun _ _ _ h => h) (Or.inl ⟨by rfl, fun w hSw => by go_simp⟩) hHeld ?_
    simp only [List.getElem_toArray, List.getElem_cons_zero, List.getElem_cons_succ, Act.put, List.setIfInBounds_toArray, List.set_cons_zero, List.set_cons_succ]
    refine wpAnyK_take (i := 13) (v := .pointer (some ⟨b, 5, none⟩)) rfl (by kernel_rfl) (by kernel_rfl) (by kernel_rfl) (by kernel_rfl) (fun _ _ _ h => h) (Or.inl ⟨by rfl, fun w hSw => by go_simp⟩) hHeld ?_
    simp only [List.getElem_toArray, List.getElem_cons_zero, List.getElem_cons_succ, Act.put, List.setIfInBounds_toArray, List.set_cons_zero, List.set_cons_succ]
    refine wpAnyK_take (i := 14) (v := .pointer (some ⟨b, 7, none⟩)) rfl (by kernel_rfl) (by kernel_rfl) (by kernel_rfl) (by kernel_rfl) (fun _ _ _ h => h) (Or.inl ⟨by rfl, fun w hSw => by go_simp⟩) hHeld ?_
    simp only [List.getElem_toArray, List.getElem_cons_zero, List.getElem_cons_succ, Act.put, List.setIfInBounds_toArray, List.set_cons_zero, List.set_cons_succ]
    refine wpAnyK_take (i := 15) (v := .int .i64 r.n2) rfl (by kernel_rfl) (by kernel_rfl) (by kernel_rfl) (by kernel_rfl) (fun _ _ _ h => h) (Or.inl ⟨by rfl, fun w hSw => by go_simp⟩) hHeld ?_
    simp only [List.getElem_toArray, List.getElem_cons_zero, List.getElem_cons_succ, Act.put, List.setIfInBounds_toArray, List.set_cons_zero, List.set_cons_succ]
    refine wpAnyK_take (i := 16) (v := .pointer (some ⟨b, 0, none⟩)) rfl (by kernel_rfl) (by kernel_rfl) (by kernel_rfl) (by kernel_rfl) (fun _ _ _ h => h) (Or.inl ⟨by rfl, fun w hSw => by go_simp⟩) hHeld ?_
    simp only [List.getElem_toArray, List.getElem_cons_zero, List.getElem_cons_succ, Act.put, List.setIfInBounds_toArray, List.set_cons_zero, List.set_cons_succ]
    refine wpAnyK_take (i := 17) (v := .pointer (some ⟨b, 0, none⟩)) rfl (by kernel_rfl) (by kernel_rfl) (by kernel_rfl) (by kernel_rfl) (fun _ _ _ h => h) (Or.inl ⟨by rfl, fun w hSw => by go_simp⟩) hHeld ?_
    simp only [List.getElem_toArray, List.getElem_cons_zero, List.getElem_cons_succ, Act.put, List.setIfInBounds_toArray, List.set_cons_zero, List.set_cons_succ]
    refine wpAnyK_take (i := 18) (v := .pointer (some ⟨b, 5, none⟩)) rfl (by kernel_rfl) (by kernel_rfl) (by kernel_rfl) (by kernel_rfl) (fun _ _ _ h => h) (Or.inl ⟨by rfl, fun w hSw => by go_simp⟩) hHeld ?_
    simp only [List.getElem_toArray, List.getElem_cons_zero, List.getElem_cons_succ, Act.put, List.setIfInBounds_toArray, List.set_cons_zero, List.set_cons_succ]
    refine wpAnyK_take (i := 19) (v := .pointer (some ⟨b, 8, none⟩)) rfl (by kernel_rfl) (by kernel_rfl) (by kernel_rfl) (by kernel_rfl) (fun _ _ _ h => h) (Or.inl ⟨by rfl, fun w hSw => by go_simp⟩) hHeld ?_
    simp only [List.getElem_toArray, List.getElem_cons_zero, List.getElem_cons_succ, Act.put, List.setIfInBounds_toArray, List.set_cons_zero, List.set_cons_succ]
    refine wpAnyK_take (i := 20) (v := .int .i64 r.n3) rfl (by kernel_rfl) (by kernel_rfl) (by kernel_rfl) (by kernel_rfl) (fun _ _ _ h => h) (Or.inl ⟨by rfl, fun w hSw => by go_simp⟩) hHeld ?_
    simp only [List.getElem_toArray, List.getElem_cons_zero, List.getElem_cons_succ, Act.put, List.setIfInBounds_toArray, List.set_cons_zero, List.set_cons_succ]
    refine wpAnyK_take (i := 21) (v := .agg #[.int .i64 r.n0, .int .i64 r.n1, .int .u32 0, .int .u32 0, .int .i64 r.n2, .int .i64 r.n3]) rfl (by kernel_rfl) (by kernel_rfl) (by kernel_rfl) (by kernel_rfl) (fun _ _ _ h => h) (Or.inl ⟨by rfl, fun w hSw => by go_simp⟩) hHeld ?_
    simp only [List.getElem_toArray, List.getElem_cons_zero, List.getElem_cons_succ, Act.put, List.setIfInBounds_toArray, List.set_cons_zero, List.set_cons_succ]
    refine wpAnyK_take (i := 22) (v := .pointer (some ⟨b, 0, none⟩)) rfl (by kernel_rfl) (by kernel_rfl) (by kernel_rfl) (by kernel_rfl) (fun _ _ _ h => h) (Or.inl ⟨by rfl, fun w hSw => by go_simp⟩) hHeld ?_
    simp only [List.getElem_toArray, List.getElem_cons_zero, List.getElem_cons_succ, Act.put, List.setIfInBounds_toArray, List.set_cons_zero, List.set_cons_succ]
    refine wpAnyK_take (i := 23) (v := .pointer (some ⟨b, 12, none⟩)) rfl (by kernel_rfl) (by kernel_rfl) (by kernel_rfl) (by kernel_rfl) (fun _ _ _ h => h) (Or.inl ⟨by rfl, fun w hSw => by go_simp⟩) hHeld ?_
    simp only [List.getElem_toArray, List.getElem_cons_zero, List.getElem_cons_succ, Act.put, List.setIfInBounds_toArray, List.set_cons_zero, List.set_cons_succ]
    have c12 := HQ1.out.1.c12
    have c13 := HQ1.out.1.c13
    have c14 := HQ1.out.1.c14
    have c15 := HQ1.out.1.c15
    have c16 := HQ1.out.1.c16
    have c17 := HQ1.out.1.c17
    have f12 := HQ1.out.1.f 12
    have f13 := HQ1.out.1.f 13
    have f14 := HQ1.out.1.f 14
    have f15 := HQ1.out.1.f 15
    have f16 := HQ1.out.1.f 16
    have f17 := HQ1.out.1.f 17
    refine wpAnyK_one (i := 24) (by kernel_rfl) rfl (fun K hK => ?_)
    simp only [List.getElem_toArray, List.getElem_cons_zero, List.getElem_cons_succ, Act.put]
    go_simp
    obtain ⟨u2, hu2⟩ : ∃ u2, u2 = ((((((u1.setCell ⟨b, 12, none⟩ (.int .i64 r.n0)).setCell ⟨b, 13, none⟩ (.int .i64 r.n1)).setCell ⟨b, 14, none⟩ (.int .u32 0)).setCell ⟨b, 15, none⟩ (.int .u32 0)).setCell ⟨b, 16, none⟩ (.int .i64 r.n2)).setCell ⟨b, 17, none⟩ (.int .i64 r.n3)) := ⟨_, rfl⟩
    have q2 : St19 u2 b t { r with hd := ⟨r.n0, r.n1, 0, 0, r.n2, r.n3⟩ } := by rw [hu2]; exact (St19.set (St19.set (St19.set (St19.set (St19.set (St19.set HQ1.out.1 (s' := { r with hd := { r.hd with o := r.n0 } }) rfl) (s' := { r with hd := { r.hd with o := r.n0, n := r.n1 } }) rfl) (s' := { r with hd := { r.hd with o := r.n0, n := r.n1, so := 0 } }) rfl) (s' := { r with hd := { r.hd with o := r.n0, n := r.n1, so := 0, sn := 0 } }) rfl) (s' := { r with hd := { r.hd with o := r.n0, n := r.n1, so := 0, sn := 0, wi := r.n2 } }) rfl) (s' := { r with hd := { r.hd with o := r.n0, n := r.n1, so := 0, sn := 0, wi := r.n2, lo := r.n3 } }) rfl)
    have k2 : Kp (fun k => k = b) w u2 := by rw [hu2]; exact kpt_19 (kpt_19 (kpt_19 (kpt_19 (kpt_19 (kpt_19 HQ1.out.2 (kp1_19 _)) (kp1_19 _)) (kp1_19 _)) (kp1_19 _)) (kp1_19 _)) (kp1_19 _)
    rw [← hu2]
    refine hK.out _ _ (fun _ => ⟨q2.c0, q2.c5, q2.c6, q2.c7, q2.c8⟩) (fun hHeld0 => ?_)
    clear hHeld0 hK K hu2 c12 c13 c14 c15 c16 c17 f12 f13 f14 f15 f16 f17
    refine wpAnyK_done (by kernel_rfl) ?_ _
    have d0 := q2.c0
    have d3 := q2.c3
    have g3 := q2.f 3
    have HQ2 : Hid (St19 (u2.setCell ⟨b, 3, none⟩ (.int .i64 3)) b t { r with hd := ⟨r.n0, r.n1, 0, 0, r.n2, r.n3⟩, nx := 3 } ∧ Kp (fun k => k = b) w (u2.setCell ⟨b, 3, none⟩ (.int .i64 3))) := ⟨q2.set (s' := { r with hd := ⟨r.n0, r.n1, 0, 0, r.n2, r.n3⟩, nx := 3 }) rfl, kpt_19 k2 (kp1_19 _)⟩
    clear q2 k2
    go_wp2
    go_ret2
    rw [HH.out]
    exact ⟨rfl, HQ2.out.1, HQ2.out.2⟩
  · have HH : Hid (hn19 s v = ((nb19 s v 4).2.1, (nb19 s v 4).2.2)) := by show _ = _; unfold hn19; rw [if_neg hw]
    have hwf : (nb19 s v 4).1 = false := by simpa using hw
    rw [hwf] at NB
    generalize (nb19 s v 4).2.2 = r at *
    generalize (nb19 s v 4).2.1 = er at *
    clear hw hwf HER hT hc h hv
    go_enter Tryz.func21, Tryz.ntmps21
    go_wp2_with fail
    refine NB.mono ?_
    rintro e1 w1 ⟨rfl, q1, k1⟩
    have HQ1 : Hid (St19 w1 b t r ∧ Kp (fun k => k = b) w w1) := ⟨q1, k1⟩
    clear NB q1 k1
    go_wp2
    go_ret2
    rw [HH.out]
    exact ⟨rfl, HQ1.out.1, HQ1.out.2⟩
end Go.Proofs.YtpodakndckflgaaGreatDoor

namespace Go.Proofs.YtpodakndckflgaaGreatDoor
open Go.RowKit Go.Shelf
set_option linter.unusedVariables false
set_option linter.unusedSimpArgs false
theorem or32_19 {r v c : Nat} (h : r < 2 ^ c) (h2 : v * 2 ^ c + r < 4294967296) : bits .or .u32 (r : Int) ((v * 2 ^ c : Nat) : Int) = ((r + v * 2 ^ c : Nat) : Int) := by
  rw [u32_or_nat _ _ (by omega) (by omega), Nat.or_comm, Nat.mul_comm v, ← Nat.two_pow_add_eq_or_of_lt h, Nat.add_comm]
theorem or32i_19 {r v Y Z : Int} (c : Nat) (hr : 0 ≤ r ∧ r < 2 ^ c) (hv : 0 ≤ v) (h2 : v * 2 ^ c + r < 4294967296) (hY : Y = v * 2 ^ c) (hZ : Z = r + v * 2 ^ c) : bits .or .u32 r Y = Z := by
  obtain ⟨r', rfl⟩ : ∃ n : Nat, r = (n : Int) := ⟨r.toNat, by omega⟩
  obtain ⟨v', rfl⟩ : ∃ n : Nat, v = (n : Int) := ⟨v.toNat, by omega⟩
  have e : ((v' * 2 ^ c : Nat) : Int) = (v' : Int) * 2 ^ c := by simp
  have := or32_19 (r := r') (v := v') (c := c) (by have h1 := hr.2; rw [show (2 : Int) ^ c = ((2 ^ c : Nat) : Int) by simp] at h1; omega) (by rw [← e] at h2; omega)
  rw [e] at this
  rw [hY, this, hZ]
  simp
/-- What is known of the sums so far. -/
def Im19 (s : R19) : Prop := 0 ≤ s.cn ∧ s.cn < 8 ∧ (s.cn < 4 → 0 ≤ s.hd.so ∧ s.hd.so < 2 ^ (8 * s.cn.toNat)) ∧ (4 ≤ s.cn → 0 ≤ s.hd.sn ∧ s.hd.sn < 2 ^ (8 * (s.cn.toNat - 4)))
def im19 (s : R19) (v : Int) : R19 :=
  { s with hd := (if s.cn < 4 then { s.hd with so := s.hd.so + v * 2 ^ (8 * s.cn.toNat) } else { s.hd with sn := s.hd.sn + v * 2 ^ (8 * (s.cn.toNat - 4)) }), cn := (s.cn + 1) % 8, nx := if (s.cn + 1) % 8 = 0 then 4 else s.nx }
set_option maxRecDepth 100000 in
set_option maxHeartbeats 4000000 in
theorem pimg19 (b : Nat) (t : TypeId) (s : R19) (v : Int) (q : Value) (w : World) (h : St19 w b t s) (hv : 0 ≤ v ∧ v ≤ 255) (hI : Im19 s) :
    Calls Tryz.prog 22 #[.pointer (some ⟨b, 0, none⟩), .int .u8 v, q] w fun e w' => e = .returned (.tuple #[.bool false, .int .i64 0]) ∧ St19 w' b t (im19 s v) ∧ Kp (fun k => k = b) w w' := by
  have c0 := h.c0
  have c4 := h.c4
  obtain ⟨hI0, hI1, hI2, hI3⟩ := hI
  obtain ⟨k, hk⟩ : ∃ k : Nat, s.cn = (k : Int) := ⟨s.cn.toNat, by omega⟩
  have hk8 : k < 8 := by omega
  rw [hk] at c4 hI2 hI3
  rw [Int.toNat_natCast] at hI2 hI3
  have HCN : Hid (s.cn = (k : Int)) := hk
  have HLA : Hid (∀ V r, St19 V b t r → r.cn = (k : Int) → Calls Tryz.prog 33 #[.pointer (some ⟨b, 0, none⟩), .int .i64 8] V fun e w' => e = .returned (.bool (((k : Int) + 1) % 8 == 0)) ∧ St19 w' b t { r with cn := ((k : Int) + 1) % 8 } ∧ Kp (fun k => k = b) V w') := fun V r hr e => by
    have := plast19 b t r 8 V hr (by rw [e]; omega) (by omega)
    rw [e] at this
    exact this
  have h14 := h.c14
  have h15 := h.c15
  have f14 := h.f 14
  have f15 := h.f 15
  have HST : Hid (St19 w b t s) := h
  have hv8 : IntKind.u32.wrap v = v := IntWalk.u32_in _ (by omega)
  clear h hk hI0 hI1
  rcases (by omega : k = 0 ∨ k = 1 ∨ k = 2 ∨ k = 3 ∨ k = 4 ∨ k = 5 ∨ k = 6 ∨ k = 7) with rfl | rfl | rfl | rfl | rfl | rfl | rfl | rfl
  · have hb := hI2 (by decide)
    clear hI2 hI3
    obtain ⟨Y, hY⟩ : ∃ Y, Y = v * 1 := ⟨_, rfl⟩
    obtain ⟨Z, hZ⟩ : ∃ Z, Z = s.hd.so + Y := ⟨_, rfl⟩
    have hb' : 0 ≤ s.hd.so ∧ s.hd.so < 1 := hb
    have o1 : bits .or .u32 s.hd.so Y = Z := or32i_19 (v := v) 0 hb (by omega) (by rw [show (2 : Int) ^ 0 = 1 by decide]; omega) (by rw [show (2 : Int) ^ 0 = 1 by decide]; omega) (by rw [show (2 : Int) ^ 0 = 1 by decide]; omega)
    have o2 : v * 1 % 4294967296 = Y := by omega
    have o3 : IntKind.u32.wrap (v * 1) = Y := by rw [IntWalk.u32_in _ (by omega)]; omega
    have o4 : v * 2 ^ 0 % 4294967296 = Y := by rw [show (2 : Int) ^ 0 = 1 by decide]; omega
    have o5 : bits .or .u32 s.hd.so v = Z := (show Y = v by omega) ▸ o1
    have HS : Hid (St19 (w.setCell ⟨b, 14, none⟩ (.int .u32 Z)).drew b t { s with hd := { s.hd with so := Z } } ∧ Kp (fun k => k = b) w (w.setCell ⟨b, 14, none⟩ (.int .u32 Z)).drew) := ⟨HST.out.set (s' := { s with hd := { s.hd with so := Z } }) rfl, (kp1_19 _).drew⟩
    have HIM : Hid (im19 s v = { s with hd := { s.hd with so := Z }, cn := 1, nx := s.nx }) := by
      show _ = _
      unfold im19
      rw [HCN.out]
      simp [hZ, hY]
    have LA := HLA.out _ _ HS.out.1 HCN.out
    simp only [Int.reduceAdd, Int.reduceMod, Int.cast_ofNat_Int] at LA
    clear hb hb' hY hZ
    go_enter Tryz.func22, Tryz.ntmps22
    go_wp2_with fail
    go_region
    go_wp2_with fail
    refine LA.mono ?_
    rintro e1 w1 ⟨rfl, q1, k1⟩
    have HQ : Hid (St19 w1 b t { s with hd := { s.hd with so := Z }, cn := 1, nx := s.nx } ∧ Kp (fun k => k = b) w w1) := ⟨q1, kpt_19 HS.out.2 k1⟩
    clear LA q1 k1
    go_wp2
    go_ret2
    rw [HIM.out]
    exact ⟨rfl, HQ.out.1, HQ.out.2⟩
  · have hb := hI2 (by decide)
    clear hI2 hI3
    obtain ⟨Y, hY⟩ : ∃ Y, Y = v * 256 := ⟨_, rfl⟩
    obtain ⟨Z, hZ⟩ : ∃ Z, Z = s.hd.so + Y := ⟨_, rfl⟩
    have hb' : 0 ≤ s.hd.so ∧ s.hd.so < 256 := hb
    have o1 : bits .or .u32 s.hd.so Y = Z := or32i_19 (v := v) 8 hb (by omega) (by rw [show (2 : Int) ^ 8 = 256 by decide]; omega) (by rw [show (2 : Int) ^ 8 = 256 by decide]; omega) (by rw [show (2 : Int) ^ 8 = 256 by decide]; omega)
    have o2 : v * 256 % 4294967296 = Y := by omega
    have o3 : IntKind.u32.wrap (v * 256) = Y := by rw [IntWalk.u32_in _ (by omega)]; omega
    have o4 : v * 2 ^ 8 % 4294967296 = Y := by rw [show (2 : Int) ^ 8 = 256 by decide]; omega
    have HS : Hid (St19 (w.setCell ⟨b, 14, none⟩ (.int .u32 Z)).drew b t { s with hd := { s.hd with so := Z } } ∧ Kp (fun k => k = b) w (w.setCell ⟨b, 14, none⟩ (.int .u32 Z)).drew) := ⟨HST.out.set (s' := { s with hd := { s.hd with so := Z } }) rfl, (kp1_19 _).drew⟩
    have HIM : Hid (im19 s v = { s with hd := { s.hd with so := Z }, cn := 2, nx := s.nx }) := by
      show _ = _
      unfold im19
      rw [HCN.out]
      simp [hZ, hY]
    have LA := HLA.out _ _ HS.out.1 HCN.out
    simp only [Int.reduceAdd, Int.reduceMod, Int.cast_ofNat_Int] at LA
    clear hb hb' hY hZ
    go_enter Tryz.func22, Tryz.ntmps22
    go_wp2_with fail
    go_region
    go_wp2_with fail
    refine LA.mono ?_
    rintro e1 w1 ⟨rfl, q1, k1⟩
    have HQ : Hid (St19 w1 b t { s with hd := { s.hd with so := Z }, cn := 2, nx := s.nx } ∧ Kp (fun k => k = b) w w1) := ⟨q1, kpt_19 HS.out.2 k1⟩
    clear LA q1 k1
    go_wp2
    go_ret2
    rw [HIM.out]
    exact ⟨rfl, HQ.out.1, HQ.out.2⟩
  · have hb := hI2 (by decide)
    clear hI2 hI3
    obtain ⟨Y, hY⟩ : ∃ Y, Y = v * 65536 := ⟨_, rfl⟩
    obtain ⟨Z, hZ⟩ : ∃ Z, Z = s.hd.so + Y := ⟨_, rfl⟩
    have hb' : 0 ≤ s.hd.so ∧ s.hd.so < 65536 := hb
    have o1 : bits .or .u32 s.hd.so Y = Z := or32i_19 (v := v) 16 hb (by omega) (by rw [show (2 : Int) ^ 16 = 65536 by decide]; omega) (by rw [show (2 : Int) ^ 16 = 65536 by decide]; omega) (by rw [show (2 : Int) ^ 16 = 65536 by decide]; omega)
    have o2 : v * 65536 % 4294967296 = Y := by omega
    have o3 : IntKind.u32.wrap (v * 65536) = Y := by rw [IntWalk.u32_in _ (by omega)]; omega
    have o4 : v * 2 ^ 16 % 4294967296 = Y := by rw [show (2 : Int) ^ 16 = 65536 by decide]; omega
    have HS : Hid (St19 (w.setCell ⟨b, 14, none⟩ (.int .u32 Z)).drew b t { s with hd := { s.hd with so := Z } } ∧ Kp (fun k => k = b) w (w.setCell ⟨b, 14, none⟩ (.int .u32 Z)).drew) := ⟨HST.out.set (s' := { s with hd := { s.hd with so := Z } }) rfl, (kp1_19 _).drew⟩
    have HIM : Hid (im19 s v = { s with hd := { s.hd with so := Z }, cn := 3, nx := s.nx }) := by
      show _ = _
      unfold im19
      rw [HCN.out]
      simp [hZ, hY]
    have LA := HLA.out _ _ HS.out.1 HCN.out
    simp only [Int.reduceAdd, Int.reduceMod, Int.cast_ofNat_Int] at LA
    clear hb hb' hY hZ
    go_enter Tryz.func22, Tryz.ntmps22
    go_wp2_with fail
    go_region
    go_wp2_with fail
    refine LA.mono ?_
    rintro e1 w1 ⟨rfl, q1, k1⟩
    have HQ : Hid (St19 w1 b t { s with hd := { s.hd with so := Z }, cn := 3, nx := s.nx } ∧ Kp (fun k => k = b) w w1) := ⟨q1, kpt_19 HS.out.2 k1⟩
    clear LA q1 k1
    go_wp2
    go_ret2
    rw [HIM.out]
    exact ⟨rfl, HQ.out.1, HQ.out.2⟩
  · have hb := hI2 (by decide)
    clear hI2 hI3
    obtain ⟨Y, hY⟩ : ∃ Y, Y = v * 16777216 := ⟨_, rfl⟩
    obtain ⟨Z, hZ⟩ : ∃ Z, Z = s.hd.so + Y := ⟨_, rfl⟩
    have hb' : 0 ≤ s.hd.so ∧ s.hd.so < 16777216 := hb
    have o1 : bits .or .u32 s.hd.so Y = Z := or32i_19 (v := v) 24 hb (by omega) (by rw [show (2 : Int) ^ 24 = 16777216 by decide]; omega) (by rw [show (2 : Int) ^ 24 = 16777216 by decide]; omega) (by rw [show (2 : Int) ^ 24 = 16777216 by decide]; omega)
    have o2 : v * 16777216 % 4294967296 = Y := by omega
    have o3 : IntKind.u32.wrap (v * 16777216) = Y := by rw [IntWalk.u32_in _ (by omega)]; omega
    have o4 : v * 2 ^ 24 % 4294967296 = Y := by rw [show (2 : Int) ^ 24 = 16777216 by decide]; omega
    have HS : Hid (St19 (w.setCell ⟨b, 14, none⟩ (.int .u32 Z)).drew b t { s with hd := { s.hd with so := Z } } ∧ Kp (fun k => k = b) w (w.setCell ⟨b, 14, none⟩ (.int .u32 Z)).drew) := ⟨HST.out.set (s' := { s with hd := { s.hd with so := Z } }) rfl, (kp1_19 _).drew⟩
    have HIM : Hid (im19 s v = { s with hd := { s.hd with so := Z }, cn := 4, nx := s.nx }) := by
      show _ = _
      unfold im19
      rw [HCN.out]
      simp [hZ, hY]
    have LA := HLA.out _ _ HS.out.1 HCN.out
    simp only [Int.reduceAdd, Int.reduceMod, Int.cast_ofNat_Int] at LA
    clear hb hb' hY hZ
    go_enter Tryz.func22, Tryz.ntmps22
    go_wp2_with fail
    go_region
    go_wp2_with fail
    refine LA.mono ?_
    rintro e1 w1 ⟨rfl, q1, k1⟩
    have HQ : Hid (St19 w1 b t { s with hd := { s.hd with so := Z }, cn := 4, nx := s.nx } ∧ Kp (fun k => k = b) w w1) := ⟨q1, kpt_19 HS.out.2 k1⟩
    clear LA q1 k1
    go_wp2
    go_ret2
    rw [HIM.out]
    exact ⟨rfl, HQ.out.1, HQ.out.2⟩
  · have hb := hI3 (by decide)
    clear hI2 hI3
    obtain ⟨Y, hY⟩ : ∃ Y, Y = v * 1 := ⟨_, rfl⟩
    obtain ⟨Z, hZ⟩ : ∃ Z, Z = s.hd.sn + Y := ⟨_, rfl⟩
    have hb' : 0 ≤ s.hd.sn ∧ s.hd.sn < 1 := hb
    have o1 : bits .or .u32 s.hd.sn Y = Z := or32i_19 (v := v) 0 hb (by omega) (by rw [show (2 : Int) ^ 0 = 1 by decide]; omega) (by rw [show (2 : Int) ^ 0 = 1 by decide]; omega) (by rw [show (2 : Int) ^ 0 = 1 by decide]; omega)
    have o2 : v * 1 % 4294967296 = Y := by omega
    have o3 : IntKind.u32.wrap (v * 1) = Y := by rw [IntWalk.u32_in _ (by omega)]; omega
    have o4 : v * 2 ^ 0 % 4294967296 = Y := by rw [show (2 : Int) ^ 0 = 1 by decide]; omega
    have o5 : bits .or .u32 s.hd.sn v = Z := (show Y = v by omega) ▸ o1
    have HS : Hid (St19 (w.setCell ⟨b, 15, none⟩ (.int .u32 Z)).drew b t { s with hd := { s.hd with sn := Z } } ∧ Kp (fun k => k = b) w (w.setCell ⟨b, 15, none⟩ (.int .u32 Z)).drew) := ⟨HST.out.set (s' := { s with hd := { s.hd with sn := Z } }) rfl, (kp1_19 _).drew⟩
    have HIM : Hid (im19 s v = { s with hd := { s.hd with sn := Z }, cn := 5, nx := s.nx }) := by
      show _ = _
      unfold im19
      rw [HCN.out]
      simp [hZ, hY]
    have LA := HLA.out _ _ HS.out.1 HCN.out
    simp only [Int.reduceAdd, Int.reduceMod, Int.cast_ofNat_Int] at LA
    clear hb hb' hY hZ
    go_enter Tryz.func22, Tryz.ntmps22
    go_wp2_with fail
    go_region
    go_wp2_with fail
    refine LA.mono ?_
    rintro e1 w1 ⟨rfl, q1, k1⟩
    have HQ : Hid (St19 w1 b t { s with hd := { s.hd with sn := Z }, cn := 5, nx := s.nx } ∧ Kp (fun k => k = b) w w1) := ⟨q1, kpt_19 HS.out.2 k1⟩
    clear LA q1 k1
    go_wp2
    go_ret2
    rw [HIM.out]
    exact ⟨rfl, HQ.out.1, HQ.out.2⟩
  · have hb := hI3 (by decide)
    clear hI2 hI3
    obtain ⟨Y, hY⟩ : ∃ Y, Y = v * 256 := ⟨_, rfl⟩
    obtain ⟨Z, hZ⟩ : ∃ Z, Z = s.hd.sn + Y := ⟨_, rfl⟩
    have hb' : 0 ≤ s.hd.sn ∧ s.hd.sn < 256 := hb
    have o1 : bits .or .u32 s.hd.sn Y = Z := or32i_19 (v := v) 8 hb (by omega) (by rw [show (2 : Int) ^ 8 = 256 by decide]; omega) (by rw [show (2 : Int) ^ 8 = 256 by decide]; omega) (by rw [show (2 : Int) ^ 8 = 256 by decide]; omega)
    have o2 : v * 256 % 4294967296 = Y := by omega
    have o3 : IntKind.u32.wrap (v * 256) = Y := by rw [IntWalk.u32_in _ (by omega)]; omega
    have o4 : v * 2 ^ 8 % 4294967296 = Y := by rw [show (2 : Int) ^ 8 = 256 by decide]; omega
    have HS : Hid (St19 (w.setCell ⟨b, 15, none⟩ (.int .u32 Z)).drew b t { s with hd := { s.hd with sn := Z } } ∧ Kp (fun k => k = b) w (w.setCell ⟨b, 15, none⟩ (.int .u32 Z)).drew) := ⟨HST.out.set (s' := { s with hd := { s.hd with sn := Z } }) rfl, (kp1_19 _).drew⟩
    have HIM : Hid (im19 s v = { s with hd := { s.hd with sn := Z }, cn := 6, nx := s.nx }) := by
      show _ = _
      unfold im19
      rw [HCN.out]
      simp [hZ, hY]
    have LA := HLA.out _ _ HS.out.1 HCN.out
    simp only [Int.reduceAdd, Int.reduceMod, Int.cast_ofNat_Int] at LA
    clear hb hb' hY hZ
    go_enter Tryz.func22, Tryz.ntmps22
    go_wp2_with fail
    go_region
    go_wp2_with fail
    refine LA.mono ?_
    rintro e1 w1 ⟨rfl, q1, k1⟩
    have HQ : Hid (St19 w1 b t { s with hd := { s.hd with sn := Z }, cn := 6, nx := s.nx } ∧ Kp (fun k => k = b) w w1) := ⟨q1, kpt_19 HS.out.2 k1⟩
    clear LA q1 k1
    go_wp2
    go_ret2
    rw [HIM.out]
    exact ⟨rfl, HQ.out.1, HQ.out.2⟩
  · have hb := hI3 (by decide)
    clear hI2 hI3
    obtain ⟨Y, hY⟩ : ∃ Y, Y = v * 65536 := ⟨_, rfl⟩
    obtain ⟨Z, hZ⟩ : ∃ Z, Z = s.hd.sn + Y := ⟨_, rfl⟩
    have hb' : 0 ≤ s.hd.sn ∧ s.hd.sn < 65536 := hb
    have o1 : bits .or .u32 s.hd.sn Y = Z := or32i_19 (v := v) 16 hb (by omega) (by rw [show (2 : Int) ^ 16 = 65536 by decide]; omega) (by rw [show (2 : Int) ^ 16 = 65536 by decide]; omega) (by rw [show (2 : Int) ^ 16 = 65536 by decide]; omega)
    have o2 : v * 65536 % 4294967296 = Y := by omega
    have o3 : IntKind.u32.wrap (v * 65536) = Y := by rw [IntWalk.u32_in _ (by omega)]; omega
    have o4 : v * 2 ^ 16 % 4294967296 = Y := by rw [show (2 : Int) ^ 16 = 65536 by decide]; omega
    have HS : Hid (St19 (w.setCell ⟨b, 15, none⟩ (.int .u32 Z)).drew b t { s with hd := { s.hd with sn := Z } } ∧ Kp (fun k => k = b) w (w.setCell ⟨b, 15, none⟩ (.int .u32 Z)).drew) := ⟨HST.out.set (s' := { s with hd := { s.hd with sn := Z } }) rfl, (kp1_19 _).drew⟩
    have HIM : Hid (im19 s v = { s with hd := { s.hd with sn := Z }, cn := 7, nx := s.nx }) := by
      show _ = _
      unfold im19
      rw [HCN.out]
      simp [hZ, hY]
    have LA := HLA.out _ _ HS.out.1 HCN.out
    simp only [Int.reduceAdd, Int.reduceMod, Int.cast_ofNat_Int] at LA
    clear hb hb' hY hZ
    go_enter Tryz.func22, Tryz.ntmps22
    go_wp2_with fail
    go_region
    go_wp2_with fail
    refine LA.mono ?_
    rintro e1 w1 ⟨rfl, q1, k1⟩
    have HQ : Hid (St19 w1 b t { s with hd := { s.hd with sn := Z }, cn := 7, nx := s.nx } ∧ Kp (fun k => k = b) w w1) := ⟨q1, kpt_19 HS.out.2 k1⟩
    clear LA q1 k1
    go_wp2
    go_ret2
    rw [HIM.out]
    exact ⟨rfl, HQ.out.1, HQ.out.2⟩
  · have hb := hI3 (by decide)
    clear hI2 hI3
    obtain ⟨Y, hY⟩ : ∃ Y, Y = v * 16777216 := ⟨_, rfl⟩
    obtain ⟨Z, hZ⟩ : ∃ Z, Z = s.hd.sn + Y := ⟨_, rfl⟩
    have hb' : 0 ≤ s.hd.sn ∧ s.hd.sn < 16777216 := hb
    have o1 : bits .or .u32 s.hd.sn Y = Z := or32i_19 (v := v) 24 hb (by omega) (by rw [show (2 : Int) ^ 24 = 16777216 by decide]; omega) (by rw [show (2 : Int) ^ 24 = 16777216 by decide]; omega) (by rw [show (2 : Int) ^ 24 = 16777216 by decide]; omega)
    have o2 : v * 16777216 % 4294967296 = Y := by omega
    have o3 : IntKind.u32.wrap (v * 16777216) = Y := by rw [IntWalk.u32_in _ (by omega)]; omega
    have o4 : v * 2 ^ 24 % 4294967296 = Y := by rw [show (2 : Int) ^ 24 = 16777216 by decide]; omega
    have HS : Hid (St19 (w.setCell ⟨b, 15, none⟩ (.int .u32 Z)).drew b t { s with hd := { s.hd with sn := Z } } ∧ Kp (fun k => k = b) w (w.setCell ⟨b, 15, none⟩ (.int .u32 Z)).drew) := ⟨HST.out.set (s' := { s with hd := { s.hd with sn := Z } }) rfl, (kp1_19 _).drew⟩
    have HIM : Hid (im19 s v = { s with hd := { s.hd with sn := Z }, cn := 0, nx := 4 }) := by
      show _ = _
      unfold im19
      rw [HCN.out]
      simp [hZ, hY]
    have LA := HLA.out _ _ HS.out.1 HCN.out
    simp only [Int.reduceAdd, Int.reduceMod, Int.cast_ofNat_Int] at LA
    clear hb hb' hY hZ
    go_enter Tryz.func22, Tryz.ntmps22
    go_wp2_with fail
    go_region
    go_wp2_with fail
    refine LA.mono ?_
    rintro e1 w1 ⟨rfl, q1, k1⟩
    have d0 := q1.c0
    have d3 := q1.c3
    have g3 := q1.f 3
    have HQ : Hid (St19 (w1.setCell ⟨b, 3, none⟩ (.int .i64 4)) b t { s with hd := { s.hd with sn := Z }, cn := 0, nx := 4 } ∧ Kp (fun k => k = b) w (w1.setCell ⟨b, 3, none⟩ (.int .i64 4))) := ⟨q1.set (s' := { s with hd := { s.hd with sn := Z }, cn := 0, nx := 4 }) rfl, kpt_19 (kpt_19 HS.out.2 k1) (kp1_19 _)⟩
    clear LA q1 k1
    go_wp2
    go_ret2
    rw [HIM.out]
    exact ⟨rfl, HQ.out.1, HQ.out.2⟩
end Go.Proofs.YtpodakndckflgaaGreatDoor
