import Derived.Test.YtpodakndckflgaaGreatDoorPf
namespace Go.Proofs.YtpodakndckflgaaGreatDoor
open Go.RowKit Go.Shelf
set_option linter.unusedVariables false
set_option linter.unusedSimpArgs false
def R19.put (s : R19) (k : Nat) (y : Int) : R19 :=
  match k with
  | 0 => { s with n0 := y }
  | 1 => { s with n1 := y }
  | 2 => { s with n2 := y }
  | 3 => { s with n3 := y }
  | 4 => { s with n4 := y }
  | 5 => { s with n5 := y }
  | _ => { s with n6 := y }
def mx19 (n : Int) : Int := if 9223372036854775807 < n then 9223372036854775807 else n
/-- number: is it the last byte of the last one; the error; the state behind it. -/
def nb19 (s : R19) (v m : Int) : Bool × Int × R19 :=
  if tkErr s.tc v ≠ 0 then (false, 190, { s with tv := 0, tc := 0 })
  else if 128 ≤ v then (false, 0, { s with tv := tkVal s.tv s.tc v, tc := s.tc + 1 })
  else ((s.cn + 1) % m == 0, 0, { (({ s with tv := 0, tc := 0 } : R19).put s.cn.toNat (mx19 (tkVal s.tv s.tc v))) with cn := (s.cn + 1) % m })
/-- What is known of the number at hand. -/
def Tk19 (s : R19) : Prop := 0 ≤ s.tv ∧ s.tv < 128 ^ s.tc ∧ s.tc ≤ 9
set_option maxRecDepth 100000 in
set_option maxHeartbeats 4000000 in
theorem pnum19 (b : Nat) (t : TypeId) (s : R19) (v m : Int) (w : World) (h : St19 w b t s) (hT : Tk19 s) (hv : 0 ≤ v ∧ v ≤ 255) (hm : 0 < m ∧ m ≤ 7) (hc : 0 ≤ s.cn ∧ s.cn < m) :
    Calls Tryz.prog 34 #[.pointer (some ⟨b, 0, none⟩), .int .u8 v, .int .i64 m] w fun e w' => e = .returned (.tuple #[.bool (nb19 s v m).1, .int .i64 (nb19 s v m).2.1]) ∧ St19 w' b t (nb19 s v m).2.2 ∧ Kp (fun k => k = b) w w' := by
  have c0 := h.c0
  have c1 := h.c1
  by_cases he : tkErr s.tc v = 0
  rotate_left
  · have TK := takeb19 b t s v w h hv.1 hv.2 hT.2.2 he
    have hn : (tkErr s.tc v != 0) = true := by simp [he]
    have HN : Hid (nb19 s v m = (false, 190, { s with tv := 0, tc := 0 })) := by show _ = _; unfold nb19; rw [if_pos he]
    clear he h hT hc hm
    go_enter Tryz.func34, Tryz.ntmps34
    go_wp2_with fail
    refine TK.mono ?_
    rintro e1 w1 ⟨rfl, q1, k1⟩
    have HQ : Hid (St19 w1 b t { s with tv := 0, tc := 0 } ∧ Kp (fun k => k = b) w w1) := ⟨q1, k1⟩
    clear TK q1 k1
    go_wp2
    go_ret2
    rw [HN.out]
    exact ⟨rfl, HQ.out.1, HQ.out.2⟩
  by_cases h7 : 128 ≤ v
  · have TK := takem19 b t s s.tv s.tc rfl rfl v w h hT.1 hT.2.1 h7 hv.2 hT.2.2 he
    have HN : Hid (nb19 s v m = (false, 0, { s with tv := tkVal s.tv s.tc v, tc := s.tc + 1 })) := by show _ = _; unfold nb19; rw [if_neg (by simp [he]), if_pos h7]
    clear he h hT hc hm h7
    generalize tkVal s.tv s.tc v = y at *
    go_enter Tryz.func34, Tryz.ntmps34
    go_wp2_with fail
    refine TK.mono ?_
    rintro e1 w1 ⟨rfl, q1, k1⟩
    have HQ : Hid (St19 w1 b t { s with tv := y, tc := s.tc + 1 } ∧ Kp (fun k => k = b) w w1) := ⟨q1, k1⟩
    clear TK q1 k1
    go_wp2
    go_ret2
    rw [HN.out]
    exact ⟨rfl, HQ.out.1, HQ.out.2⟩
  have TK := takee19 b t s s.tv s.tc rfl rfl v w h hT.1 hT.2.1 hv.1 (by omega) hT.2.2 he
  have HN : Hid (nb19 s v m = ((s.cn + 1) % m == 0, 0, { (({ s with tv := 0, tc := 0 } : R19).put s.cn.toNat (mx19 (tkVal s.tv s.tc v))) with cn := (s.cn + 1) % m })) := by show _ = _; unfold nb19; rw [if_neg (by simp [he]), if_neg h7]
  have hy0 : 0 ≤ tkVal s.tv s.tc v := (tkVal_bd s.tv s.tc v hT.1 hT.2.1 hv.1).1
  obtain ⟨k, hk⟩ : ∃ k : Nat, s.cn = (k : Int) := ⟨s.cn.toNat, by omega⟩
  have hk7 : k < 7 := by omega
  have HM : Hid (0 < m ∧ m ≤ 100 ∧ (k : Int) ≤ 1000) := ⟨hm.1, by omega, by omega⟩
  clear he h hT hc hm h7 hv
  generalize tkVal s.tv s.tc v = y at *
  rw [hk, Int.toNat_natCast] at HN
  have HCN : Hid (s.cn = (k : Int)) := hk
  clear hk
  obtain ⟨z, hz⟩ : ∃ z, z = mx19 y := ⟨_, rfl⟩
  rw [← hz] at HN
  by_cases hbig : 9223372036854775807 < y
  · have hzz : z = 9223372036854775807 := by rw [hz]; unfold mx19; rw [if_pos hbig]
    clear hz
    subst hzz
    have hw : IntKind.i64.wrap 9223372036854775807 = 9223372036854775807 := by decide
    rcases (by omega : k = 0 ∨ k = 1 ∨ k = 2 ∨ k = 3 ∨ k = 4 ∨ k = 5 ∨ k = 6) with rfl | rfl | rfl | rfl | rfl | rfl | rfl
    · have LA := fun V (q : St19 V b t ({ s with tv := 0, tc := 0, n0 := 9223372036854775807 } : R19)) => plast19 b t ({ s with tv := 0, tc := 0, n0 := 9223372036854775807 } : R19) m V q (by show 0 ≤ s.cn ∧ s.cn ≤ 1000; rw [HCN.out]; have := HM.out; omega) ⟨HM.out.1, HM.out.2.1⟩
      have HLA : Hid (∀ V, St19 V b t ({ s with tv := 0, tc := 0, n0 := 9223372036854775807 } : R19) → Calls Tryz.prog 33 #[.pointer (some ⟨b, 0, none⟩), .int .i64 m] V fun e w' => e = .returned (.bool ((s.cn + 1) % m == 0)) ∧ St19 w' b t { s with tv := 0, tc := 0, n0 := 9223372036854775807, cn := (s.cn + 1) % m } ∧ Kp (fun k => k = b) V w') := LA
      clear LA
      go_enter Tryz.func34, Tryz.ntmps34
      go_wp2_with fail
      refine TK.mono ?_
      rintro e1 w1 ⟨rfl, q1, k1⟩
      have d0 := q1.c0
      have d4 : w1.cell? ⟨b, 4, none⟩ = some (.int .i64 (0 : Int)) := by have := q1.c4; rw [show ({ s with tv := 0, tc := 0 } : R19).cn = (0 : Int) from HCN.out] at this; exact this
      have d5 := q1.c5
      have g5 := q1.f 5
      have HQ : Hid (St19 (w1.setCell ⟨b, 5, none⟩ (.int .i64 9223372036854775807)).drew b t ({ s with tv := 0, tc := 0, n0 := 9223372036854775807 } : R19) ∧ Kp (fun k => k = b) w (w1.setCell ⟨b, 5, none⟩ (.int .i64 9223372036854775807)).drew) := ⟨q1.set (s' := ({ s with tv := 0, tc := 0, n0 := 9223372036854775807 } : R19)) rfl, (kpt_19 k1 (kp1_19 _)).drew⟩
      clear TK q1 k1
      go_wp2_with fail
      go_region
      go_wp2_with fail
      refine (HLA.out _ HQ.out.1).mono ?_
      rintro e2 w2 ⟨rfl, q2, k2⟩
      have HR : Hid (St19 w2 b t { s with tv := 0, tc := 0, n0 := 9223372036854775807, cn := (s.cn + 1) % m } ∧ Kp (fun k => k = b) w w2) := ⟨q2, kpt_19 HQ.out.2 k2⟩
      clear q2 k2
      go_wp2
      go_ret2
      rw [HN.out, ← HCN.out]
      exact ⟨rfl, HR.out.1, HR.out.2⟩
    · have LA := fun V (q : St19 V b t ({ s with tv := 0, tc := 0, n1 := 9223372036854775807 } : R19)) => plast19 b t ({ s with tv := 0, tc := 0, n1 := 9223372036854775807 } : R19) m V q (by show 0 ≤ s.cn ∧ s.cn ≤ 1000; rw [HCN.out]; have := HM.out; omega) ⟨HM.out.1, HM.out.2.1⟩
      have HLA : Hid (∀ V, St19 V b t ({ s with tv := 0, tc := 0, n1 := 9223372036854775807 } : R19) → Calls Tryz.prog 33 #[.pointer (some ⟨b, 0, none⟩), .int .i64 m] V fun e w' => e = .returned (.bool ((s.cn + 1) % m == 0)) ∧ St19 w' b t { s with tv := 0, tc := 0, n1 := 9223372036854775807, cn := (s.cn + 1) % m } ∧ Kp (fun k => k = b) V w') := LA
      clear LA
      go_enter Tryz.func34, Tryz.ntmps34
      go_wp2_with fail
      refine TK.mono ?_
      rintro e1 w1 ⟨rfl, q1, k1⟩
      have d0 := q1.c0
      have d4 : w1.cell? ⟨b, 4, none⟩ = some (.int .i64 (1 : Int)) := by have := q1.c4; rw [show ({ s with tv := 0, tc := 0 } : R19).cn = (1 : Int) from HCN.out] at this; exact this
      have d5 := q1.c6
      have g5 := q1.f 6
      have HQ : Hid (St19 (w1.setCell ⟨b, 6, none⟩ (.int .i64 9223372036854775807)).drew b t ({ s with tv := 0, tc := 0, n1 := 9223372036854775807 } : R19) ∧ Kp (fun k => k = b) w (w1.setCell ⟨b, 6, none⟩ (.int .i64 9223372036854775807)).drew) := ⟨q1.set (s' := ({ s with tv := 0, tc := 0, n1 := 9223372036854775807 } : R19)) rfl, (kpt_19 k1 (kp1_19 _)).drew⟩
      clear TK q1 k1
      go_wp2_with fail
      go_region
      go_wp2_with fail
      refine (HLA.out _ HQ.out.1).mono ?_
      rintro e2 w2 ⟨rfl, q2, k2⟩
      have HR : Hid (St19 w2 b t { s with tv := 0, tc := 0, n1 := 9223372036854775807, cn := (s.cn + 1) % m } ∧ Kp (fun k => k = b) w w2) := ⟨q2, kpt_19 HQ.out.2 k2⟩
      clear q2 k2
      go_wp2
      go_ret2
      rw [HN.out, ← HCN.out]
      exact ⟨rfl, HR.out.1, HR.out.2⟩
    · have LA := fun V (q : St19 V b t ({ s with tv := 0, tc := 0, n2 := 9223372036854775807 } : R19)) => plast19 b t ({ s with tv := 0, tc := 0, n2 := 9223372036854775807 } : R19) m V q (by show 0 ≤ s.cn ∧ s.cn ≤ 1000; rw [HCN.out]; have := HM.out; omega) ⟨HM.out.1, HM.out.2.1⟩
      have HLA : Hid (∀ V, St19 V b t ({ s with tv := 0, tc := 0, n2 := 9223372036854775807 } : R19) → Calls Tryz.prog 33 #[.pointer (some ⟨b, 0, none⟩), .int .i64 m] V fun e w' => e = .returned (.bool ((s.cn + 1) % m == 0)) ∧ St19 w' b t { s with tv := 0, tc := 0, n2 := 9223372036854775807, cn := (s.cn + 1) % m } ∧ Kp (fun k => k = b) V w') := LA
      clear LA
      go_enter Tryz.func34, Tryz.ntmps34
      go_wp2_with fail
      refine TK.mono ?_
      rintro e1 w1 ⟨rfl, q1, k1⟩
      have d0 := q1.c0
      have d4 : w1.cell? ⟨b, 4, none⟩ = some (.int .i64 (2 : Int)) := by have := q1.c4; rw [show ({ s with tv := 0, tc := 0 } : R19).cn = (2 : Int) from HCN.out] at this; exact this
      have d5 := q1.c7
      have g5 := q1.f 7
      have HQ : Hid (St19 (w1.setCell ⟨b, 7, none⟩ (.int .i64 9223372036854775807)).drew b t ({ s with tv := 0, tc := 0, n2 := 9223372036854775807 } : R19) ∧ Kp (fun k => k = b) w (w1.setCell ⟨b, 7, none⟩ (.int .i64 9223372036854775807)).drew) := ⟨q1.set (s' := ({ s with tv := 0, tc := 0, n2 := 9223372036854775807 } : R19)) rfl, (kpt_19 k1 (kp1_19 _)).drew⟩
      clear TK q1 k1
      go_wp2_with fail
      go_region
      go_wp2_with fail
      refine (HLA.out _ HQ.out.1).mono ?_
      rintro e2 w2 ⟨rfl, q2, k2⟩
      have HR : Hid (St19 w2 b t { s with tv := 0, tc := 0, n2 := 9223372036854775807, cn := (s.cn + 1) % m } ∧ Kp (fun k => k = b) w w2) := ⟨q2, kpt_19 HQ.out.2 k2⟩
      clear q2 k2
      go_wp2
      go_ret2
      rw [HN.out, ← HCN.out]
      exact ⟨rfl, HR.out.1, HR.out.2⟩
    · have LA := fun V (q : St19 V b t ({ s with tv := 0, tc := 0, n3 := 9223372036854775807 } : R19)) => plast19 b t ({ s with tv := 0, tc := 0, n3 := 9223372036854775807 } : R19) m V q (by show 0 ≤ s.cn ∧ s.cn ≤ 1000; rw [HCN.out]; have := HM.out; omega) ⟨HM.out.1, HM.out.2.1⟩
      have HLA : Hid (∀ V, St19 V b t ({ s with tv := 0, tc := 0, n3 := 9223372036854775807 } : R19) → Calls Tryz.prog 33 #[.pointer (some ⟨b, 0, none⟩), .int .i64 m] V fun e w' => e = .returned (.bool ((s.cn + 1) % m == 0)) ∧ St19 w' b t { s with tv := 0, tc := 0, n3 := 9223372036854775807, cn := (s.cn + 1) % m } ∧ Kp (fun k => k = b) V w') := LA
      clear LA
      go_enter Tryz.func34, Tryz.ntmps34
      go_wp2_with fail
      refine TK.mono ?_
      rintro e1 w1 ⟨rfl, q1, k1⟩
      have d0 := q1.c0
      have d4 : w1.cell? ⟨b, 4, none⟩ = some (.int .i64 (3 : Int)) := by have := q1.c4; rw [show ({ s with tv := 0, tc := 0 } : R19).cn = (3 : Int) from HCN.out] at this; exact this
      have d5 := q1.c8
      have g5 := q1.f 8
      have HQ : Hid (St19 (w1.setCell ⟨b, 8, none⟩ (.int .i64 9223372036854775807)).drew b t ({ s with tv := 0, tc := 0, n3 := 9223372036854775807 } : R19) ∧ Kp (fun k => k = b) w (w1.setCell ⟨b, 8, none⟩ (.int .i64 9223372036854775807)).drew) := ⟨q1.set (s' := ({ s with tv := 0, tc := 0, n3 := 9223372036854775807 } : R19)) rfl, (kpt_19 k1 (kp1_19 _)).drew⟩
      clear TK q1 k1
      go_wp2_with fail
      go_region
      go_wp2_with fail
      refine (HLA.out _ HQ.out.1).mono ?_
      rintro e2 w2 ⟨rfl, q2, k2⟩
      have HR : Hid (St19 w2 b t { s with tv := 0, tc := 0, n3 := 9223372036854775807, cn := (s.cn + 1) % m } ∧ Kp (fun k => k = b) w w2) := ⟨q2, kpt_19 HQ.out.2 k2⟩
      clear q2 k2
      go_wp2
      go_ret2
      rw [HN.out, ← HCN.out]
      exact ⟨rfl, HR.out.1, HR.out.2⟩
    · have LA := fun V (q : St19 V b t ({ s with tv := 0, tc := 0, n4 := 9223372036854775807 } : R19)) => plast19 b t ({ s with tv := 0, tc := 0, n4 := 9223372036854775807 } : R19) m V q (by show 0 ≤ s.cn ∧ s.cn ≤ 1000; rw [HCN.out]; have := HM.out; omega) ⟨HM.out.1, HM.out.2.1⟩
      have HLA : Hid (∀ V, St19 V b t ({ s with tv := 0, tc := 0, n4 := 9223372036854775807 } : R19) → Calls Tryz.prog 33 #[.pointer (some ⟨b, 0, none⟩), .int .i64 m] V fun e w' => e = .returned (.bool ((s.cn + 1) % m == 0)) ∧ St19 w' b t { s with tv := 0, tc := 0, n4 := 9223372036854775807, cn := (s.cn + 1) % m } ∧ Kp (fun k => k = b) V w') := LA
      clear LA
      go_enter Tryz.func34, Tryz.ntmps34
      go_wp2_with fail
      refine TK.mono ?_
      rintro e1 w1 ⟨rfl, q1, k1⟩
      have d0 := q1.c0
      have d4 : w1.cell? ⟨b, 4, none⟩ = some (.int .i64 (4 : Int)) := by have := q1.c4; rw [show ({ s with tv := 0, tc := 0 } : R19).cn = (4 : Int) from HCN.out] at this; exact this
      have d5 := q1.c9
      have g5 := q1.f 9
      have HQ : Hid (St19 (w1.setCell ⟨b, 9, none⟩ (.int .i64 9223372036854775807)).drew b t ({ s with tv := 0, tc := 0, n4 := 9223372036854775807 } : R19) ∧ Kp (fun k => k = b) w (w1.setCell ⟨b, 9, none⟩ (.int .i64 9223372036854775807)).drew) := ⟨q1.set (s' := ({ s with tv := 0, tc := 0, n4 := 9223372036854775807 } : R19)) rfl, (kpt_19 k1 (kp1_19 _)).drew⟩
      clear TK q1 k1
      go_wp2_with fail
      go_region
      go_wp2_with fail
      refine (HLA.out _ HQ.out.1).mono ?_
      rintro e2 w2 ⟨rfl, q2, k2⟩
      have HR : Hid (St19 w2 b t { s with tv := 0, tc := 0, n4 := 9223372036854775807, cn := (s.cn + 1) % m } ∧ Kp (fun k => k = b) w w2) := ⟨q2, kpt_19 HQ.out.2 k2⟩
      clear q2 k2
      go_wp2
      go_ret2
      rw [HN.out, ← HCN.out]
      exact ⟨rfl, HR.out.1, HR.out.2⟩
    · have LA := fun V (q : St19 V b t ({ s with tv := 0, tc := 0, n5 := 9223372036854775807 } : R19)) => plast19 b t ({ s with tv := 0, tc := 0, n5 := 9223372036854775807 } : R19) m V q (by show 0 ≤ s.cn ∧ s.cn ≤ 1000; rw [HCN.out]; have := HM.out; omega) ⟨HM.out.1, HM.out.2.1⟩
      have HLA : Hid (∀ V, St19 V b t ({ s with tv := 0, tc := 0, n5 := 9223372036854775807 } : R19) → Calls Tryz.prog 33 #[.pointer (some ⟨b, 0, none⟩), .int .i64 m] V fun e w' => e = .returned (.bool ((s.cn + 1) % m == 0)) ∧ St19 w' b t { s with tv := 0, tc := 0, n5 := 9223372036854775807, cn := (s.cn + 1) % m } ∧ Kp (fun k => k = b) V w') := LA
      clear LA
      go_enter Tryz.func34, Tryz.ntmps34
      go_wp2_with fail
      refine TK.mono ?_
      rintro e1 w1 ⟨rfl, q1, k1⟩
      have d0 := q1.c0
      have d4 : w1.cell? ⟨b, 4, none⟩ = some (.int .i64 (5 : Int)) := by have := q1.c4; rw [show ({ s with tv := 0, tc := 0 } : R19).cn = (5 : Int) from HCN.out] at this; exact this
      have d5 := q1.c10
      have g5 := q1.f 10
      have HQ : Hid (St19 (w1.setCell ⟨b, 10, none⟩ (.int .i64 9223372036854775807)).drew b t ({ s with tv := 0, tc := 0, n5 := 9223372036854775807 } : R19) ∧ Kp (fun k => k = b) w (w1.setCell ⟨b, 10, none⟩ (.int .i64 9223372036854775807)).drew) := ⟨q1.set (s' := ({ s with tv := 0, tc := 0, n5 := 9223372036854775807 } : R19)) rfl, (kpt_19 k1 (kp1_19 _)).drew⟩
      clear TK q1 k1
      go_wp2_with fail
      go_region
      go_wp2_with fail
      refine (HLA.out _ HQ.out.1).mono ?_
      rintro e2 w2 ⟨rfl, q2, k2⟩
      have HR : Hid (St19 w2 b t { s with tv := 0, tc := 0, n5 := 9223372036854775807, cn := (s.cn + 1) % m } ∧ Kp (fun k => k = b) w w2) := ⟨q2, kpt_19 HQ.out.2 k2⟩
      clear q2 k2
      go_wp2
      go_ret2
      rw [HN.out, ← HCN.out]
      exact ⟨rfl, HR.out.1, HR.out.2⟩
    · have LA := fun V (q : St19 V b t ({ s with tv := 0, tc := 0, n6 := 9223372036854775807 } : R19)) => plast19 b t ({ s with tv := 0, tc := 0, n6 := 9223372036854775807 } : R19) m V q (by show 0 ≤ s.cn ∧ s.cn ≤ 1000; rw [HCN.out]; have := HM.out; omega) ⟨HM.out.1, HM.out.2.1⟩
      have HLA : Hid (∀ V, St19 V b t ({ s with tv := 0, tc := 0, n6 := 9223372036854775807 } : R19) → Calls Tryz.prog 33 #[.pointer (some ⟨b, 0, none⟩), .int .i64 m] V fun e w' => e = .returned (.bool ((s.cn + 1) % m == 0)) ∧ St19 w' b t { s with tv := 0, tc := 0, n6 := 9223372036854775807, cn := (s.cn + 1) % m } ∧ Kp (fun k => k = b) V w') := LA
      clear LA
      go_enter Tryz.func34, Tryz.ntmps34
      go_wp2_with fail
      refine TK.mono ?_
      rintro e1 w1 ⟨rfl, q1, k1⟩
      have d0 := q1.c0
      have d4 : w1.cell? ⟨b, 4, none⟩ = some (.int .i64 (6 : Int)) := by have := q1.c4; rw [show ({ s with tv := 0, tc := 0 } : R19).cn = (6 : Int) from HCN.out] at this; exact this
      have d5 := q1.c11
      have g5 := q1.f 11
      have HQ : Hid (St19 (w1.setCell ⟨b, 11, none⟩ (.int .i64 9223372036854775807)).drew b t ({ s with tv := 0, tc := 0, n6 := 9223372036854775807 } : R19) ∧ Kp (fun k => k = b) w (w1.setCell ⟨b, 11, none⟩ (.int .i64 9223372036854775807)).drew) := ⟨q1.set (s' := ({ s with tv := 0, tc := 0, n6 := 9223372036854775807 } : R19)) rfl, (kpt_19 k1 (kp1_19 _)).drew⟩
      clear TK q1 k1
      go_wp2_with fail
      go_region
      go_wp2_with fail
      refine (HLA.out _ HQ.out.1).mono ?_
      rintro e2 w2 ⟨rfl, q2, k2⟩
      have HR : Hid (St19 w2 b t { s with tv := 0, tc := 0, n6 := 9223372036854775807, cn := (s.cn + 1) % m } ∧ Kp (fun k => k = b) w w2) := ⟨q2, kpt_19 HQ.out.2 k2⟩
      clear q2 k2
      go_wp2
      go_ret2
      rw [HN.out, ← HCN.out]
      exact ⟨rfl, HR.out.1, HR.out.2⟩
  · have hzz : z = y := by rw [hz]; unfold mx19; rw [if_neg hbig]
    clear hz
    subst hzz
    have hw : IntKind.i64.wrap z = z := IntWalk.i64_in _ (by omega)
    rcases (by omega : k = 0 ∨ k = 1 ∨ k = 2 ∨ k = 3 ∨ k = 4 ∨ k = 5 ∨ k = 6) with rfl | rfl | rfl | rfl | rfl | rfl | rfl
    · have LA := fun V (q : St19 V b t ({ s with tv := 0, tc := 0, n0 := z } : R19)) => plast19 b t ({ s with tv := 0, tc := 0, n0 := z } : R19) m V q (by show 0 ≤ s.cn ∧ s.cn ≤ 1000; rw [HCN.out]; have := HM.out; omega) ⟨HM.out.1, HM.out.2.1⟩
      have HLA : Hid (∀ V, St19 V b t ({ s with tv := 0, tc := 0, n0 := z } : R19) → Calls Tryz.prog 33 #[.pointer (some ⟨b, 0, none⟩), .int .i64 m] V fun e w' => e = .returned (.bool ((s.cn + 1) % m == 0)) ∧ St19 w' b t { s with tv := 0, tc := 0, n0 := z, cn := (s.cn + 1) % m } ∧ Kp (fun k => k = b) V w') := LA
      clear LA
      go_enter Tryz.func34, Tryz.ntmps34
      go_wp2_with fail
      refine TK.mono ?_
      rintro e1 w1 ⟨rfl, q1, k1⟩
      have d0 := q1.c0
      have d4 : w1.cell? ⟨b, 4, none⟩ = some (.int .i64 (0 : Int)) := by have := q1.c4; rw [show ({ s with tv := 0, tc := 0 } : R19).cn = (0 : Int) from HCN.out] at this; exact this
      have d5 := q1.c5
      have g5 := q1.f 5
      have HQ : Hid (St19 (w1.setCell ⟨b, 5, none⟩ (.int .i64 z)).drew b t ({ s with tv := 0, tc := 0, n0 := z } : R19) ∧ Kp (fun k => k = b) w (w1.setCell ⟨b, 5, none⟩ (.int .i64 z)).drew) := ⟨q1.set (s' := ({ s with tv := 0, tc := 0, n0 := z } : R19)) rfl, (kpt_19 k1 (kp1_19 _)).drew⟩
      clear TK q1 k1
      go_wp2_with fail
      go_region
      go_wp2_with fail
      refine (HLA.out _ HQ.out.1).mono ?_
      rintro e2 w2 ⟨rfl, q2, k2⟩
      have HR : Hid (St19 w2 b t { s with tv := 0, tc := 0, n0 := z, cn := (s.cn + 1) % m } ∧ Kp (fun k => k = b) w w2) := ⟨q2, kpt_19 HQ.out.2 k2⟩
      clear q2 k2
      go_wp2
      go_ret2
      rw [HN.out, ← HCN.out]
      exact ⟨rfl, HR.out.1, HR.out.2⟩
    · have LA := fun V (q : St19 V b t ({ s with tv := 0, tc := 0, n1 := z } : R19)) => plast19 b t ({ s with tv := 0, tc := 0, n1 := z } : R19) m V q (by show 0 ≤ s.cn ∧ s.cn ≤ 1000; rw [HCN.out]; have := HM.out; omega) ⟨HM.out.1, HM.out.2.1⟩
      have HLA : Hid (∀ V, St19 V b t ({ s with tv := 0, tc := 0, n1 := z } : R19) → Calls Tryz.prog 33 #[.pointer (some ⟨b, 0, none⟩), .int .i64 m] V fun e w' => e = .returned (.bool ((s.cn + 1) % m == 0)) ∧ St19 w' b t { s with tv := 0, tc := 0, n1 := z, cn := (s.cn + 1) % m } ∧ Kp (fun k => k = b) V w') := LA
      clear LA
      go_enter Tryz.func34, Tryz.ntmps34
      go_wp2_with fail
      refine TK.mono ?_
      rintro e1 w1 ⟨rfl, q1, k1⟩
      have d0 := q1.c0
      have d4 : w1.cell? ⟨b, 4, none⟩ = some (.int .i64 (1 : Int)) := by have := q1.c4; rw [show ({ s with tv := 0, tc := 0 } : R19).cn = (1 : Int) from HCN.out] at this; exact this
      have d5 := q1.c6
      have g5 := q1.f 6
      have HQ : Hid (St19 (w1.setCell ⟨b, 6, none⟩ (.int .i64 z)).drew b t ({ s with tv := 0, tc := 0, n1 := z } : R19) ∧ Kp (fun k => k = b) w (w1.setCell ⟨b, 6, none⟩ (.int .i64 z)).drew) := ⟨q1.set (s' := ({ s with tv := 0, tc := 0, n1 := z } : R19)) rfl, (kpt_19 k1 (kp1_19 _)).drew⟩
      clear TK q1 k1
      go_wp2_with fail
      go_region
      go_wp2_with fail
      refine (HLA.out _ HQ.out.1).mono ?_
      rintro e2 w2 ⟨rfl, q2, k2⟩
      have HR : Hid (St19 w2 b t { s with tv := 0, tc := 0, n1 := z, cn := (s.cn + 1) % m } ∧ Kp (fun k => k = b) w w2) := ⟨q2, kpt_19 HQ.out.2 k2⟩
      clear q2 k2
      go_wp2
      go_ret2
      rw [HN.out, ← HCN.out]
      exact ⟨rfl, HR.out.1, HR.out.2⟩
    · have LA := fun V (q : St19 V b t ({ s with tv := 0, tc := 0, n2 := z } : R19)) => plast19 b t ({ s with tv := 0, tc := 0, n2 := z } : R19) m V q (by show 0 ≤ s.cn ∧ s.cn ≤ 1000; rw [HCN.out]; have := HM.out; omega) ⟨HM.out.1, HM.out.2.1⟩
      have HLA : Hid (∀ V, St19 V b t ({ s with tv := 0, tc := 0, n2 := z } : R19) → Calls Tryz.prog 33 #[.pointer (some ⟨b, 0, none⟩), .int .i64 m] V fun e w' => e = .returned (.bool ((s.cn + 1) % m == 0)) ∧ St19 w' b t { s with tv := 0, tc := 0, n2 := z, cn := (s.cn + 1) % m } ∧ Kp (fun k => k = b) V w') := LA
      clear LA
      go_enter Tryz.func34, Tryz.ntmps34
      go_wp2_with fail
      refine TK.mono ?_
      rintro e1 w1 ⟨rfl, q1, k1⟩
      have d0 := q1.c0
      have d4 : w1.cell? ⟨b, 4, none⟩ = some (.int .i64 (2 : Int)) := by have := q1.c4; rw [show ({ s with tv := 0, tc := 0 } : R19).cn = (2 : Int) from HCN.out] at this; exact this
      have d5 := q1.c7
      have g5 := q1.f 7
      have HQ : Hid (St19 (w1.setCell ⟨b, 7, none⟩ (.int .i64 z)).drew b t ({ s with tv := 0, tc := 0, n2 := z } : R19) ∧ Kp (fun k => k = b) w (w1.setCell ⟨b, 7, none⟩ (.int .i64 z)).drew) := ⟨q1.set (s' := ({ s with tv := 0, tc := 0, n2 := z } : R19)) rfl, (kpt_19 k1 (kp1_19 _)).drew⟩
      clear TK q1 k1
      go_wp2_with fail
      go_region
      go_wp2_with fail
      refine (HLA.out _ HQ.out.1).mono ?_
      rintro e2 w2 ⟨rfl, q2, k2⟩
      have HR : Hid (St19 w2 b t { s with tv := 0, tc := 0, n2 := z, cn := (s.cn + 1) % m } ∧ Kp (fun k => k = b) w w2) := ⟨q2, kpt_19 HQ.out.2 k2⟩
      clear q2 k2
      go_wp2
      go_ret2
      rw [HN.out, ← HCN.out]
      exact ⟨rfl, HR.out.1, HR.out.2⟩
    · have LA := fun V (q : St19 V b t ({ s with tv := 0, tc := 0, n3 := z } : R19)) => plast19 b t ({ s with tv := 0, tc := 0, n3 := z } : R19) m V q (by show 0 ≤ s.cn ∧ s.cn ≤ 1000; rw [HCN.out]; have := HM.out; omega) ⟨HM.out.1, HM.out.2.1⟩
      have HLA : Hid (∀ V, St19 V b t ({ s with tv := 0, tc := 0, n3 := z } : R19) → Calls Tryz.prog 33 #[.pointer (some ⟨b, 0, none⟩), .int .i64 m] V fun e w' => e = .returned (.bool ((s.cn + 1) % m == 0)) ∧ St19 w' b t { s with tv := 0, tc := 0, n3 := z, cn := (s.cn + 1) % m } ∧ Kp (fun k => k = b) V w') := LA
      clear LA
      go_enter Tryz.func34, Tryz.ntmps34
      go_wp2_with fail
      refine TK.mono ?_
      rintro e1 w1 ⟨rfl, q1, k1⟩
      have d0 := q1.c0
      have d4 : w1.cell? ⟨b, 4, none⟩ = some (.int .i64 (3 : Int)) := by have := q1.c4; rw [show ({ s with tv := 0, tc := 0 } : R19).cn = (3 : Int) from HCN.out] at this; exact this
      have d5 := q1.c8
      have g5 := q1.f 8
      have HQ : Hid (St19 (w1.setCell ⟨b, 8, none⟩ (.int .i64 z)).drew b t ({ s with tv := 0, tc := 0, n3 := z } : R19) ∧ Kp (fun k => k = b) w (w1.setCell ⟨b, 8, none⟩ (.int .i64 z)).drew) := ⟨q1.set (s' := ({ s with tv := 0, tc := 0, n3 := z } : R19)) rfl, (kpt_19 k1 (kp1_19 _)).drew⟩
      clear TK q1 k1
      go_wp2_with fail
      go_region
      go_wp2_with fail
      refine (HLA.out _ HQ.out.1).mono ?_
      rintro e2 w2 ⟨rfl, q2, k2⟩
      have HR : Hid (St19 w2 b t { s with tv := 0, tc := 0, n3 := z, cn := (s.cn + 1) % m } ∧ Kp (fun k => k = b) w w2) := ⟨q2, kpt_19 HQ.out.2 k2⟩
      clear q2 k2
      go_wp2
      go_ret2
      rw [HN.out, ← HCN.out]
      exact ⟨rfl, HR.out.1, HR.out.2⟩
    · have LA := fun V (q : St19 V b t ({ s with tv := 0, tc := 0, n4 := z } : R19)) => plast19 b t ({ s with tv := 0, tc := 0, n4 := z } : R19) m V q (by show 0 ≤ s.cn ∧ s.cn ≤ 1000; rw [HCN.out]; have := HM.out; omega) ⟨HM.out.1, HM.out.2.1⟩
      have HLA : Hid (∀ V, St19 V b t ({ s with tv := 0, tc := 0, n4 := z } : R19) → Calls Tryz.prog 33 #[.pointer (some ⟨b, 0, none⟩), .int .i64 m] V fun e w' => e = .returned (.bool ((s.cn + 1) % m == 0)) ∧ St19 w' b t { s with tv := 0, tc := 0, n4 := z, cn := (s.cn + 1) % m } ∧ Kp (fun k => k = b) V w') := LA
      clear LA
      go_enter Tryz.func34, Tryz.ntmps34
      go_wp2_with fail
      refine TK.mono ?_
      rintro e1 w1 ⟨rfl, q1, k1⟩
      have d0 := q1.c0
      have d4 : w1.cell? ⟨b, 4, none⟩ = some (.int .i64 (4 : Int)) := by have := q1.c4; rw [show ({ s with tv := 0, tc := 0 } : R19).cn = (4 : Int) from HCN.out] at this; exact this
      have d5 := q1.c9
      have g5 := q1.f 9
      have HQ : Hid (St19 (w1.setCell ⟨b, 9, none⟩ (.int .i64 z)).drew b t ({ s with tv := 0, tc := 0, n4 := z } : R19) ∧ Kp (fun k => k = b) w (w1.setCell ⟨b, 9, none⟩ (.int .i64 z)).drew) := ⟨q1.set (s' := ({ s with tv := 0, tc := 0, n4 := z } : R19)) rfl, (kpt_19 k1 (kp1_19 _)).drew⟩
      clear TK q1 k1
      go_wp2_with fail
      go_region
      go_wp2_with fail
      refine (HLA.out _ HQ.out.1).mono ?_
      rintro e2 w2 ⟨rfl, q2, k2⟩
      have HR : Hid (St19 w2 b t { s with tv := 0, tc := 0, n4 := z, cn := (s.cn + 1) % m } ∧ Kp (fun k => k = b) w w2) := ⟨q2, kpt_19 HQ.out.2 k2⟩
      clear q2 k2
      go_wp2
      go_ret2
      rw [HN.out, ← HCN.out]
      exact ⟨rfl, HR.out.1, HR.out.2⟩
    · have LA := fun V (q : St19 V b t ({ s with tv := 0, tc := 0, n5 := z } : R19)) => plast19 b t ({ s with tv := 0, tc := 0, n5 := z } : R19) m V q (by show 0 ≤ s.cn ∧ s.cn ≤ 1000; rw [HCN.out]; have := HM.out; omega) ⟨HM.out.1, HM.out.2.1⟩
      have HLA : Hid (∀ V, St19 V b t ({ s with tv := 0, tc := 0, n5 := z } : R19) → Calls Tryz.prog 33 #[.pointer (some ⟨b, 0, none⟩), .int .i64 m] V fun e w' => e = .returned (.bool ((s.cn + 1) % m == 0)) ∧ St19 w' b t { s with tv := 0, tc := 0, n5 := z, cn := (s.cn + 1) % m } ∧ Kp (fun k => k = b) V w') := LA
      clear LA
      go_enter Tryz.func34, Tryz.ntmps34
      go_wp2_with fail
      refine TK.mono ?_
      rintro e1 w1 ⟨rfl, q1, k1⟩
      have d0 := q1.c0
      have d4 : w1.cell? ⟨b, 4, none⟩ = some (.int .i64 (5 : Int)) := by have := q1.c4; rw [show ({ s with tv := 0, tc := 0 } : R19).cn = (5 : Int) from HCN.out] at this; exact this
      have d5 := q1.c10
      have g5 := q1.f 10
      have HQ : Hid (St19 (w1.setCell ⟨b, 10, none⟩ (.int .i64 z)).drew b t ({ s with tv := 0, tc := 0, n5 := z } : R19) ∧ Kp (fun k => k = b) w (w1.setCell ⟨b, 10, none⟩ (.int .i64 z)).drew) := ⟨q1.set (s' := ({ s with tv := 0, tc := 0, n5 := z } : R19)) rfl, (kpt_19 k1 (kp1_19 _)).drew⟩
      clear TK q1 k1
      go_wp2_with fail
      go_region
      go_wp2_with fail
      refine (HLA.out _ HQ.out.1).mono ?_
      rintro e2 w2 ⟨rfl, q2, k2⟩
      have HR : Hid (St19 w2 b t { s with tv := 0, tc := 0, n5 := z, cn := (s.cn + 1) % m } ∧ Kp (fun k => k = b) w w2) := ⟨q2, kpt_19 HQ.out.2 k2⟩
      clear q2 k2
      go_wp2
      go_ret2
      rw [HN.out, ← HCN.out]
      exact ⟨rfl, HR.out.1, HR.out.2⟩
    · have LA := fun V (q : St19 V b t ({ s with tv := 0, tc := 0, n6 := z } : R19)) => plast19 b t ({ s with tv := 0, tc := 0, n6 := z } : R19) m V q (by show 0 ≤ s.cn ∧ s.cn ≤ 1000; rw [HCN.out]; have := HM.out; omega) ⟨HM.out.1, HM.out.2.1⟩
      have HLA : Hid (∀ V, St19 V b t ({ s with tv := 0, tc := 0, n6 := z } : R19) → Calls Tryz.prog 33 #[.pointer (some ⟨b, 0, none⟩), .int .i64 m] V fun e w' => e = .returned (.bool ((s.cn + 1) % m == 0)) ∧ St19 w' b t { s with tv := 0, tc := 0, n6 := z, cn := (s.cn + 1) % m } ∧ Kp (fun k => k = b) V w') := LA
      clear LA
      go_enter Tryz.func34, Tryz.ntmps34
      go_wp2_with fail
      refine TK.mono ?_
      rintro e1 w1 ⟨rfl, q1, k1⟩
      have d0 := q1.c0
      have d4 : w1.cell? ⟨b, 4, none⟩ = some (.int .i64 (6 : Int)) := by have := q1.c4; rw [show ({ s with tv := 0, tc := 0 } : R19).cn = (6 : Int) from HCN.out] at this; exact this
      have d5 := q1.c11
      have g5 := q1.f 11
      have HQ : Hid (St19 (w1.setCell ⟨b, 11, none⟩ (.int .i64 z)).drew b t ({ s with tv := 0, tc := 0, n6 := z } : R19) ∧ Kp (fun k => k = b) w (w1.setCell ⟨b, 11, none⟩ (.int .i64 z)).drew) := ⟨q1.set (s' := ({ s with tv := 0, tc := 0, n6 := z } : R19)) rfl, (kpt_19 k1 (kp1_19 _)).drew⟩
      clear TK q1 k1
      go_wp2_with fail
      go_region
      go_wp2_with fail
      refine (HLA.out _ HQ.out.1).mono ?_
      rintro e2 w2 ⟨rfl, q2, k2⟩
      have HR : Hid (St19 w2 b t { s with tv := 0, tc := 0, n6 := z, cn := (s.cn + 1) % m } ∧ Kp (fun k => k = b) w w2) := ⟨q2, kpt_19 HQ.out.2 k2⟩
      clear q2 k2
      go_wp2
      go_ret2
      rw [HN.out, ← HCN.out]
      exact ⟨rfl, HR.out.1, HR.out.2⟩
end Go.Proofs.YtpodakndckflgaaGreatDoor
