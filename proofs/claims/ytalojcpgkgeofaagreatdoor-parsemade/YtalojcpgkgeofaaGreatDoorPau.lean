import Derived.Test.YtalojcpgkgeofaaGreatDoorPat
import Derived.Laws.BitsAllLaws
namespace Go.Proofs.YtalojcpgkgeofaaGreatDoor
open Go.RowKit Go.Shelf
set_option linter.unusedVariables false
set_option linter.unusedSimpArgs false

/-! image. -/
theorem or32_19 {r v c : Nat} (h : r < 2 ^ c) (h2 : v * 2 ^ c + r < 4294967296) : bits .or .u32 (r : Int) ((v * 2 ^ c : Nat) : Int) = ((r + v * 2 ^ c : Nat) : Int) := by
  rw [u32_or_nat _ _ (by omega) (by omega), Nat.or_comm, Nat.mul_comm v, ← Nat.two_pow_add_eq_or_of_lt h, Nat.add_comm]
theorem or32i_19 {r v Y Z : Int} (c : Nat) (hr : 0 ≤ r ∧ r < 2 ^ c) (hv : 0 ≤ v) (h2 : v * 2 ^ c + r < 4294967296) (hY : Y = v * 2 ^ c) (hZ : Z = r + v * 2 ^ c) : bits .or .u32 r Y = Z := by
  obtain ⟨r', rfl⟩ : ∃ n : Nat, r = (n : Int) := ⟨r.toNat, by omega⟩
  obtain ⟨v', rfl⟩ : ∃ n : Nat, v = (n : Int) := ⟨v.toNat, by omega⟩
  have e : ((v' * 2 ^ c : Nat) : Int) = (v' : Int) * 2 ^ c := by simp
  have := or32_19 (r := r') (v := v') (c := c) (by have h1 := hr.2; rw [show (2 : Int) ^ c = ((2 ^ c : Nat) : Int) by simp] at h1; omega) (by rw [← e] at h2; omega)
  rw [e] at this
  rw [hY, this, hZ]
  simp
/-- What is known of the sums so far. -/
def Im19 (s : R19) : Prop := 0 ≤ s.cn ∧ s.cn < 8 ∧ (s.cn < 4 → 0 ≤ s.hd.so ∧ s.hd.so < 2 ^ (8 * s.cn.toNat)) ∧ (4 ≤ s.cn → 0 ≤ s.hd.sn ∧ s.hd.sn < 2 ^ (8 * (s.cn.toNat - 4)))
def im19 (s : R19) (v : Int) : R19 :=
  { s with hd := (if s.cn < 4 then { s.hd with so := s.hd.so + v * 2 ^ (8 * s.cn.toNat) } else { s.hd with sn := s.hd.sn + v * 2 ^ (8 * (s.cn.toNat - 4)) }), cn := (s.cn + 1) % 8, nx := if (s.cn + 1) % 8 = 0 then 4 else s.nx }
set_option maxRecDepth 100000 in
set_option maxHeartbeats 4000000 in
theorem pimg19 (b : Nat) (t : TypeId) (s : R19) (v : Int) (q : Value) (w : World) (h : St19 w b t s) (hv : 0 ≤ v ∧ v ≤ 255) (hI : Im19 s) :
    Calls Tryz.prog 71 #[.pointer (some ⟨b, 0, none⟩), .int .u8 v, q] w fun e w' => e = .returned (.tuple #[.bool false, .int .i64 0]) ∧ St19 w' b t (im19 s v) ∧ Kp (fun k => k = b) w w' := by
  have c0 := h.c0
  have c4 := h.c4
  obtain ⟨hI0, hI1, hI2, hI3⟩ := hI
  obtain ⟨k, hk⟩ : ∃ k : Nat, s.cn = (k : Int) := ⟨s.cn.toNat, by omega⟩
  have hk8 : k < 8 := by omega
  rw [hk] at c4 hI2 hI3
  rw [Int.toNat_natCast] at hI2 hI3
  have HCN : Hid (s.cn = (k : Int)) := hk
  have HLA : Hid (∀ V r, St19 V b t r → r.cn = (k : Int) → Calls Tryz.prog 103 #[.pointer (some ⟨b, 0, none⟩), .int .i64 8] V fun e w' => e = .returned (.bool (((k : Int) + 1) % 8 == 0)) ∧ St19 w' b t { r with cn := ((k : Int) + 1) % 8 } ∧ Kp (fun k => k = b) V w') := fun V r hr e => by
    have := plast19 b t r 8 V hr (by rw [e]; omega) (by omega)
    rw [e] at this
    exact this
  have h14 := h.c14
  have h15 := h.c15
  have f14 := h.f 14
  have f15 := h.f 15
  have HST : Hid (St19 w b t s) := h
  have hv8 : IntKind.u32.wrap v = v := IntWalk.u32_in _ (by omega)
  clear h hk hI0 hI1
  rcases (by omega : k = 0 ∨ k = 1 ∨ k = 2 ∨ k = 3 ∨ k = 4 ∨ k = 5 ∨ k = 6 ∨ k = 7) with rfl | rfl | rfl | rfl | rfl | rfl | rfl | rfl
  · have hb := hI2 (by decide)
    clear hI2 hI3
    obtain ⟨Y, hY⟩ : ∃ Y, Y = v * 1 := ⟨_, rfl⟩
    obtain ⟨Z, hZ⟩ : ∃ Z, Z = s.hd.so + Y := ⟨_, rfl⟩
    have hb' : 0 ≤ s.hd.so ∧ s.hd.so < 1 := hb
    have o1 : bits .or .u32 s.hd.so Y = Z := or32i_19 (v := v) 0 hb (by omega) (by rw [show (2 : Int) ^ 0 = 1 by decide]; omega) (by rw [show (2 : Int) ^ 0 = 1 by decide]; omega) (by rw [show (2 : Int) ^ 0 = 1 by decide]; omega)
    have o2 : v * 1 % 4294967296 = Y := by omega
    have o3 : IntKind.u32.wrap (v * 1) = Y := by rw [IntWalk.u32_in _ (by omega)]; omega
    have o4 : v * 2 ^ 0 % 4294967296 = Y := by rw [show (2 : Int) ^ 0 = 1 by decide]; omega
    have o5 : bits .or .u32 s.hd.so v = Z := (show Y = v by omega) ▸ o1
    have HS : Hid (St19 (w.setCell ⟨b, 14, none⟩ (.int .u32 Z)).drew b t { s with hd := { s.hd with so := Z } } ∧ Kp (fun k => k = b) w (w.setCell ⟨b, 14, none⟩ (.int .u32 Z)).drew) := ⟨HST.out.set (s' := { s with hd := { s.hd with so := Z } }) rfl, (kp1_19 _).drew⟩
    have HIM : Hid (im19 s v = { s with hd := { s.hd with so := Z }, cn := 1, nx := s.nx }) := by
      show _ = _
      unfold im19
      rw [HCN.out]
      simp [hZ, hY]
    have LA := HLA.out _ _ HS.out.1 HCN.out
    simp only [Int.reduceAdd, Int.reduceMod, Int.cast_ofNat_Int] at LA
    clear hb hb' hY hZ
    go_enter Tryz.func71, Tryz.ntmps71
    go_wp2_with fail
    go_region
    go_wp2_with fail
    refine LA.mono ?_
    rintro e1 w1 ⟨rfl, q1, k1⟩
    have HQ : Hid (St19 w1 b t { s with hd := { s.hd with so := Z }, cn := 1, nx := s.nx } ∧ Kp (fun k => k = b) w w1) := ⟨q1, kpt_19 HS.out.2 k1⟩
    clear LA q1 k1
    go_wp2
    go_ret2
    rw [HIM.out]
    exact ⟨rfl, HQ.out.1, HQ.out.2⟩
  · have hb := hI2 (by decide)
    clear hI2 hI3
    obtain ⟨Y, hY⟩ : ∃ Y, Y = v * 256 := ⟨_, rfl⟩
    obtain ⟨Z, hZ⟩ : ∃ Z, Z = s.hd.so + Y := ⟨_, rfl⟩
    have hb' : 0 ≤ s.hd.so ∧ s.hd.so < 256 := hb
    have o1 : bits .or .u32 s.hd.so Y = Z := or32i_19 (v := v) 8 hb (by omega) (by rw [show (2 : Int) ^ 8 = 256 by decide]; omega) (by rw [show (2 : Int) ^ 8 = 256 by decide]; omega) (by rw [show (2 : Int) ^ 8 = 256 by decide]; omega)
    have o2 : v * 256 % 4294967296 = Y := by omega
    have o3 : IntKind.u32.wrap (v * 256) = Y := by rw [IntWalk.u32_in _ (by omega)]; omega
    have o4 : v * 2 ^ 8 % 4294967296 = Y := by rw [show (2 : Int) ^ 8 = 256 by decide]; omega
    have HS : Hid (St19 (w.setCell ⟨b, 14, none⟩ (.int .u32 Z)).drew b t { s with hd := { s.hd with so := Z } } ∧ Kp (fun k => k = b) w (w.setCell ⟨b, 14, none⟩ (.int .u32 Z)).drew) := ⟨HST.out.set (s' := { s with hd := { s.hd with so := Z } }) rfl, (kp1_19 _).drew⟩
    have HIM : Hid (im19 s v = { s with hd := { s.hd with so := Z }, cn := 2, nx := s.nx }) := by
      show _ = _
      unfold im19
      rw [HCN.out]
      simp [hZ, hY]
    have LA := HLA.out _ _ HS.out.1 HCN.out
    simp only [Int.reduceAdd, Int.reduceMod, Int.cast_ofNat_Int] at LA
    clear hb hb' hY hZ
    go_enter Tryz.func71, Tryz.ntmps71
    go_wp2_with fail
    go_region
    go_wp2_with fail
    refine LA.mono ?_
    rintro e1 w1 ⟨rfl, q1, k1⟩
    have HQ : Hid (St19 w1 b t { s with hd := { s.hd with so := Z }, cn := 2, nx := s.nx } ∧ Kp (fun k => k = b) w w1) := ⟨q1, kpt_19 HS.out.2 k1⟩
    clear LA q1 k1
    go_wp2
    go_ret2
    rw [HIM.out]
    exact ⟨rfl, HQ.out.1, HQ.out.2⟩
  · have hb := hI2 (by decide)
    clear hI2 hI3
    obtain ⟨Y, hY⟩ : ∃ Y, Y = v * 65536 := ⟨_, rfl⟩
    obtain ⟨Z, hZ⟩ : ∃ Z, Z = s.hd.so + Y := ⟨_, rfl⟩
    have hb' : 0 ≤ s.hd.so ∧ s.hd.so < 65536 := hb
    have o1 : bits .or .u32 s.hd.so Y = Z := or32i_19 (v := v) 16 hb (by omega) (by rw [show (2 : Int) ^ 16 = 65536 by decide]; omega) (by rw [show (2 : Int) ^ 16 = 65536 by decide]; omega) (by rw [show (2 : Int) ^ 16 = 65536 by decide]; omega)
    have o2 : v * 65536 % 4294967296 = Y := by omega
    have o3 : IntKind.u32.wrap (v * 65536) = Y := by rw [IntWalk.u32_in _ (by omega)]; omega
    have o4 : v * 2 ^ 16 % 4294967296 = Y := by rw [show (2 : Int) ^ 16 = 65536 by decide]; omega
    have HS : Hid (St19 (w.setCell ⟨b, 14, none⟩ (.int .u32 Z)).drew b t { s with hd := { s.hd with so := Z } } ∧ Kp (fun k => k = b) w (w.setCell ⟨b, 14, none⟩ (.int .u32 Z)).drew) := ⟨HST.out.set (s' := { s with hd := { s.hd with so := Z } }) rfl, (kp1_19 _).drew⟩
    have HIM : Hid (im19 s v = { s with hd := { s.hd with so := Z }, cn := 3, nx := s.nx }) := by
      show _ = _
      unfold im19
      rw [HCN.out]
      simp [hZ, hY]
    have LA := HLA.out _ _ HS.out.1 HCN.out
    simp only [Int.reduceAdd, Int.reduceMod, Int.cast_ofNat_Int] at LA
    clear hb hb' hY hZ
    go_enter Tryz.func71, Tryz.ntmps71
    go_wp2_with fail
    go_region
    go_wp2_with fail
    refine LA.mono ?_
    rintro e1 w1 ⟨rfl, q1, k1⟩
    have HQ : Hid (St19 w1 b t { s with hd := { s.hd with so := Z }, cn := 3, nx := s.nx } ∧ Kp (fun k => k = b) w w1) := ⟨q1, kpt_19 HS.out.2 k1⟩
    clear LA q1 k1
    go_wp2
    go_ret2
    rw [HIM.out]
    exact ⟨rfl, HQ.out.1, HQ.out.2⟩
  · have hb := hI2 (by decide)
    clear hI2 hI3
    obtain ⟨Y, hY⟩ : ∃ Y, Y = v * 16777216 := ⟨_, rfl⟩
    obtain ⟨Z, hZ⟩ : ∃ Z, Z = s.hd.so + Y := ⟨_, rfl⟩
    have hb' : 0 ≤ s.hd.so ∧ s.hd.so < 16777216 := hb
    have o1 : bits .or .u32 s.hd.so Y = Z := or32i_19 (v := v) 24 hb (by omega) (by rw [show (2 : Int) ^ 24 = 16777216 by decide]; omega) (by rw [show (2 : Int) ^ 24 = 16777216 by decide]; omega) (by rw [show (2 : Int) ^ 24 = 16777216 by decide]; omega)
    have o2 : v * 16777216 % 4294967296 = Y := by omega
    have o3 : IntKind.u32.wrap (v * 16777216) = Y := by rw [IntWalk.u32_in _ (by omega)]; omega
    have o4 : v * 2 ^ 24 % 4294967296 = Y := by rw [show (2 : Int) ^ 24 = 16777216 by decide]; omega
    have HS : Hid (St19 (w.setCell ⟨b, 14, none⟩ (.int .u32 Z)).drew b t { s with hd := { s.hd with so := Z } } ∧ Kp (fun k => k = b) w (w.setCell ⟨b, 14, none⟩ (.int .u32 Z)).drew) := ⟨HST.out.set (s' := { s with hd := { s.hd with so := Z } }) rfl, (kp1_19 _).drew⟩
    have HIM : Hid (im19 s v = { s with hd := { s.hd with so := Z }, cn := 4, nx := s.nx }) := by
      show _ = _
      unfold im19
      rw [HCN.out]
      simp [hZ, hY]
    have LA := HLA.out _ _ HS.out.1 HCN.out
    simp only [Int.reduceAdd, Int.reduceMod, Int.cast_ofNat_Int] at LA
    clear hb hb' hY hZ
    go_enter Tryz.func71, Tryz.ntmps71
    go_wp2_with fail
    go_region
    go_wp2_with fail
    refine LA.mono ?_
    rintro e1 w1 ⟨rfl, q1, k1⟩
    have HQ : Hid (St19 w1 b t { s with hd := { s.hd with so := Z }, cn := 4, nx := s.nx } ∧ Kp (fun k => k = b) w w1) := ⟨q1, kpt_19 HS.out.2 k1⟩
    clear LA q1 k1
    go_wp2
    go_ret2
    rw [HIM.out]
    exact ⟨rfl, HQ.out.1, HQ.out.2⟩
  · have hb := hI3 (by decide)
    clear hI2 hI3
    obtain ⟨Y, hY⟩ : ∃ Y, Y = v * 1 := ⟨_, rfl⟩
    obtain ⟨Z, hZ⟩ : ∃ Z, Z = s.hd.sn + Y := ⟨_, rfl⟩
    have hb' : 0 ≤ s.hd.sn ∧ s.hd.sn < 1 := hb
    have o1 : bits .or .u32 s.hd.sn Y = Z := or32i_19 (v := v) 0 hb (by omega) (by rw [show (2 : Int) ^ 0 = 1 by decide]; omega) (by rw [show (2 : Int) ^ 0 = 1 by decide]; omega) (by rw [show (2 : Int) ^ 0 = 1 by decide]; omega)
    have o2 : v * 1 % 4294967296 = Y := by omega
    have o3 : IntKind.u32.wrap (v * 1) = Y := by rw [IntWalk.u32_in _ (by omega)]; omega
    have o4 : v * 2 ^ 0 % 4294967296 = Y := by rw [show (2 : Int) ^ 0 = 1 by decide]; omega
    have o5 : bits .or .u32 s.hd.sn v = Z := (show Y = v by omega) ▸ o1
    have HS : Hid (St19 (w.setCell ⟨b, 15, none⟩ (.int .u32 Z)).drew b t { s with hd := { s.hd with sn := Z } } ∧ Kp (fun k => k = b) w (w.setCell ⟨b, 15, none⟩ (.int .u32 Z)).drew) := ⟨HST.out.set (s' := { s with hd := { s.hd with sn := Z } }) rfl, (kp1_19 _).drew⟩
    have HIM : Hid (im19 s v = { s with hd := { s.hd with sn := Z }, cn := 5, nx := s.nx }) := by
      show _ = _
      unfold im19
      rw [HCN.out]
      simp [hZ, hY]
    have LA := HLA.out _ _ HS.out.1 HCN.out
    simp only [Int.reduceAdd, Int.reduceMod, Int.cast_ofNat_Int] at LA
    clear hb hb' hY hZ
    go_enter Tryz.func71, Tryz.ntmps71
    go_wp2_with fail
    go_region
    go_wp2_with fail
    refine LA.mono ?_
    rintro e1 w1 ⟨rfl, q1, k1⟩
    have HQ : Hid (St19 w1 b t { s with hd := { s.hd with sn := Z }, cn := 5, nx := s.nx } ∧ Kp (fun k => k = b) w w1) := ⟨q1, kpt_19 HS.out.2 k1⟩
    clear LA q1 k1
    go_wp2
    go_ret2
    rw [HIM.out]
    exact ⟨rfl, HQ.out.1, HQ.out.2⟩
  · have hb := hI3 (by decide)
    clear hI2 hI3
    obtain ⟨Y, hY⟩ : ∃ Y, Y = v * 256 := ⟨_, rfl⟩
    obtain ⟨Z, hZ⟩ : ∃ Z, Z = s.hd.sn + Y := ⟨_, rfl⟩
    have hb' : 0 ≤ s.hd.sn ∧ s.hd.sn < 256 := hb
    have o1 : bits .or .u32 s.hd.sn Y = Z := or32i_19 (v := v) 8 hb (by omega) (by rw [show (2 : Int) ^ 8 = 256 by decide]; omega) (by rw [show (2 : Int) ^ 8 = 256 by decide]; omega) (by rw [show (2 : Int) ^ 8 = 256 by decide]; omega)
    have o2 : v * 256 % 4294967296 = Y := by omega
    have o3 : IntKind.u32.wrap (v * 256) = Y := by rw [IntWalk.u32_in _ (by omega)]; omega
    have o4 : v * 2 ^ 8 % 4294967296 = Y := by rw [show (2 : Int) ^ 8 = 256 by decide]; omega
    have HS : Hid (St19 (w.setCell ⟨b, 15, none⟩ (.int .u32 Z)).drew b t { s with hd := { s.hd with sn := Z } } ∧ Kp (fun k => k = b) w (w.setCell ⟨b, 15, none⟩ (.int .u32 Z)).drew) := ⟨HST.out.set (s' := { s with hd := { s.hd with sn := Z } }) rfl, (kp1_19 _).drew⟩
    have HIM : Hid (im19 s v = { s with hd := { s.hd with sn := Z }, cn := 6, nx := s.nx }) := by
      show _ = _
      unfold im19
      rw [HCN.out]
      simp [hZ, hY]
    have LA := HLA.out _ _ HS.out.1 HCN.out
    simp only [Int.reduceAdd, Int.reduceMod, Int.cast_ofNat_Int] at LA
    clear hb hb' hY hZ
    go_enter Tryz.func71, Tryz.ntmps71
    go_wp2_with fail
    go_region
    go_wp2_with fail
    refine LA.mono ?_
    rintro e1 w1 ⟨rfl, q1, k1⟩
    have HQ : Hid (St19 w1 b t { s with hd := { s.hd with sn := Z }, cn := 6, nx := s.nx } ∧ Kp (fun k => k = b) w w1) := ⟨q1, kpt_19 HS.out.2 k1⟩
    clear LA q1 k1
    go_wp2
    go_ret2
    rw [HIM.out]
    exact ⟨rfl, HQ.out.1, HQ.out.2⟩
  · have hb := hI3 (by decide)
    clear hI2 hI3
    obtain ⟨Y, hY⟩ : ∃ Y, Y = v * 65536 := ⟨_, rfl⟩
    obtain ⟨Z, hZ⟩ : ∃ Z, Z = s.hd.sn + Y := ⟨_, rfl⟩
    have hb' : 0 ≤ s.hd.sn ∧ s.hd.sn < 65536 := hb
    have o1 : bits .or .u32 s.hd.sn Y = Z := or32i_19 (v := v) 16 hb (by omega) (by rw [show (2 : Int) ^ 16 = 65536 by decide]; omega) (by rw [show (2 : Int) ^ 16 = 65536 by decide]; omega) (by rw [show (2 : Int) ^ 16 = 65536 by decide]; omega)
    have o2 : v * 65536 % 4294967296 = Y := by omega
    have o3 : IntKind.u32.wrap (v * 65536) = Y := by rw [IntWalk.u32_in _ (by omega)]; omega
    have o4 : v * 2 ^ 16 % 4294967296 = Y := by rw [show (2 : Int) ^ 16 = 65536 by decide]; omega
    have HS : Hid (St19 (w.setCell ⟨b, 15, none⟩ (.int .u32 Z)).drew b t { s with hd := { s.hd with sn := Z } } ∧ Kp (fun k => k = b) w (w.setCell ⟨b, 15, none⟩ (.int .u32 Z)).drew) := ⟨HST.out.set (s' := { s with hd := { s.hd with sn := Z } }) rfl, (kp1_19 _).drew⟩
    have HIM : Hid (im19 s v = { s with hd := { s.hd with sn := Z }, cn := 7, nx := s.nx }) := by
      show _ = _
      unfold im19
      rw [HCN.out]
      simp [hZ, hY]
    have LA := HLA.out _ _ HS.out.1 HCN.out
    simp only [Int.reduceAdd, Int.reduceMod, Int.cast_ofNat_Int] at LA
    clear hb hb' hY hZ
    go_enter Tryz.func71, Tryz.ntmps71
    go_wp2_with fail
    go_region
    go_wp2_with fail
    refine LA.mono ?_
    rintro e1 w1 ⟨rfl, q1, k1⟩
    have HQ : Hid (St19 w1 b t { s with hd := { s.hd with sn := Z }, cn := 7, nx := s.nx } ∧ Kp (fun k => k = b) w w1) := ⟨q1, kpt_19 HS.out.2 k1⟩
    clear LA q1 k1
    go_wp2
    go_ret2
    rw [HIM.out]
    exact ⟨rfl, HQ.out.1, HQ.out.2⟩
  · have hb := hI3 (by decide)
    clear hI2 hI3
    obtain ⟨Y, hY⟩ : ∃ Y, Y = v * 16777216 := ⟨_, rfl⟩
    obtain ⟨Z, hZ⟩ : ∃ Z, Z = s.hd.sn + Y := ⟨_, rfl⟩
    have hb' : 0 ≤ s.hd.sn ∧ s.hd.sn < 16777216 := hb
    have o1 : bits .or .u32 s.hd.sn Y = Z := or32i_19 (v := v) 24 hb (by omega) (by rw [show (2 : Int) ^ 24 = 16777216 by decide]; omega) (by rw [show (2 : Int) ^ 24 = 16777216 by decide]; omega) (by rw [show (2 : Int) ^ 24 = 16777216 by decide]; omega)
    have o2 : v * 16777216 % 4294967296 = Y := by omega
    have o3 : IntKind.u32.wrap (v * 16777216) = Y := by rw [IntWalk.u32_in _ (by omega)]; omega
    have o4 : v * 2 ^ 24 % 4294967296 = Y := by rw [show (2 : Int) ^ 24 = 16777216 by decide]; omega
    have HS : Hid (St19 (w.setCell ⟨b, 15, none⟩ (.int .u32 Z)).drew b t { s with hd := { s.hd with sn := Z } } ∧ Kp (fun k => k = b) w (w.setCell ⟨b, 15, none⟩ (.int .u32 Z)).drew) := ⟨HST.out.set (s' := { s with hd := { s.hd with sn := Z } }) rfl, (kp1_19 _).drew⟩
    have HIM : Hid (im19 s v = { s with hd := { s.hd with sn := Z }, cn := 0, nx := 4 }) := by
      show _ = _
      unfold im19
      rw [HCN.out]
      simp [hZ, hY]
    have LA := HLA.out _ _ HS.out.1 HCN.out
    simp only [Int.reduceAdd, Int.reduceMod, Int.cast_ofNat_Int] at LA
    clear hb hb' hY hZ
    go_enter Tryz.func71, Tryz.ntmps71
    go_wp2_with fail
    go_region
    go_wp2_with fail
    refine LA.mono ?_
    rintro e1 w1 ⟨rfl, q1, k1⟩
    have d0 := q1.c0
    have d3 := q1.c3
    have g3 := q1.f 3
    have HQ : Hid (St19 (w1.setCell ⟨b, 3, none⟩ (.int .i64 4)) b t { s with hd := { s.hd with sn := Z }, cn := 0, nx := 4 } ∧ Kp (fun k => k = b) w (w1.setCell ⟨b, 3, none⟩ (.int .i64 4))) := ⟨q1.set (s' := { s with hd := { s.hd with sn := Z }, cn := 0, nx := 4 }) rfl, kpt_19 (kpt_19 HS.out.2 k1) (kp1_19 _)⟩
    clear LA q1 k1
    go_wp2
    go_ret2
    rw [HIM.out]
    exact ⟨rfl, HQ.out.1, HQ.out.2⟩
end Go.Proofs.YtalojcpgkgeofaaGreatDoor
