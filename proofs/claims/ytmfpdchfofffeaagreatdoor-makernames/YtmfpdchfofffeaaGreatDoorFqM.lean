import Derived.Test.YtmfpdchfofffeaaGreatDoorFq6
import Derived.Test.YtmfpdchfofffeaaGreatDoorBackMath
namespace Go.Proofs.YtmfpdchfofffeaaGreatDoor
open Go.RowKit Go.Shelf
set_option linter.unusedVariables false
theorem unf_fix4 {v : Int} (h0 : 0 ≤ v) (h1 : v ≤ 4294967295) : unfL (fixL 4 v) = v := unf_fix 4 v (by rw [show (2 : Int) ^ (8 * 4) = 4294967296 by decide]; omega)
theorem dec_at18 {z A R : List Int} {p : Nat} {v : Int} (hz : z = A ++ (encI v ++ R)) (hp : p = A.length) (h0 : 0 ≤ v) (h1 : v ≤ 16777216) : decL 0 0 (z.drop p) = (v, ((encI v).length : Int), 0) := by
  rw [hz, hp, List.drop_left, dec_encI v R h0 (by omega)]
theorem wd_at18 {z A R : List Int} {p : Nat} {v : Int} (hz : z = A ++ (fixL 4 v ++ R)) (hp : p = A.length) (h0 : 0 ≤ v) (h1 : v ≤ 4294967295) : wd18 z p = v := by
  unfold wd18
  rw [hz, hp, List.drop_left, List.take_left' (fixL_len 4 v), unf_fix4 h0 h1]
theorem hh18_back {h : Hd18} (hk : h.Ok) (hso : 0 ≤ h.so ∧ h.so ≤ 4294967295) (hsn : 0 ≤ h.sn ∧ h.sn ≤ 4294967295) (r : List Int) : hx18 (sum18 (hd18 h) ++ r) = 0 ∧ hr18 (sum18 (hd18 h) ++ r) = h ∧ pl18 (sum18 (hd18 h) ++ r) 5 4 + 12 = (sum18 (hd18 h)).length := by
  obtain ⟨z, hz⟩ : ∃ z, z = sum18 (hd18 h) ++ r := ⟨_, rfl⟩
  have hsb := wI_bd18 (sumW (hd18 h))
  obtain ⟨⟨o0, o1⟩, ⟨n0, n1⟩, ⟨w0, w1⟩, l0, l1⟩ := hk
  rw [← hz]
  have e0 : z = mag18 ++ (encI h.o ++ (encI h.n ++ (encI h.wi ++ (encI h.lo ++ (fixL 4 h.so ++ (fixL 4 h.sn ++ (fixL 4 (wI (sumW (hd18 h))) ++ r))))))) := by rw [hz]; simp [sum18, hd18, hv18, encA]
  have e1 : z = (mag18 ++ encI h.o) ++ (encI h.n ++ (encI h.wi ++ (encI h.lo ++ (fixL 4 h.so ++ (fixL 4 h.sn ++ (fixL 4 (wI (sumW (hd18 h))) ++ r)))))) := by rw [e0]; simp
  have e2 : z = (mag18 ++ (encI h.o ++ encI h.n)) ++ (encI h.wi ++ (encI h.lo ++ (fixL 4 h.so ++ (fixL 4 h.sn ++ (fixL 4 (wI (sumW (hd18 h))) ++ r))))) := by rw [e0]; simp
  have e3 : z = (mag18 ++ (encI h.o ++ (encI h.n ++ encI h.wi))) ++ (encI h.lo ++ (fixL 4 h.so ++ (fixL 4 h.sn ++ (fixL 4 (wI (sumW (hd18 h))) ++ r)))) := by rw [e0]; simp
  have e4 : z = (mag18 ++ (encI h.o ++ (encI h.n ++ (encI h.wi ++ encI h.lo)))) ++ (fixL 4 h.so ++ (fixL 4 h.sn ++ (fixL 4 (wI (sumW (hd18 h))) ++ r))) := by rw [e0]; simp
  have e5 : z = (mag18 ++ (encI h.o ++ (encI h.n ++ (encI h.wi ++ (encI h.lo ++ fixL 4 h.so))))) ++ (fixL 4 h.sn ++ (fixL 4 (wI (sumW (hd18 h))) ++ r)) := by rw [e0]; simp
  have e6 : z = hd18 h ++ (fixL 4 (wI (sumW (hd18 h))) ++ r) := by rw [hz]; simp [sum18]
  have hL : (hd18 h).length = 5 + (encI h.o).length + (encI h.n).length + (encI h.wi).length + (encI h.lo).length + 8 := by simp [hd18, hv18, encA, fixL_len, mag18]; omega
  have m5 : mag18.length = 5 := rfl
  have d0 := dec_at18 e0 (p := 5) rfl o0 o1
  have p1 : pl18 z 5 1 = 5 + (encI h.o).length := by simp only [pl18]; rw [d0]; simp
  have d1 := dec_at18 e1 (p := 5 + (encI h.o).length) (by simp [mag18]; omega) n0 n1
  have p2 : pl18 z 5 2 = 5 + (encI h.o).length + (encI h.n).length := by rw [show pl18 z 5 2 = pl18 z 5 1 + (decL 0 0 (z.drop (pl18 z 5 1))).2.1.toNat from rfl, p1, d1]; simp
  have d2 := dec_at18 e2 (p := 5 + (encI h.o).length + (encI h.n).length) (by simp [mag18]; omega) (v := h.wi) (by omega) (by omega)
  have p3 : pl18 z 5 3 = 5 + (encI h.o).length + (encI h.n).length + (encI h.wi).length := by rw [show pl18 z 5 3 = pl18 z 5 2 + (decL 0 0 (z.drop (pl18 z 5 2))).2.1.toNat from rfl, p2, d2]; simp
  have d3 := dec_at18 e3 (p := 5 + (encI h.o).length + (encI h.n).length + (encI h.wi).length) (by simp [mag18]; omega) (v := h.lo) (by omega) (by omega)
  have p4 : pl18 z 5 4 = 5 + (encI h.o).length + (encI h.n).length + (encI h.wi).length + (encI h.lo).length := by rw [show pl18 z 5 4 = pl18 z 5 3 + (decL 0 0 (z.drop (pl18 z 5 3))).2.1.toNat from rfl, p3, d3]; simp
  have q0 : wd18 z (pl18 z 5 4) = h.so := wd_at18 e4 (by rw [p4]; simp [mag18]; omega) hso.1 hso.2
  have q1 : wd18 z (pl18 z 5 4 + 4) = h.sn := wd_at18 e5 (by rw [p4]; simp [mag18, fixL_len]; omega) hsn.1 hsn.2
  have q2 : wd18 z (pl18 z 5 4 + 8) = wI (sumW (hd18 h)) := wd_at18 e6 (by rw [p4, hL]) hsb.1 hsb.2
  have q3 : z.take (pl18 z 5 4 + 8) = hd18 h := by rw [e6, List.take_left' (by rw [← e6, p4, hL])]
  have v0 : vl18 z 5 0 = h.o := by unfold vl18; rw [show pl18 z 5 0 = 5 from rfl, d0]
  have v1 : vl18 z 5 1 = h.n := by unfold vl18; rw [p1, d1]
  have v2 : vl18 z 5 2 = h.wi := by unfold vl18; rw [p2, d2]
  have v3 : vl18 z 5 3 = h.lo := by unfold vl18; rw [p3, d3]
  have hf : Hf18 z := by
    refine ⟨⟨?_, ?_⟩, fun j hj => ?_, ?_⟩
    · rw [e0]; simp [mag18]
    · rw [e0]; exact List.take_left' rfl
    · unfold No18
      rcases (by omega : j = 0 ∨ j = 1 ∨ j = 2 ∨ j = 3) with rfl | rfl | rfl | rfl
      · rw [show pl18 z 5 0 = 5 from rfl, d0]; exact ⟨rfl, o0, o1⟩
      · rw [p1, d1]; exact ⟨rfl, n0, n1⟩
      · rw [p2, d2]; exact ⟨rfl, w0, w1⟩
      · rw [p3, d3]; exact ⟨rfl, l0, l1⟩
    · rw [hz, ← hz, p4]
      rw [show z.length = (sum18 (hd18 h)).length + r.length by rw [hz]; simp, sum18_len, hL]
      omega
  refine ⟨hx18_ok hf ?_, ?_, ?_⟩
  · unfold Su18
    rw [q2, q3]
  · unfold hr18 hp18
    rw [q0, q1, v0, v1, v2, v3]
    rfl
  · rw [p4, sum18_len, hL]
end Go.Proofs.YtmfpdchfofffeaaGreatDoor
