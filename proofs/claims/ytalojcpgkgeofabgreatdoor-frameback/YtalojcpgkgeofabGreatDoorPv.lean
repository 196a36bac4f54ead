import Derived.Test.YtalojcpgkgeofabGreatDoorPu
import Derived.Test.YtalojcpgkgeofabGreatDoorPt
import Derived.Test.YtalojcpgkgeofabGreatDoorPn
import Derived.Laws.StructEq
namespace Go.Proofs.YtalojcpgkgeofabGreatDoor
open Go.RowKit
set_option linter.unusedVariables false

/-- What is taken is just what is written. -/
theorem dec_ok : ∀ (zs : List Int) (c : Nat) (u w n : Int), c ≤ 9 → 0 ≤ u → u < 128 ^ c → (∀ z ∈ zs, 0 ≤ z ∧ z ≤ 255) → decL u c zs = (w, n, 0) →
    ∃ (m : Nat) (v : Int), 1 ≤ m ∧ m ≤ zs.length ∧ n = (c : Int) + (m : Int) ∧ 0 ≤ v ∧ v < 2 * 128 ^ (9 - c) ∧ w = u + v * 128 ^ c ∧ zs.take m = encL (9 - c) v ∧ (0 < c → 0 < v)
  | [], c, u, w, n, _, _, _, _, h => by simp [decL] at h
  | x :: r, c, u, w, n, hc, hu0, hu1, hz, h => by
    have hx := hz x (by simp)
    have hp := pow128_pos c
    rw [decL] at h
    by_cases he : tkErr c x = 0
    · rw [if_neg (by simp [he])] at h
      have h9 := tkErr_nine he
      have hne : 0 < c → x ≠ 0 := by
        intro h1 h2
        subst h2
        unfold tkErr at he
        split at he
        · cases he
        · rw [if_pos ⟨h1, rfl⟩] at he; cases he
      by_cases h7 : x < 128
      · rw [if_pos h7] at h
        simp only [Prod.mk.injEq, and_true] at h
        obtain ⟨rfl, rfl⟩ := h
        have e2 : x % 128 = x := by omega
        have hp9 := pow128_pos (9 - c)
        refine ⟨1, x, by omega, by simp, by omega, hx.1, ?_, by unfold tkVal; rw [e2], ?_, fun h1 => by have := hne h1; omega⟩
        · by_cases e : c = 9
          · subst e; have := h9 rfl; simp; omega
          · have h1 : (128 : Int) ^ 1 ≤ 128 ^ (9 - c) := pow128_mono (by omega)
            simp at h1
            omega
        · cases 9 - c with
          | zero => simp [encL]
          | succ f => rw [encL, if_neg (by omega)]; simp
      · rw [if_neg h7] at h
        have hc8 := tk_more_le hc he (by omega)
        have hbd := tkVal_bd u c x hu0 hu1 hx.1
        obtain ⟨m, v, h1, h2, h3, h4, h5, h6, h8, h10⟩ := dec_ok r (c + 1) (tkVal u c x) w n (by omega) hbd.1 hbd.2 (fun z hz' => hz z (by simp [hz'])) h
        have hv := h10 (by omega)
        obtain ⟨f, hf⟩ : ∃ f, 9 - c = f + 1 := ⟨9 - c - 1, by omega⟩
        have hf2 : 9 - (c + 1) = f := by omega
        rw [hf2] at h5 h8
        have e3 : (128 : Int) ^ (f + 1) = 128 ^ f * 128 := Int.pow_succ _ _
        have hpf := pow128_pos f
        have d1 : (x % 128 + v * 128) / 128 = v := by omega
        have d2 : (x % 128 + v * 128) % 128 + 128 = x := by omega
        refine ⟨m + 1, x % 128 + v * 128, by omega, by simp; omega, by omega, by omega, by rw [hf, e3]; omega, ?_, ?_, fun _ => by omega⟩
        · rw [h6]
          unfold tkVal
          rw [Int.add_mul, Int.pow_succ, Int.add_assoc, Int.mul_assoc, Int.mul_comm 128]
        · rw [hf, encL, if_pos (by omega), d1, d2, List.take_succ_cons, h8]
    · rw [if_pos (by simp [he])] at h
      simp at h
      exact absurd h.2.2 he

theorem decI_ok (zs : List Int) (w n : Int) (hz : ∀ z ∈ zs, 0 ≤ z ∧ z ≤ 255) (h : decL 0 0 zs = (w, n, 0)) : ∃ m : Nat, 1 ≤ m ∧ m ≤ zs.length ∧ n = (m : Int) ∧ 0 ≤ w ∧ w ≤ 18446744073709551615 ∧ zs.take m = encI w := by
  obtain ⟨m, v, h1, h2, h3, h4, h5, h6, h7, _⟩ := dec_ok zs 0 0 w n (by omega) (by omega) (by decide) hz h
  have := pow9
  simp only [Nat.sub_zero, Int.pow_zero, Int.mul_one, Int.zero_add] at h5 h6 h7
  subst h6
  exact ⟨m, h1, h2, by omega, h4, by omega, h7⟩

theorem dec_bad : ∀ (zs : List Int) (c : Nat) (u : Int), (decL u c zs).2.2 ≠ 0 → (decL u c zs).1 = 0 ∧ (decL u c zs).2.1 = 0
  | [], c, u, h => by simp [decL]
  | x :: r, c, u, h => by
    rw [decL] at h ⊢
    by_cases he : tkErr c x = 0
    · rw [if_neg (by simp [he])] at h ⊢
      by_cases h7 : x < 128
      · rw [if_pos h7] at h; simp at h
      · rw [if_neg h7] at h ⊢; exact dec_bad r _ _ h
    · rw [if_pos (by simp [he])]; simp

/-- No number's form begins another one's. -/
theorem enc_prefix (u v : Int) (hu0 : 0 ≤ u) (hu1 : u ≤ 18446744073709551615) (hv0 : 0 ≤ v) (hv1 : v ≤ 18446744073709551615) (h : encI u = (encI v).take (encI u).length) : u = v := by
  have h1 := dec_encI v [] hv0 hv1
  have h2 := dec_encI u ((encI v).drop (encI u).length) hu0 hu1
  have e : encI u ++ (encI v).drop (encI u).length = encI v := by
    conv => lhs; arg 1; rw [h]
    exact List.take_append_drop _ _
  rw [e] at h2
  rw [List.append_nil] at h1
  rw [h1] at h2
  simp at h2
  exact h2.1.symm
end Go.Proofs.YtalojcpgkgeofabGreatDoor

namespace Go.Proofs.YtalojcpgkgeofabGreatDoor
open Go.RowKit Go.Shelf
set_option linter.unusedVariables false

/-! A header there and back. -/
theorem unf_fix4 {v : Int} (h0 : 0 ≤ v) (h1 : v ≤ 4294967295) : unfL (fixL 4 v) = v := unf_fix 4 v (by rw [show (2 : Int) ^ (8 * 4) = 4294967296 by decide]; omega)
theorem fix_unf18 : ∀ (z : List Int), (∀ t ∈ z, 0 ≤ t ∧ t ≤ 255) → fixL z.length (unfL z) = z
  | [], _ => rfl
  | x :: r, h => by
    have hx := h x (by simp)
    have ih := fix_unf18 r (fun t ht => h t (by simp [ht]))
    simp only [List.length_cons, fixL, unfL]
    rw [show (x + 256 * unfL r) % 256 = x by omega, show (x + 256 * unfL r) / 256 = unfL r by omega, ih]
theorem dec_at18 {z A R : List Int} {p : Nat} {v : Int} (hz : z = A ++ (encI v ++ R)) (hp : p = A.length) (h0 : 0 ≤ v) (h1 : v ≤ 16777216) : decL 0 0 (z.drop p) = (v, ((encI v).length : Int), 0) := by
  rw [hz, hp, List.drop_left, dec_encI v R h0 (by omega)]
theorem wd_at18 {z A R : List Int} {p : Nat} {v : Int} (hz : z = A ++ (fixL 4 v ++ R)) (hp : p = A.length) (h0 : 0 ≤ v) (h1 : v ≤ 4294967295) : wd18 z p = v := by
  unfold wd18
  rw [hz, hp, List.drop_left, List.take_left' (fixL_len 4 v), unf_fix4 h0 h1]
theorem hh18_back {h : Hd18} (hk : h.Ok) (hso : 0 ≤ h.so ∧ h.so ≤ 4294967295) (hsn : 0 ≤ h.sn ∧ h.sn ≤ 4294967295) (r : List Int) : hx18 (sum18 (hd18 h) ++ r) = 0 ∧ hr18 (sum18 (hd18 h) ++ r) = h ∧ pl18 (sum18 (hd18 h) ++ r) 5 4 + 12 = (sum18 (hd18 h)).length := by
  obtain ⟨z, hz⟩ : ∃ z, z = sum18 (hd18 h) ++ r := ⟨_, rfl⟩
  have hsb := wI_bd18 (sumW (hd18 h))
  obtain ⟨⟨o0, o1⟩, ⟨n0, n1⟩, ⟨w0, w1⟩, l0, l1⟩ := hk
  rw [← hz]
  have e0 : z = mag18 ++ (encI h.o ++ (encI h.n ++ (encI h.wi ++ (encI h.lo ++ (fixL 4 h.so ++ (fixL 4 h.sn ++ (fixL 4 (wI (sumW (hd18 h))) ++ r))))))) := by rw [hz]; simp [sum18, hd18, hv18, encA]
  have e1 : z = (mag18 ++ encI h.o) ++ (encI h.n ++ (encI h.wi ++ (encI h.lo ++ (fixL 4 h.so ++ (fixL 4 h.sn ++ (fixL 4 (wI (sumW (hd18 h))) ++ r)))))) := by rw [e0]; simp
  have e2 : z = (mag18 ++ (encI h.o ++ encI h.n)) ++ (encI h.wi ++ (encI h.lo ++ (fixL 4 h.so ++ (fixL 4 h.sn ++ (fixL 4 (wI (sumW (hd18 h))) ++ r))))) := by rw [e0]; simp
  have e3 : z = (mag18 ++ (encI h.o ++ (encI h.n ++ encI h.wi))) ++ (encI h.lo ++ (fixL 4 h.so ++ (fixL 4 h.sn ++ (fixL 4 (wI (sumW (hd18 h))) ++ r)))) := by rw [e0]; simp
  have e4 : z = (mag18 ++ (encI h.o ++ (encI h.n ++ (encI h.wi ++ encI h.lo)))) ++ (fixL 4 h.so ++ (fixL 4 h.sn ++ (fixL 4 (wI (sumW (hd18 h))) ++ r))) := by rw [e0]; simp
  have e5 : z = (mag18 ++ (encI h.o ++ (encI h.n ++ (encI h.wi ++ (encI h.lo ++ fixL 4 h.so))))) ++ (fixL 4 h.sn ++ (fixL 4 (wI (sumW (hd18 h))) ++ r)) := by rw [e0]; simp
  have e6 : z = hd18 h ++ (fixL 4 (wI (sumW (hd18 h))) ++ r) := by rw [hz]; simp [sum18]
  have hL : (hd18 h).length = 5 + (encI h.o).length + (encI h.n).length + (encI h.wi).length + (encI h.lo).length + 8 := by simp [hd18, hv18, encA, fixL_len, mag18]; omega
  have m5 : mag18.length = 5 := rfl
  have d0 := dec_at18 e0 (p := 5) rfl o0 o1
  have p1 : pl18 z 5 1 = 5 + (encI h.o).length := by simp only [pl18]; rw [d0]; simp
  have d1 := dec_at18 e1 (p := 5 + (encI h.o).length) (by simp [mag18]; omega) n0 n1
  have p2 : pl18 z 5 2 = 5 + (encI h.o).length + (encI h.n).length := by rw [show pl18 z 5 2 = pl18 z 5 1 + (decL 0 0 (z.drop (pl18 z 5 1))).2.1.toNat from rfl, p1, d1]; simp
  have d2 := dec_at18 e2 (p := 5 + (encI h.o).length + (encI h.n).length) (by simp [mag18]; omega) (v := h.wi) (by omega) (by omega)
  have p3 : pl18 z 5 3 = 5 + (encI h.o).length + (encI h.n).length + (encI h.wi).length := by rw [show pl18 z 5 3 = pl18 z 5 2 + (decL 0 0 (z.drop (pl18 z 5 2))).2.1.toNat from rfl, p2, d2]; simp
  have d3 := dec_at18 e3 (p := 5 + (encI h.o).length + (encI h.n).length + (encI h.wi).length) (by simp [mag18]; omega) (v := h.lo) (by omega) (by omega)
  have p4 : pl18 z 5 4 = 5 + (encI h.o).length + (encI h.n).length + (encI h.wi).length + (encI h.lo).length := by rw [show pl18 z 5 4 = pl18 z 5 3 + (decL 0 0 (z.drop (pl18 z 5 3))).2.1.toNat from rfl, p3, d3]; simp
  have q0 : wd18 z (pl18 z 5 4) = h.so := wd_at18 e4 (by rw [p4]; simp [mag18]; omega) hso.1 hso.2
  have q1 : wd18 z (pl18 z 5 4 + 4) = h.sn := wd_at18 e5 (by rw [p4]; simp [mag18, fixL_len]; omega) hsn.1 hsn.2
  have q2 : wd18 z (pl18 z 5 4 + 8) = wI (sumW (hd18 h)) := wd_at18 e6 (by rw [p4, hL]) hsb.1 hsb.2
  have q3 : z.take (pl18 z 5 4 + 8) = hd18 h := by rw [e6, List.take_left' (by rw [← e6, p4, hL])]
  have v0 : vl18 z 5 0 = h.o := by unfold vl18; rw [show pl18 z 5 0 = 5 from rfl, d0]
  have v1 : vl18 z 5 1 = h.n := by unfold vl18; rw [p1, d1]
  have v2 : vl18 z 5 2 = h.wi := by unfold vl18; rw [p2, d2]
  have v3 : vl18 z 5 3 = h.lo := by unfold vl18; rw [p3, d3]
  have hf : Hf18 z := by
    refine ⟨⟨?_, ?_⟩, fun j hj => ?_, ?_⟩
    · rw [e0]; simp [mag18]
    · rw [e0]; exact List.take_left' rfl
    · unfold No18
      rcases (by omega : j = 0 ∨ j = 1 ∨ j = 2 ∨ j = 3) with rfl | rfl | rfl | rfl
      · rw [show pl18 z 5 0 = 5 from rfl, d0]; exact ⟨rfl, o0, o1⟩
      · rw [p1, d1]; exact ⟨rfl, n0, n1⟩
      · rw [p2, d2]; exact ⟨rfl, w0, w1⟩
      · rw [p3, d3]; exact ⟨rfl, l0, l1⟩
    · rw [hz, ← hz, p4]
      rw [show z.length = (sum18 (hd18 h)).length + r.length by rw [hz]; simp, sum18_len, hL]
      omega
  refine ⟨hx18_ok hf ?_, ?_, ?_⟩
  · unfold Su18
    rw [q2, q3]
  · unfold hr18 hp18
    rw [q0, q1, v0, v1, v2, v3]
    rfl
  · rw [p4, sum18_len, hL]
theorem tri18 {x : Int × Int × Int} (h : x.2.2 = 0) : x = (x.1, x.2.1, 0) := by rw [← h]
theorem enc_at18 {z : List Int} {p : Nat} (hb : ∀ t ∈ z, 0 ≤ t ∧ t ≤ 255) (h : (decL 0 0 (z.drop p)).2.2 = 0) : z.drop p = encI (decL 0 0 (z.drop p)).1 ++ z.drop (p + (decL 0 0 (z.drop p)).2.1.toNat) := by
  obtain ⟨m, m1, m2, e, _, _, ht⟩ := decI_ok (z.drop p) (decL 0 0 (z.drop p)).1 (decL 0 0 (z.drop p)).2.1 (fun t ht => hb t (List.mem_of_mem_drop ht)) (tri18 h)
  rw [e, show ((m : Int)).toNat = m by omega, ← ht, ← List.drop_drop, List.take_append_drop]
theorem hx18_fact {z : List Int} (h : hx18 z = 0) : Hf18 z ∧ Su18 z (pl18 z 5 4 + 8) := by
  by_cases hf : Hf18 z
  · by_cases hs : Su18 z (pl18 z 5 4 + 8)
    · exact ⟨hf, hs⟩
    · rw [hx18_bad hf hs] at h; exact absurd h (by decide)
  · rw [hx18_no hf] at h; exact absurd h (by decide)
theorem hr18_okF {z : List Int} (hf : Hf18 z) : (hr18 z).Ok := by
  have j0 := hf.2.1 0 (by omega)
  have j1 := hf.2.1 1 (by omega)
  have j2 := hf.2.1 2 (by omega)
  have j3 := hf.2.1 3 (by omega)
  exact ⟨j0.2, j1.2, j2.2, j3.2⟩
theorem fix_wd18 {z : List Int} {p : Nat} (hb : ∀ t ∈ z, 0 ≤ t ∧ t ≤ 255) (h : p + 4 ≤ z.length) : fixL 4 (wd18 z p) = (z.drop p).take 4 := by
  have := fix_unf18 ((z.drop p).take 4) (fun t ht => hb t (List.mem_of_mem_drop (List.mem_of_mem_take ht)))
  rw [show ((z.drop p).take 4).length = 4 by rw [List.length_take, List.length_drop]; omega] at this
  exact this
theorem hx18_one {z : List Int} (hb : ∀ t ∈ z, 0 ≤ t ∧ t ≤ 255) (h : hx18 z = 0) : (hr18 z).Ok ∧ sum18 (hd18 (hr18 z)) = z.take (pl18 z 5 4 + 12) ∧ pl18 z 5 4 + 12 ≤ z.length := by
  obtain ⟨hf, hs⟩ := hx18_fact h
  have hlen := hf.2.2
  have j0 := enc_at18 hb (hf.2.1 0 (by omega)).1
  have j1 := enc_at18 hb (hf.2.1 1 (by omega)).1
  have j2 := enc_at18 hb (hf.2.1 2 (by omega)).1
  have j3 := enc_at18 hb (hf.2.1 3 (by omega)).1
  have hP : ∃ P, P = pl18 z 5 4 := ⟨_, rfl⟩
  obtain ⟨P, hP⟩ := hP
  have k0 : z.drop 5 = encI (vl18 z 5 0) ++ z.drop (pl18 z 5 1) := j0
  have k1 : z.drop (pl18 z 5 1) = encI (vl18 z 5 1) ++ z.drop (pl18 z 5 2) := j1
  have k2 : z.drop (pl18 z 5 2) = encI (vl18 z 5 2) ++ z.drop (pl18 z 5 3) := j2
  have k3 : z.drop (pl18 z 5 3) = encI (vl18 z 5 3) ++ z.drop (pl18 z 5 4) := j3
  have hz : z = mag18 ++ (encI (vl18 z 5 0) ++ (encI (vl18 z 5 1) ++ (encI (vl18 z 5 2) ++ (encI (vl18 z 5 3) ++ z.drop P)))) := by
    conv => lhs; rw [← List.take_append_drop 5 z, hf.1.2, k0, k1, k2, k3]
    rw [hP]
  have hzt : z.take P = mag18 ++ encA (hv18 (hr18 z)) := by
    have hl2 : (mag18 ++ encA (hv18 (hr18 z))).length = P := by
      have e1 : (mag18 ++ encA (hv18 (hr18 z))) ++ z.drop P = z := by
        conv => rhs; rw [hz]
        simp [hv18, hr18, hp18, encA]
      have e2 := congrArg List.length e1
      rw [List.length_append, List.length_drop] at e2
      omega
    have e1 : (mag18 ++ encA (hv18 (hr18 z))) ++ z.drop P = z := by
      conv => rhs; rw [hz]
      simp [hv18, hr18, hp18, encA]
    conv => lhs; rw [← e1]
    exact List.take_left' hl2
  have h8 : hd18 (hr18 z) = z.take (P + 8) := by
    unfold hd18
    rw [← hzt, show (hr18 z).so = wd18 z P by rw [hP]; rfl, show (hr18 z).sn = wd18 z (P + 4) by rw [hP]; rfl, fix_wd18 hb (by omega), fix_wd18 hb (by omega)]
    rw [← List.take_add, ← List.take_add]
  refine ⟨hr18_okF hf, ?_, hlen⟩
  unfold sum18
  have hs' : wd18 z (P + 8) = wI (sumW (z.take (P + 8))) := by rw [hP]; exact hs
  rw [h8, ← hs', fix_wd18 hb (by omega), ← List.take_add, hP]
end Go.Proofs.YtalojcpgkgeofabGreatDoor

namespace Go.Proofs.YtalojcpgkgeofabGreatDoor
open Go.RowKit Go.Shelf
set_option linter.unusedVariables false
set_option linter.unusedSimpArgs false

/-! FrameBack. -/
theorem hA18_ok {z : List Int} (h : hx18 z = 0) : hA18 z = hr18 z ∧ nA18 z = ((pl18 z 5 4 + 12 : Nat) : Int) := by
  unfold hA18 nA18
  rw [if_pos h, if_pos h]
  exact ⟨rfl, rfl⟩
theorem hA18_not {z : List Int} (h : ¬ hx18 z = 0) : hA18 z = ⟨0, 0, 0, 0, 0, 0⟩ ∧ nA18 z = 0 := by
  unfold hA18 nA18
  rw [if_neg h, if_neg h]
  exact ⟨rfl, rfl⟩
set_option maxRecDepth 100000 in
set_option maxHeartbeats 16000000 in
theorem frameBack_walk (w : World) (ht : Tab w) (h : Hd18) (hso : 0 ≤ h.so ∧ h.so ≤ 4294967295) (hsn : 0 ≤ h.sn ∧ h.sn ≤ 4294967295)
    (a1 : Option Addr) (z1 : List Int) (c1 : Nat) (s1 : Seg w a1 z1) (hc1 : z1.length ≤ c1) (hn1 : a1 = none → c1 = 0) (hl1 : z1.length ≤ 140737488351232)
    (a2 : Option Addr) (z2 : List Int) (c2 : Nat) (s2 : Seg w a2 z2) (hc2 : z2.length ≤ c2) (hn2 : a2 = none → c2 = 0) (hl2 : z2.length ≤ 140737488351232) :
    Calls Tryz.prog 3 #[.agg #[.int .i64 h.o, .int .i64 h.n, .int .u32 h.so, .int .u32 h.sn, .int .i64 h.wi, .int .i64 h.lo], .slice a1 z1.length c1, .slice a2 z2.length c2] w fun e w' => e = .returned (.bool true) ∧ Below w.heap.size w w' := by
  obtain ⟨i0, hi, hz0, hz1, hz2⟩ := info_parts info_u8g
  obtain ⟨wA, b4, X⟩ := bx18 w h
  have HWA : Hid (w.alloc (.cells #[.int .i64 h.o, .int .i64 h.n, .int .u32 h.so, .int .u32 h.sn, .int .i64 h.wi, .int .i64 h.lo] 24) = wA) := X.wa
  have HB : Hid (w.heap.size = b4) := X.b
  have HBL : Hid (Below w.heap.size w wA) := X.bl
  have HCL : Hid (∀ V, Below wA.heap.size wA V → V.heap[b4]? = some (.cells h.cs 24 (0, 0))) := fun V hV => (hV.block _ (Array.getElem?_eq_some_iff.1 X.q).1).trans X.q
  have HS1 : Hid (∀ V, Below wA.heap.size wA V → Seg V a1 z1) := fun V hV => (s1.old X.bl).old hV
  have HS2 : Hid (∀ V, Below wA.heap.size wA V → Seg V a2 z2) := fun V hV => (s2.old X.bl).old hV
  have HTB : Hid (∀ V, Below wA.heap.size wA V → Tab V) := fun V hV => (ht.old X.bl).old hV
  have HL1 : Hid (z1.length ≤ 140737488351232 ∧ z1.length ≤ c1 ∧ (a1 = none → c1 = 0)) := ⟨hl1, hc1, hn1⟩
  have HL2 : Hid (z2.length ≤ 140737488351232 ∧ z2.length ≤ c2) := ⟨hl2, hc2⟩
  have HM2 : Hid (∀ t ∈ z2, 0 ≤ t ∧ t ≤ 255) := fun t ht => s2.mem t ht
  have HSO : Hid ((0 ≤ h.so ∧ h.so ≤ 4294967295) ∧ (0 ≤ h.sn ∧ h.sn ≤ 4294967295)) := ⟨hso, hsn⟩
  have HPH := phead18 h wA (HTB.out wA (Below.refl _ _)) hso hsn
  obtain ⟨l0, l1, l2, l3, l4, l5⟩ := X.cl (Below.refl _ _)
  rw [← X.wa, ← X.b] at l0 l1 l2 l3 l4 l5
  have HEND : Hid (∀ V, Below wA.heap.size wA V → Below w.heap.size w V) := fun V hV => X.bl.trans (hV.mono X.bl.size)
  clear X ht hso hsn s1 s2 hc1 hn1 hl1 hc2 hn2 hl2
  go_enter Tryz.func3, Tryz.ntmps3
  go_wp2_with fail
  (try rw [HWA.out])
  (try rw [HB.out])
  refine HPH.mono ?_
  rintro e1 w1 ⟨p, c, rfl, ow, b1⟩
  have HB1 : Hid (Below wA.heap.size wA w1) := b1
  have HOW : Hid (w1.ownsRow wA.heap.size 5 1 (.slice p (hh18 h).length c) (hh18 h).length ((hh18 h).map (Value.int .u8))) := ow
  clear ow HPH l0 l1 l2 l3 l4 l5
  by_cases hk : h.Ok
  · have he : he18 h = 0 := by unfold he18; rw [if_pos hk]
    have hh : hh18 h = sum18 (hd18 h) := by unfold hh18; rw [if_pos hk]
    have hbk := hh18_back hk HSO.out.1 HSO.out.2 z1
    rw [← hh] at hbk
    have hll : (hh18 h).length ≤ 100 := by rw [hh, sum18_len, hd18_len]; have := encA_hv18 h; omega
    have hpos : 0 < (hh18 h).length := by rw [hh, sum18_len]; omega
    have hbd : ∀ t ∈ hh18 h, 0 ≤ t ∧ t ≤ (255 : Int) := by rw [hh]; exact sum18_bd (hd18_bd hk)
    rw [he]
    generalize hh18 h = LL at *
    have HBK : Hid (hA18 (LL ++ z1) = h ∧ nA18 (LL ++ z1) = (LL.length : Int) ∧ hx18 (LL ++ z1) = 0) := by
      have e := hA18_ok hbk.1
      exact ⟨by rw [e.1, hbk.2.1], by rw [e.2, hbk.2.2], hbk.1⟩
    have HLL : Hid (LL.length ≤ 100 ∧ 0 < LL.length) := ⟨hll, hpos⟩
    have HBD : Hid (∀ t ∈ LL, 0 ≤ t ∧ t ≤ (255 : Int)) := hbd
    clear hk he hh hbk hll hpos hbd b1
    go_wp2_with fail
    refine (pawk18 w1 (HTB.out w1 HB1.out)).mono ?_
    rintro e2 w2 ⟨rfl, b2⟩
    have HB2 : Hid (Below wA.heap.size wA w2) := HB1.out.trans (b2.mono HB1.out.size)
    obtain ⟨_, a3, c3, hv, sL, _, hcL, _⟩ := own_seg HOW.out (M := 255) (by decide) HBD.out
    cases hv
    have sL2 : Seg w2 p LL := sL.old b2
    have hnp : p = none → c = 0 := fun e => by
      subst e
      obtain ⟨b', o', e, _⟩ := sL.at_ 0 HLL.out.2
      cases e
    clear b2 sL hcL HOW
    go_wp2_with (first
      | (at_builtin; refine wpList_append_seg rfl (.const (.slice none 0 0)) (.tmp 27) 25 rfl w2.heap.size 5 i0 (.int .u8 0) 1 Tryz.underlying25 hi hz0 hz1 hz2 rfl (World.ownsRow_nil _ _ _ _) sL2 hnp rfl rfl (by have := HLL.out; omega) (by have := HLL.out; omega) (Nat.le_refl _) ?_; intro v3 w3 own3 gr3 bl3; rw [List.nil_append, Nat.zero_add] at own3; have HB3 : Hid (Below wA.heap.size wA w3) := HB2.out.trans (bl3.mono HB2.out.size); have s13 := HS1.out w3 HB3.out; have hn13 := HL1.out.2.2; obtain ⟨p3, c3, hv3⟩ := own_sl18 own3; subst hv3)
      | (at_builtin; refine wpList_append_seg rfl (.tmp 28) (.tmp 29) 25 rfl w2.heap.size 5 i0 (.int .u8 0) 1 Tryz.underlying25 hi hz0 hz1 hz2 rfl own3 s13 hn13 rfl rfl (by have := HLL.out; have := HL1.out; omega) (by have := HLL.out; have := HL1.out; omega) bl3.size ?_; intro v5 w5 own5 gr5 bl5; rw [← List.map_append] at own5; obtain ⟨p5, c5, hv5⟩ := own_sl18 own5; subst hv5))
    have HB5 : Hid (Below wA.heap.size wA w5) := HB2.out.trans ((bl3.trans bl5).mono HB2.out.size)
    have hbd5 : ∀ t ∈ LL ++ z1, 0 ≤ t ∧ t ≤ (255 : Int) := by
      intro t ht
      rw [List.mem_append] at ht
      rcases ht with ht | ht
      · exact HBD.out t ht
      · exact s13.mem t ht
    obtain ⟨hlen5, a6, c6, hv, s5, _, hc5, _⟩ := own_seg own5 (M := 255) (by decide) hbd5
    cases hv
    have PR := prh18 p5 c5 (LL ++ z1) w5 (HTB.out w5 HB5.out) s5 (by rw [← hlen5]; have := HLL.out; have := HL1.out; omega) (by rw [← hlen5]; exact hc5)
    rw [← hlen5] at PR
    unfold RhQ18 at PR
    rw [HBK.out.1, HBK.out.2.1, HBK.out.2.2] at PR
    unfold Hd18.cs at PR
    clear own3 own5 gr3 gr5 bl3 bl5 s13 hn13 hbd5 s5 hc5 hlen5 sL2 hnp
    refine PR.mono ?_
    rintro e7 w7 ⟨rfl, b7⟩
    have HB7 : Hid (Below wA.heap.size wA w7) := HB5.out.trans (b7.mono HB5.out.size)
    clear b7 PR
    obtain ⟨w8, b8, Y⟩ := bx18 w7 h
    have HW8 : Hid (w7.alloc (.cells #[.int .i64 h.o, .int .i64 h.n, .int .u32 h.so, .int .u32 h.sn, .int .i64 h.wi, .int .i64 h.lo] 24) = w8) := Y.wa
    have HB8 : Hid (Below wA.heap.size wA w8) := HB7.out.trans (Y.bl.mono HB7.out.size)
    have q8 := HCL.out w8 HB8.out
    have m0 : w8.cell? ⟨b4, 0, none⟩ = some (.int .i64 h.o) := cell18 q8 rfl
    have m1 : w8.cell? ⟨b4, 1, none⟩ = some (.int .i64 h.n) := cell18 q8 rfl
    have m2 : w8.cell? ⟨b4, 2, none⟩ = some (.int .u32 h.so) := cell18 q8 rfl
    have m3 : w8.cell? ⟨b4, 3, none⟩ = some (.int .u32 h.sn) := cell18 q8 rfl
    have m4 : w8.cell? ⟨b4, 4, none⟩ = some (.int .i64 h.wi) := cell18 q8 rfl
    have m5 : w8.cell? ⟨b4, 5, none⟩ = some (.int .i64 h.lo) := cell18 q8 rfl
    rw [← HW8.out] at m0 m1 m2 m3 m4 m5
    clear Y q8
    go_wp2_with fail
    rw [HW8.out]
    clear m0 m1 m2 m3 m4 m5
    by_cases hx : hx18 z2 = 0
    · have hone := hx18_one HM2.out hx
      have hA := hA18_ok hx
      have PR := prh18 a2 c2 z2 w8 (HTB.out w8 HB8.out) (HS2.out w8 HB8.out) (by have := HL2.out; omega) HL2.out.2
      unfold RhQ18 at PR
      rw [hA.1, hA.2, hx] at PR
      have HRO : Hid ((hr18 z2).Ok) := hone.1
      have HHH : Hid (hh18 (hr18 z2) = z2.take (pl18 z2 5 4 + 12)) := by show _ = _; unfold hh18; rw [if_pos hone.1]; exact hone.2.1
      have HHE : Hid (he18 (hr18 z2) = 0) := by show _ = _; unfold he18; rw [if_pos hone.1]
      have HBO : Hid ((0 ≤ (hr18 z2).so ∧ (hr18 z2).so ≤ 4294967295) ∧ (0 ≤ (hr18 z2).sn ∧ (hr18 z2).sn ≤ 4294967295)) := ⟨wd18_bd HM2.out, wd18_bd HM2.out⟩
      have HN : Hid (pl18 z2 5 4 + 12 ≤ z2.length) := hone.2.2
      generalize pl18 z2 5 4 + 12 = n at *
      generalize hr18 z2 = H at *
      unfold Hd18.cs at PR
      refine PR.mono ?_
      rintro e9 u1 ⟨rfl, d1⟩
      have HU1 : Hid (Below wA.heap.size wA u1) := HB8.out.trans (d1.mono HB8.out.size)
      clear PR d1 hA hone hx
      obtain ⟨u2, b9, Z⟩ := bx18 u1 H
      have HU2W : Hid (u1.alloc (.cells #[.int .i64 H.o, .int .i64 H.n, .int .u32 H.so, .int .u32 H.sn, .int .i64 H.wi, .int .i64 H.lo] 24) = u2) := Z.wa
      have HU2 : Hid (Below wA.heap.size wA u2) := HU1.out.trans (Z.bl.mono HU1.out.size)
      have PH := phead18 H u2 (HTB.out u2 HU2.out) HBO.out.1 HBO.out.2
      rw [HHH.out, HHE.out] at PH
      clear Z
      go_wp2_with fail
      rw [HU2W.out]
      refine PH.mono ?_
      rintro e10 u3 ⟨p9, c9, rfl, ow9, d3⟩
      have HU3 : Hid (Below wA.heap.size wA u3) := HU2.out.trans (d3.mono HU2.out.size)
      have hlt : (z2.take n).length = n := by rw [List.length_take]; have := HN.out; omega
      obtain ⟨_, a10, c10, hv, s9, _, _, _⟩ := own_seg ow9 (M := 255) (by decide) (fun t ht => HM2.out t (List.mem_of_mem_take ht))
      cases hv
      have LS := lsame18 p9 a2 (z2.take n) (z2.take n) c9 c2 u3 s9 ((HS2.out u3 HU3.out).take n)
      rw [hlt, show (z2.take n == z2.take n) = true by simp] at LS
      rw [hlt]
      have hni : (n : Int) ≤ (z2.length : Int) := by have := HN.out; omega
      have hnc : (n : Int) ≤ (c2 : Int) := by have := HN.out; have := HL2.out; omega
      clear PH ow9 s9 d3 hlt
      go_wp2_with fail
      refine LS.mono ?_
      rintro e11 u4 ⟨rfl, hu4⟩
      subst u4
      clear LS
      go_wp2
      go_ret
      exact ⟨rfl, HEND.out _ HU3.out⟩
    · have hA := hA18_not hx
      have PR := prh18 a2 c2 z2 w8 (HTB.out w8 HB8.out) (HS2.out w8 HB8.out) (by have := HL2.out; omega) HL2.out.2
      unfold RhQ18 at PR
      rw [hA.1, hA.2] at PR
      unfold Hd18.cs at PR
      have hxb : (hx18 z2 != 0) = true := by simp [hx]
      generalize hx18 z2 = xx at *
      refine PR.mono ?_
      rintro e9 u1 ⟨rfl, d1⟩
      have HU1 : Hid (Below w.heap.size w u1) := HEND.out u1 (HB8.out.trans (d1.mono HB8.out.size))
      obtain ⟨u2, b9, Z⟩ := bx18 u1 ⟨0, 0, 0, 0, 0, 0⟩
      have HU2W : Hid (u1.alloc (.cells #[.int .i64 0, .int .i64 0, .int .u32 0, .int .u32 0, .int .i64 0, .int .i64 0] 24) = u2) := Z.wa
      have HU2 : Hid (Below w.heap.size w u2) := HU1.out.trans (Z.bl.mono HU1.out.size)
      clear PR d1 hA hx Z
      go_wp2
      (try rw [HU2W.out])
      go_ret
      exact ⟨rfl, HU2.out⟩
  · have he : he18 h = 180 := by unfold he18; rw [if_neg hk]
    have hh : hh18 h = [] := by unfold hh18; rw [if_neg hk]
    rw [he, hh]
    clear he hh HOW hk b1
    go_wp2_with fail
    refine (pawk18 w1 (HTB.out w1 HB1.out)).mono ?_
    rintro e2 w2 ⟨rfl, b2⟩
    have HB2 : Hid (Below wA.heap.size wA w2) := HB1.out.trans (b2.mono HB1.out.size)
    clear b2
    go_wp2_with fail
    by_cases hx : hx18 z2 = 0
    · have hone := hx18_one HM2.out hx
      have hA := hA18_ok hx
      have PR := prh18 a2 c2 z2 w2 (HTB.out w2 HB2.out) (HS2.out w2 HB2.out) (by have := HL2.out; omega) HL2.out.2
      unfold RhQ18 at PR
      rw [hA.1, hA.2, hx] at PR
      have HRO : Hid ((hr18 z2).Ok) := hone.1
      have HHH : Hid (hh18 (hr18 z2) = z2.take (pl18 z2 5 4 + 12)) := by show _ = _; unfold hh18; rw [if_pos hone.1]; exact hone.2.1
      have HHE : Hid (he18 (hr18 z2) = 0) := by show _ = _; unfold he18; rw [if_pos hone.1]
      have HBO : Hid ((0 ≤ (hr18 z2).so ∧ (hr18 z2).so ≤ 4294967295) ∧ (0 ≤ (hr18 z2).sn ∧ (hr18 z2).sn ≤ 4294967295)) := ⟨wd18_bd HM2.out, wd18_bd HM2.out⟩
      have HN : Hid (pl18 z2 5 4 + 12 ≤ z2.length) := hone.2.2
      generalize pl18 z2 5 4 + 12 = n at *
      generalize hr18 z2 = H at *
      unfold Hd18.cs at PR
      refine PR.mono ?_
      rintro e9 u1 ⟨rfl, d1⟩
      have HU1 : Hid (Below wA.heap.size wA u1) := HB2.out.trans (d1.mono HB2.out.size)
      clear PR d1 hA hone hx
      obtain ⟨u2, b9, Z⟩ := bx18 u1 H
      have HU2W : Hid (u1.alloc (.cells #[.int .i64 H.o, .int .i64 H.n, .int .u32 H.so, .int .u32 H.sn, .int .i64 H.wi, .int .i64 H.lo] 24) = u2) := Z.wa
      have HU2 : Hid (Below wA.heap.size wA u2) := HU1.out.trans (Z.bl.mono HU1.out.size)
      have PH := phead18 H u2 (HTB.out u2 HU2.out) HBO.out.1 HBO.out.2
      rw [HHH.out, HHE.out] at PH
      clear Z
      go_wp2_with fail
      rw [HU2W.out]
      refine PH.mono ?_
      rintro e10 u3 ⟨p9, c9, rfl, ow9, d3⟩
      have HU3 : Hid (Below wA.heap.size wA u3) := HU2.out.trans (d3.mono HU2.out.size)
      have hlt : (z2.take n).length = n := by rw [List.length_take]; have := HN.out; omega
      obtain ⟨_, a10, c10, hv, s9, _, _, _⟩ := own_seg ow9 (M := 255) (by decide) (fun t ht => HM2.out t (List.mem_of_mem_take ht))
      cases hv
      have LS := lsame18 p9 a2 (z2.take n) (z2.take n) c9 c2 u3 s9 ((HS2.out u3 HU3.out).take n)
      rw [hlt, show (z2.take n == z2.take n) = true by simp] at LS
      rw [hlt]
      have hni : (n : Int) ≤ (z2.length : Int) := by have := HN.out; omega
      have hnc : (n : Int) ≤ (c2 : Int) := by have := HN.out; have := HL2.out; omega
      clear PH ow9 s9 d3 hlt
      go_wp2_with fail
      refine LS.mono ?_
      rintro e11 u4 ⟨rfl, hu4⟩
      subst u4
      clear LS
      go_wp2
      go_ret
      exact ⟨rfl, HEND.out _ HU3.out⟩
    · have hA := hA18_not hx
      have PR := prh18 a2 c2 z2 w2 (HTB.out w2 HB2.out) (HS2.out w2 HB2.out) (by have := HL2.out; omega) HL2.out.2
      unfold RhQ18 at PR
      rw [hA.1, hA.2] at PR
      unfold Hd18.cs at PR
      have hxb : (hx18 z2 != 0) = true := by simp [hx]
      generalize hx18 z2 = xx at *
      refine PR.mono ?_
      rintro e9 u1 ⟨rfl, d1⟩
      have HU1 : Hid (Below w.heap.size w u1) := HEND.out u1 (HB2.out.trans (d1.mono HB2.out.size))
      obtain ⟨u2, b9, Z⟩ := bx18 u1 ⟨0, 0, 0, 0, 0, 0⟩
      have HU2W : Hid (u1.alloc (.cells #[.int .i64 0, .int .i64 0, .int .u32 0, .int .u32 0, .int .i64 0, .int .i64 0] 24) = u2) := Z.wa
      have HU2 : Hid (Below w.heap.size w u2) := HU1.out.trans (Z.bl.mono HU1.out.size)
      clear PR d1 hA hx Z
      go_wp2
      (try rw [HU2W.out])
      go_ret
      exact ⟨rfl, HU2.out⟩
end Go.Proofs.YtalojcpgkgeofabGreatDoor
