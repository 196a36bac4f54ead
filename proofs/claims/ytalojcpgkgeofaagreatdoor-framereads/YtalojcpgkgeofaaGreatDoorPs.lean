import Derived.Test.YtalojcpgkgeofaaGreatDoorPl
import Derived.Test.YtalojcpgkgeofaaGreatDoorPf
import Derived.Test.YtalojcpgkgeofaaGreatDoorPr
import Derived.Test.YtalojcpgkgeofaaGreatDoorPg
import Derived.Laws.BitsLemmas
import Derived.Test.YtalojcpgkgeofaaGreatDoorPi
namespace Go.Proofs.YtalojcpgkgeofaaGreatDoor
open Go.RowKit
set_option linter.unusedVariables false

/-- What was written is taken up, whatever stands behind. -/
theorem dec_enc : ∀ (f c : Nat) (u v : Int) (rest : List Int), c + f = 9 → 0 ≤ v → v < 2 * 128 ^ f → (c = 0 ∨ 0 < v) → decL u c (encL f v ++ rest) = (u + v * 128 ^ c, (c : Int) + ((encL f v).length : Int), 0)
  | 0, c, u, v, rest, hc, h0, h1, h2 => by
    obtain rfl : c = 9 := by omega
    simp at h1
    have hv : 0 < v := by rcases h2 with h | h; · omega
                          · exact h
    obtain rfl : v = 1 := by omega
    simp [encL, decL, tkErr, tkVal]
  | f + 1, c, u, v, rest, hc, h0, h1, h2 => by
    have hp := pow128_pos f
    have h3 : (128 : Int) ^ (f + 1) = 128 ^ f * 128 := Int.pow_succ _ _
    have hc9 : c ≠ 9 := by omega
    by_cases h7 : 127 < v
    · have ih := dec_enc f (c + 1) (tkVal u c (v % 128 + 128)) (v / 128) rest (by omega) (by omega) (by omega) (Or.inr (by omega))
      have ht : tkErr c (v % 128 + 128) = 0 := by
        unfold tkErr
        rw [if_neg (by omega), if_neg (by omega)]
      have e : encL (f + 1) v = (v % 128 + 128) :: encL f (v / 128) := by rw [encL, if_pos h7]
      rw [e, List.cons_append, decL, if_neg (by simp [ht]), if_neg (by omega), ih]
      have e2 : (v % 128 + 128) % 128 = v % 128 := by omega
      have e3 : v / 128 * 128 ^ (c + 1) = (v / 128 * 128) * 128 ^ c := by rw [Int.pow_succ, Int.mul_assoc, Int.mul_comm 128, ← Int.mul_assoc]
      have e4 : v % 128 * 128 ^ c + v / 128 * 128 ^ (c + 1) = v * 128 ^ c := by
        rw [e3, ← Int.add_mul]
        congr 1
        omega
      have e5 : tkVal u c (v % 128 + 128) + v / 128 * 128 ^ (c + 1) = u + v * 128 ^ c := by
        unfold tkVal
        rw [e2, Int.add_assoc, e4]
      rw [e5]
      simp only [List.length_cons, Prod.mk.injEq, true_and, and_true]
      omega
    · have e : encL (f + 1) v = [v] := by rw [encL, if_neg h7]
      have ht : tkErr c v = 0 := by
        unfold tkErr
        rw [if_neg (by omega), if_neg (by omega)]
      rw [e, List.singleton_append, decL, if_neg (by simp [ht]), if_pos (by omega)]
      have e2 : v % 128 = v := by omega
      simp [tkVal, e2]
theorem dec_encI (v : Int) (rest : List Int) (h0 : 0 ≤ v) (h1 : v ≤ 18446744073709551615) : decL 0 0 (encI v ++ rest) = (v, ((encI v).length : Int), 0) := by
  have := dec_enc 9 0 0 v rest rfl h0 (by rw [pow9]; omega) (Or.inl rfl)
  simp at this
  exact this

theorem encA_drop (zs : List Int) (k : Nat) (h : k < zs.length) (rest : List Int) : (encA zs ++ rest).drop (encA (zs.take k)).length = encI (zs.getD k 0) ++ (encA (zs.drop (k + 1)) ++ rest) := by
  have e : zs = zs.take k ++ (zs.getD k 0 :: zs.drop (k + 1)) := by rw [← drop_cons h, List.take_append_drop]
  have e2 : encA zs = encA (zs.take k) ++ (encI (zs.getD k 0) ++ encA (zs.drop (k + 1))) := by
    conv => lhs; rw [e]
    rw [encA_append]; rfl
  rw [e2, List.append_assoc, List.drop_left, List.append_assoc]
theorem encA_take_lt (zs : List Int) (k : Nat) (h : k < zs.length) : (encA (zs.take k)).length + (encI (zs.getD k 0)).length ≤ (encA zs).length := by
  have := congrArg List.length (encA_drop zs k h [])
  simp only [List.length_drop, List.length_append, List.append_nil] at this
  have := (encI_len (zs.getD k 0)).1
  omega
end Go.Proofs.YtalojcpgkgeofaaGreatDoor

namespace Go.Proofs.YtalojcpgkgeofaaGreatDoor
open Go.RowKit
set_option linter.unusedVariables false

/-- What is taken is just what is written. -/
theorem dec_ok : ∀ (zs : List Int) (c : Nat) (u w n : Int), c ≤ 9 → 0 ≤ u → u < 128 ^ c → (∀ z ∈ zs, 0 ≤ z ∧ z ≤ 255) → decL u c zs = (w, n, 0) →
    ∃ (m : Nat) (v : Int), 1 ≤ m ∧ m ≤ zs.length ∧ n = (c : Int) + (m : Int) ∧ 0 ≤ v ∧ v < 2 * 128 ^ (9 - c) ∧ w = u + v * 128 ^ c ∧ zs.take m = encL (9 - c) v ∧ (0 < c → 0 < v)
  | [], c, u, w, n, _, _, _, _, h => by simp [decL] at h
  | x :: r, c, u, w, n, hc, hu0, hu1, hz, h => by
    have hx := hz x (by simp)
    have hp := pow128_pos c
    rw [decL] at h
    by_cases he : tkErr c x = 0
    · rw [if_neg (by simp [he])] at h
      have h9 := tkErr_nine he
      have hne : 0 < c → x ≠ 0 := by
        intro h1 h2
        subst h2
        unfold tkErr at he
        split at he
        · cases he
        · rw [if_pos ⟨h1, rfl⟩] at he; cases he
      by_cases h7 : x < 128
      · rw [if_pos h7] at h
        simp only [Prod.mk.injEq, and_true] at h
        obtain ⟨rfl, rfl⟩ := h
        have e2 : x % 128 = x := by omega
        have hp9 := pow128_pos (9 - c)
        refine ⟨1, x, by omega, by simp, by omega, hx.1, ?_, by unfold tkVal; rw [e2], ?_, fun h1 => by have := hne h1; omega⟩
        · by_cases e : c = 9
          · subst e; have := h9 rfl; simp; omega
          · have h1 : (128 : Int) ^ 1 ≤ 128 ^ (9 - c) := pow128_mono (by omega)
            simp at h1
            omega
        · cases 9 - c with
          | zero => simp [encL]
          | succ f => rw [encL, if_neg (by omega)]; simp
      · rw [if_neg h7] at h
        have hc8 := tk_more_le hc he (by omega)
        have hbd := tkVal_bd u c x hu0 hu1 hx.1
        obtain ⟨m, v, h1, h2, h3, h4, h5, h6, h8, h10⟩ := dec_ok r (c + 1) (tkVal u c x) w n (by omega) hbd.1 hbd.2 (fun z hz' => hz z (by simp [hz'])) h
        have hv := h10 (by omega)
        obtain ⟨f, hf⟩ : ∃ f, 9 - c = f + 1 := ⟨9 - c - 1, by omega⟩
        have hf2 : 9 - (c + 1) = f := by omega
        rw [hf2] at h5 h8
        have e3 : (128 : Int) ^ (f + 1) = 128 ^ f * 128 := Int.pow_succ _ _
        have hpf := pow128_pos f
        have d1 : (x % 128 + v * 128) / 128 = v := by omega
        have d2 : (x % 128 + v * 128) % 128 + 128 = x := by omega
        refine ⟨m + 1, x % 128 + v * 128, by omega, by simp; omega, by omega, by omega, by rw [hf, e3]; omega, ?_, ?_, fun _ => by omega⟩
        · rw [h6]
          unfold tkVal
          rw [Int.add_mul, Int.pow_succ, Int.add_assoc, Int.mul_assoc, Int.mul_comm 128]
        · rw [hf, encL, if_pos (by omega), d1, d2, List.take_succ_cons, h8]
    · rw [if_pos (by simp [he])] at h
      simp at h
      exact absurd h.2.2 he

theorem decI_ok (zs : List Int) (w n : Int) (hz : ∀ z ∈ zs, 0 ≤ z ∧ z ≤ 255) (h : decL 0 0 zs = (w, n, 0)) : ∃ m : Nat, 1 ≤ m ∧ m ≤ zs.length ∧ n = (m : Int) ∧ 0 ≤ w ∧ w ≤ 18446744073709551615 ∧ zs.take m = encI w := by
  obtain ⟨m, v, h1, h2, h3, h4, h5, h6, h7, _⟩ := dec_ok zs 0 0 w n (by omega) (by omega) (by decide) hz h
  have := pow9
  simp only [Nat.sub_zero, Int.pow_zero, Int.mul_one, Int.zero_add] at h5 h6 h7
  subst h6
  exact ⟨m, h1, h2, by omega, h4, by omega, h7⟩

theorem dec_bad : ∀ (zs : List Int) (c : Nat) (u : Int), (decL u c zs).2.2 ≠ 0 → (decL u c zs).1 = 0 ∧ (decL u c zs).2.1 = 0
  | [], c, u, h => by simp [decL]
  | x :: r, c, u, h => by
    rw [decL] at h ⊢
    by_cases he : tkErr c x = 0
    · rw [if_neg (by simp [he])] at h ⊢
      by_cases h7 : x < 128
      · rw [if_pos h7] at h; simp at h
      · rw [if_neg h7] at h ⊢; exact dec_bad r _ _ h
    · rw [if_pos (by simp [he])]; simp

/-- No number's form begins another one's. -/
theorem enc_prefix (u v : Int) (hu0 : 0 ≤ u) (hu1 : u ≤ 18446744073709551615) (hv0 : 0 ≤ v) (hv1 : v ≤ 18446744073709551615) (h : encI u = (encI v).take (encI u).length) : u = v := by
  have h1 := dec_encI v [] hv0 hv1
  have h2 := dec_encI u ((encI v).drop (encI u).length) hu0 hu1
  have e : encI u ++ (encI v).drop (encI u).length = encI v := by
    conv => lhs; arg 1; rw [h]
    exact List.take_append_drop _ _
  rw [e] at h2
  rw [List.append_nil] at h1
  rw [h1] at h2
  simp at h2
  exact h2.1.symm
end Go.Proofs.YtalojcpgkgeofaaGreatDoor

namespace Go.Proofs.YtalojcpgkgeofaaGreatDoor
open Go.RowKit Go.Shelf
set_option linter.unusedVariables false

/-! A header there and back. -/
theorem unf_fix4 {v : Int} (h0 : 0 ≤ v) (h1 : v ≤ 4294967295) : unfL (fixL 4 v) = v := unf_fix 4 v (by rw [show (2 : Int) ^ (8 * 4) = 4294967296 by decide]; omega)
theorem fix_unf18 : ∀ (z : List Int), (∀ t ∈ z, 0 ≤ t ∧ t ≤ 255) → fixL z.length (unfL z) = z
  | [], _ => rfl
  | x :: r, h => by
    have hx := h x (by simp)
    have ih := fix_unf18 r (fun t ht => h t (by simp [ht]))
    simp only [List.length_cons, fixL, unfL]
    rw [show (x + 256 * unfL r) % 256 = x by omega, show (x + 256 * unfL r) / 256 = unfL r by omega, ih]
theorem dec_at18 {z A R : List Int} {p : Nat} {v : Int} (hz : z = A ++ (encI v ++ R)) (hp : p = A.length) (h0 : 0 ≤ v) (h1 : v ≤ 16777216) : decL 0 0 (z.drop p) = (v, ((encI v).length : Int), 0) := by
  rw [hz, hp, List.drop_left, dec_encI v R h0 (by omega)]
theorem wd_at18 {z A R : List Int} {p : Nat} {v : Int} (hz : z = A ++ (fixL 4 v ++ R)) (hp : p = A.length) (h0 : 0 ≤ v) (h1 : v ≤ 4294967295) : wd18 z p = v := by
  unfold wd18
  rw [hz, hp, List.drop_left, List.take_left' (fixL_len 4 v), unf_fix4 h0 h1]
theorem hh18_back {h : Hd18} (hk : h.Ok) (hso : 0 ≤ h.so ∧ h.so ≤ 4294967295) (hsn : 0 ≤ h.sn ∧ h.sn ≤ 4294967295) (r : List Int) : hx18 (sum18 (hd18 h) ++ r) = 0 ∧ hr18 (sum18 (hd18 h) ++ r) = h ∧ pl18 (sum18 (hd18 h) ++ r) 5 4 + 12 = (sum18 (hd18 h)).length := by
  obtain ⟨z, hz⟩ : ∃ z, z = sum18 (hd18 h) ++ r := ⟨_, rfl⟩
  have hsb := wI_bd18 (sumW (hd18 h))
  obtain ⟨⟨o0, o1⟩, ⟨n0, n1⟩, ⟨w0, w1⟩, l0, l1⟩ := hk
  rw [← hz]
  have e0 : z = mag18 ++ (encI h.o ++ (encI h.n ++ (encI h.wi ++ (encI h.lo ++ (fixL 4 h.so ++ (fixL 4 h.sn ++ (fixL 4 (wI (sumW (hd18 h))) ++ r))))))) := by rw [hz]; simp [sum18, hd18, hv18, encA]
  have e1 : z = (mag18 ++ encI h.o) ++ (encI h.n ++ (encI h.wi ++ (encI h.lo ++ (fixL 4 h.so ++ (fixL 4 h.sn ++ (fixL 4 (wI (sumW (hd18 h))) ++ r)))))) := by rw [e0]; simp
  have e2 : z = (mag18 ++ (encI h.o ++ encI h.n)) ++ (encI h.wi ++ (encI h.lo ++ (fixL 4 h.so ++ (fixL 4 h.sn ++ (fixL 4 (wI (sumW (hd18 h))) ++ r))))) := by rw [e0]; simp
  have e3 : z = (mag18 ++ (encI h.o ++ (encI h.n ++ encI h.wi))) ++ (encI h.lo ++ (fixL 4 h.so ++ (fixL 4 h.sn ++ (fixL 4 (wI (sumW (hd18 h))) ++ r)))) := by rw [e0]; simp
  have e4 : z = (mag18 ++ (encI h.o ++ (encI h.n ++ (encI h.wi ++ encI h.lo)))) ++ (fixL 4 h.so ++ (fixL 4 h.sn ++ (fixL 4 (wI (sumW (hd18 h))) ++ r))) := by rw [e0]; simp
  have e5 : z = (mag18 ++ (encI h.o ++ (encI h.n ++ (encI h.wi ++ (encI h.lo ++ fixL 4 h.so))))) ++ (fixL 4 h.sn ++ (fixL 4 (wI (sumW (hd18 h))) ++ r)) := by rw [e0]; simp
  have e6 : z = hd18 h ++ (fixL 4 (wI (sumW (hd18 h))) ++ r) := by rw [hz]; simp [sum18]
  have hL : (hd18 h).length = 5 + (encI h.o).length + (encI h.n).length + (encI h.wi).length + (encI h.lo).length + 8 := by simp [hd18, hv18, encA, fixL_len, mag18]; omega
  have m5 : mag18.length = 5 := rfl
  have d0 := dec_at18 e0 (p := 5) rfl o0 o1
  have p1 : pl18 z 5 1 = 5 + (encI h.o).length := by simp only [pl18]; rw [d0]; simp
  have d1 := dec_at18 e1 (p := 5 + (encI h.o).length) (by simp [mag18]; omega) n0 n1
  have p2 : pl18 z 5 2 = 5 + (encI h.o).length + (encI h.n).length := by rw [show pl18 z 5 2 = pl18 z 5 1 + (decL 0 0 (z.drop (pl18 z 5 1))).2.1.toNat from rfl, p1, d1]; simp
  have d2 := dec_at18 e2 (p := 5 + (encI h.o).length + (encI h.n).length) (by simp [mag18]; omega) (v := h.wi) (by omega) (by omega)
  have p3 : pl18 z 5 3 = 5 + (encI h.o).length + (encI h.n).length + (encI h.wi).length := by rw [show pl18 z 5 3 = pl18 z 5 2 + (decL 0 0 (z.drop (pl18 z 5 2))).2.1.toNat from rfl, p2, d2]; simp
  have d3 := dec_at18 e3 (p := 5 + (encI h.o).length + (encI h.n).length + (encI h.wi).length) (by simp [mag18]; omega) (v := h.lo) (by omega) (by omega)
  have p4 : pl18 z 5 4 = 5 + (encI h.o).length + (encI h.n).length + (encI h.wi).length + (encI h.lo).length := by rw [show pl18 z 5 4 = pl18 z 5 3 + (decL 0 0 (z.drop (pl18 z 5 3))).2.1.toNat from rfl, p3, d3]; simp
  have q0 : wd18 z (pl18 z 5 4) = h.so := wd_at18 e4 (by rw [p4]; simp [mag18]; omega) hso.1 hso.2
  have q1 : wd18 z (pl18 z 5 4 + 4) = h.sn := wd_at18 e5 (by rw [p4]; simp [mag18, fixL_len]; omega) hsn.1 hsn.2
  have q2 : wd18 z (pl18 z 5 4 + 8) = wI (sumW (hd18 h)) := wd_at18 e6 (by rw [p4, hL]) hsb.1 hsb.2
  have q3 : z.take (pl18 z 5 4 + 8) = hd18 h := by rw [e6, List.take_left' (by rw [← e6, p4, hL])]
  have v0 : vl18 z 5 0 = h.o := by unfold vl18; rw [show pl18 z 5 0 = 5 from rfl, d0]
  have v1 : vl18 z 5 1 = h.n := by unfold vl18; rw [p1, d1]
  have v2 : vl18 z 5 2 = h.wi := by unfold vl18; rw [p2, d2]
  have v3 : vl18 z 5 3 = h.lo := by unfold vl18; rw [p3, d3]
  have hf : Hf18 z := by
    refine ⟨⟨?_, ?_⟩, fun j hj => ?_, ?_⟩
    · rw [e0]; simp [mag18]
    · rw [e0]; exact List.take_left' rfl
    · unfold No18
      rcases (by omega : j = 0 ∨ j = 1 ∨ j = 2 ∨ j = 3) with rfl | rfl | rfl | rfl
      · rw [show pl18 z 5 0 = 5 from rfl, d0]; exact ⟨rfl, o0, o1⟩
      · rw [p1, d1]; exact ⟨rfl, n0, n1⟩
      · rw [p2, d2]; exact ⟨rfl, w0, w1⟩
      · rw [p3, d3]; exact ⟨rfl, l0, l1⟩
    · rw [hz, ← hz, p4]
      rw [show z.length = (sum18 (hd18 h)).length + r.length by rw [hz]; simp, sum18_len, hL]
      omega
  refine ⟨hx18_ok hf ?_, ?_, ?_⟩
  · unfold Su18
    rw [q2, q3]
  · unfold hr18 hp18
    rw [q0, q1, v0, v1, v2, v3]
    rfl
  · rw [p4, sum18_len, hL]
theorem tri18 {x : Int × Int × Int} (h : x.2.2 = 0) : x = (x.1, x.2.1, 0) := by rw [← h]
theorem enc_at18 {z : List Int} {p : Nat} (hb : ∀ t ∈ z, 0 ≤ t ∧ t ≤ 255) (h : (decL 0 0 (z.drop p)).2.2 = 0) : z.drop p = encI (decL 0 0 (z.drop p)).1 ++ z.drop (p + (decL 0 0 (z.drop p)).2.1.toNat) := by
  obtain ⟨m, m1, m2, e, _, _, ht⟩ := decI_ok (z.drop p) (decL 0 0 (z.drop p)).1 (decL 0 0 (z.drop p)).2.1 (fun t ht => hb t (List.mem_of_mem_drop ht)) (tri18 h)
  rw [e, show ((m : Int)).toNat = m by omega, ← ht, ← List.drop_drop, List.take_append_drop]
theorem hx18_fact {z : List Int} (h : hx18 z = 0) : Hf18 z ∧ Su18 z (pl18 z 5 4 + 8) := by
  by_cases hf : Hf18 z
  · by_cases hs : Su18 z (pl18 z 5 4 + 8)
    · exact ⟨hf, hs⟩
    · rw [hx18_bad hf hs] at h; exact absurd h (by decide)
  · rw [hx18_no hf] at h; exact absurd h (by decide)
theorem hr18_okF {z : List Int} (hf : Hf18 z) : (hr18 z).Ok := by
  have j0 := hf.2.1 0 (by omega)
  have j1 := hf.2.1 1 (by omega)
  have j2 := hf.2.1 2 (by omega)
  have j3 := hf.2.1 3 (by omega)
  exact ⟨j0.2, j1.2, j2.2, j3.2⟩
theorem fix_wd18 {z : List Int} {p : Nat} (hb : ∀ t ∈ z, 0 ≤ t ∧ t ≤ 255) (h : p + 4 ≤ z.length) : fixL 4 (wd18 z p) = (z.drop p).take 4 := by
  have := fix_unf18 ((z.drop p).take 4) (fun t ht => hb t (List.mem_of_mem_drop (List.mem_of_mem_take ht)))
  rw [show ((z.drop p).take 4).length = 4 by rw [List.length_take, List.length_drop]; omega] at this
  exact this
theorem hx18_one {z : List Int} (hb : ∀ t ∈ z, 0 ≤ t ∧ t ≤ 255) (h : hx18 z = 0) : (hr18 z).Ok ∧ sum18 (hd18 (hr18 z)) = z.take (pl18 z 5 4 + 12) ∧ pl18 z 5 4 + 12 ≤ z.length := by
  obtain ⟨hf, hs⟩ := hx18_fact h
  have hlen := hf.2.2
  have j0 := enc_at18 hb (hf.2.1 0 (by omega)).1
  have j1 := enc_at18 hb (hf.2.1 1 (by omega)).1
  have j2 := enc_at18 hb (hf.2.1 2 (by omega)).1
  have j3 := enc_at18 hb (hf.2.1 3 (by omega)).1
  have hP : ∃ P, P = pl18 z 5 4 := ⟨_, rfl⟩
  obtain ⟨P, hP⟩ := hP
  have k0 : z.drop 5 = encI (vl18 z 5 0) ++ z.drop (pl18 z 5 1) := j0
  have k1 : z.drop (pl18 z 5 1) = encI (vl18 z 5 1) ++ z.drop (pl18 z 5 2) := j1
  have k2 : z.drop (pl18 z 5 2) = encI (vl18 z 5 2) ++ z.drop (pl18 z 5 3) := j2
  have k3 : z.drop (pl18 z 5 3) = encI (vl18 z 5 3) ++ z.drop (pl18 z 5 4) := j3
  have hz : z = mag18 ++ (encI (vl18 z 5 0) ++ (encI (vl18 z 5 1) ++ (encI (vl18 z 5 2) ++ (encI (vl18 z 5 3) ++ z.drop P)))) := by
    conv => lhs; rw [← List.take_append_drop 5 z, hf.1.2, k0, k1, k2, k3]
    rw [hP]
  have hzt : z.take P = mag18 ++ encA (hv18 (hr18 z)) := by
    have hl2 : (mag18 ++ encA (hv18 (hr18 z))).length = P := by
      have e1 : (mag18 ++ encA (hv18 (hr18 z))) ++ z.drop P = z := by
        conv => rhs; rw [hz]
        simp [hv18, hr18, hp18, encA]
      have e2 := congrArg List.length e1
      rw [List.length_append, List.length_drop] at e2
      omega
    have e1 : (mag18 ++ encA (hv18 (hr18 z))) ++ z.drop P = z := by
      conv => rhs; rw [hz]
      simp [hv18, hr18, hp18, encA]
    conv => lhs; rw [← e1]
    exact List.take_left' hl2
  have h8 : hd18 (hr18 z) = z.take (P + 8) := by
    unfold hd18
    rw [← hzt, show (hr18 z).so = wd18 z P by rw [hP]; rfl, show (hr18 z).sn = wd18 z (P + 4) by rw [hP]; rfl, fix_wd18 hb (by omega), fix_wd18 hb (by omega)]
    rw [← List.take_add, ← List.take_add]
  refine ⟨hr18_okF hf, ?_, hlen⟩
  unfold sum18
  have hs' : wd18 z (P + 8) = wI (sumW (z.take (P + 8))) := by rw [hP]; exact hs
  rw [h8, ← hs', fix_wd18 hb (by omega), ← List.take_add, hP]
end Go.Proofs.YtalojcpgkgeofaaGreatDoor

namespace Go.Proofs.YtalojcpgkgeofaaGreatDoor
open Go.RowKit
set_option linter.unusedVariables false
set_option linter.unusedSimpArgs false

theorem i64_and1 (n : Int) : bits .and .i64 n 1 = n % 2 := by
  have h1 : (BitVec.ofInt 64 1).toNat = 2 ^ 1 - 1 := by decide
  have key : (BitVec.ofInt 64 n &&& BitVec.ofInt 64 1).toNat = (n % ((2 ^ 64 : Nat) : Int)).toNat % 2 ^ 1 := by
    rw [BitVec.toNat_and, BitVec.toNat_ofInt, h1, Nat.and_two_pow_sub_one_eq_mod]
  show IntKind.i64.wrap ((BitVec.ofInt 64 n &&& BitVec.ofInt 64 1).toNat : Nat) = n % 2
  rw [key, IntKind.wrap_i64]
  omega
theorem byte_on : (8388608 : Int) = wI (onN 8 oneW) := by decide
theorem sq (e : Nat) : act (onN e oneW) (onN e oneW) = onN (2 * e) oneW := by
  rw [act_pow', ← onN_add]
  congr 1
  omega

end Go.Proofs.YtalojcpgkgeofaaGreatDoor

namespace Go.Proofs.YtalojcpgkgeofaaGreatDoor
open Go.RowKit
set_option linter.unusedVariables false
set_option linter.unusedSimpArgs false

theorem wI_low (a : W32) : bits .and .u32 (wI a) 1 = wI (a &&& 1#32) := wI_and a 1#32
theorem wI_eq (a b : W32) : (wI a == wI b) = (a == b) := by
  rw [Bool.eq_iff_iff, beq_iff_eq, beq_iff_eq]
  exact ⟨wI_inj, fun h => by rw [h]⟩
theorem wI_low1 (a : W32) : (bits .and .u32 (wI a) 1 == 1) = a.getLsbD 0 := by
  rw [wI_low, show (1 : Int) = wI 1#32 from rfl, wI_eq]
  have h := and_two a 0 (by decide)
  rw [show BitVec.twoPow 32 0 = 1#32 from rfl] at h
  rw [← h]
  have e : (a &&& 1#32) = BitVec.ofNat 32 (a.toNat % 2) := by
    apply BitVec.eq_of_toNat_eq
    have : a.toNat &&& 1 = a.toNat % 2 := Nat.and_two_pow_sub_one_eq_mod _ 1
    simp [this]
    omega
  rw [e]
  rcases Nat.mod_two_eq_zero_or_one a.toNat with h | h <;> rw [h] <;> decide

set_option maxRecDepth 100000 in
/-- The register behind one more bit. -/
theorem step_any (a c : W32) (w : World) (hc : c = 0#32 ∨ c = 1#32) : Calls Tryz.prog 91 #[.int .u32 (wI a), .int .u32 (wI c)] w fun e w' => e = .returned (.int .u32 (wI (on (a ^^^ c)))) ∧ w' = w := by
  have b := wI_bd a
  have hx := wI_xor a c
  have hl := wI_low1 (a ^^^ c)
  have h2 : wI a / (2 : Int) = wI ((a ^^^ c) >>> 1) := by
    rw [wI_half, BitVec.ushiftRight_xor_distrib]
    congr 1
    rcases hc with rfl | rfl
    · simp
    · simp
  cases h : (a ^^^ c).getLsbD 0
  · have HL : Hid (wI a / 2 = wI (on (a ^^^ c))) := by
      show _ = _
      rw [h2]; unfold on; rw [h]; simp
    rw [h] at hl
    rw [← hx] at hl
    clear h h2 hx
    go_enter Tryz.func91, Tryz.ntmps91
    go_wp2
    go_ret
    exact ⟨ret_u32 HL.out, rfl⟩
  · have HL : Hid (bits .xor .u32 (wI a / 2) 3988292384 = wI (on (a ^^^ c))) := by
      show _ = _
      rw [h2, show (3988292384 : Int) = wI genW from rfl, wI_xor]; unfold on; rw [h, if_pos rfl]
    rw [h] at hl
    rw [← hx] at hl
    clear h h2 hx
    go_enter Tryz.func91, Tryz.ntmps91
    go_wp2
    go_ret
    exact ⟨ret_u32 HL.out, rfl⟩
theorem step0_any (a : W32) (w : World) : Calls Tryz.prog 91 #[.int .u32 (wI a), .int .u32 0] w fun e w' => e = .returned (.int .u32 (wI (on a))) ∧ w' = w := by
  have := step_any a 0#32 w (Or.inl rfl)
  rw [BitVec.xor_zero, wI_zero] at this
  exact this

theorem wI_shrbit (a : W32) (i : Nat) : (bits .and .u32 (wI a / 2 ^ i) 1 == 1) = a.getLsbD i := by
  rw [wI_shr, wI_low1]
  simp

theorem one_one : (2147483648 : Int) = wI (onN 0 oneW) := by decide

end Go.Proofs.YtalojcpgkgeofaaGreatDoor

namespace Go.Proofs.YtalojcpgkgeofaaGreatDoor
open Go.RowKit
set_option linter.unusedVariables false
set_option linter.unusedSimpArgs false

/-- The low bits of a byte. -/
def lowW (x : Int) (k : Nat) : W32 := BitVec.ofNat 32 (x.toNat % 2 ^ k)
def bitW (x : Int) (k : Nat) : W32 := BitVec.ofNat 32 (x.toNat / 2 ^ k % 2)
theorem low_next0 : ∀ (x : Fin 256) (k : Fin 8), BitVec.ofNat 32 (x.val % 2 ^ (k.val + 1)) = BitVec.ofNat 32 (x.val % 2 ^ k.val) ^^^ (BitVec.ofNat 32 (x.val / 2 ^ k.val % 2) <<< k.val) := by decide +kernel
theorem low_next (x : Int) (h0 : 0 ≤ x) (h1 : x ≤ 255) (k : Nat) (hk : k < 8) : lowW x (k + 1) = lowW x k ^^^ (bitW x k <<< k) :=
  low_next0 ⟨x.toNat, by omega⟩ ⟨k, hk⟩
theorem low_step (r : W32) (x : Int) (h0 : 0 ≤ x) (h1 : x ≤ 255) (k : Nat) (hk : k < 8) : on (onN k (r ^^^ lowW x k) ^^^ bitW x k) = onN (k + 1) (r ^^^ lowW x (k + 1)) := by
  have e : bitW x k = onN k (bitW x k <<< k) := by
    refine (onN_shl k _ ?_ (by omega)).symm
    have h2 : (bitW x k).toNat < 2 := by
      unfold bitW
      have := Nat.mod_lt (x.toNat / 2 ^ k) (show 0 < 2 by decide)
      simp
      omega
    have h3 : 2 ^ 1 ≤ 2 ^ (32 - k) := Nat.pow_le_pow_right (by decide) (by omega)
    exact Nat.lt_of_lt_of_le h2 h3
  conv => lhs; rw [e]
  rw [← onN_xor, BitVec.xor_assoc, ← low_next x h0 h1 k hk]
  rfl
theorem bit_or (x : Int) (k : Nat) : bitW x k = 0#32 ∨ bitW x k = 1#32 := by
  unfold bitW
  rcases Nat.mod_two_eq_zero_or_one (x.toNat / 2 ^ k) with h | h <;> rw [h]
  · exact Or.inl rfl
  · exact Or.inr rfl
theorem bit_is (x : Int) (h0 : 0 ≤ x) (h1 : x ≤ 255) (k : Nat) : bits .and .u32 (x / 2 ^ k % 4294967296) 1 = wI (bitW x k) := by
  obtain ⟨n, rfl⟩ := Int.eq_ofNat_of_zero_le h0
  have hd : n / 2 ^ k ≤ n := Nat.div_le_self _ _
  have e1 : ((n : Int) / 2 ^ k) = wI (BitVec.ofNat 32 (n / 2 ^ k)) := by
    unfold wI
    rw [BitVec.toNat_ofNat, Nat.mod_eq_of_lt (by omega)]
    simp
  have e0 : (n : Int) / 2 ^ k % 4294967296 = (n : Int) / 2 ^ k := by
    have := wI_bd (BitVec.ofNat 32 (n / 2 ^ k))
    rw [← e1] at this
    exact Int.emod_eq_of_lt this.1 this.2
  rw [e0, e1, wI_low]
  congr 1
  apply BitVec.eq_of_toNat_eq
  unfold bitW
  rw [BitVec.toNat_and, BitVec.toNat_ofNat, BitVec.toNat_ofNat, Nat.mod_eq_of_lt (a := n / 2 ^ k) (by omega)]
  have : n / 2 ^ k &&& 1 = n / 2 ^ k % 2 := Nat.and_two_pow_sub_one_eq_mod _ 1
  simp [this]
  omega

set_option maxRecDepth 100000 in
set_option maxHeartbeats 1000000 in
theorem run_any (r : W32) (a : Option Addr) (zs : List Int) (cap : Nat) (w : World) (hs : Seg w a zs) (hl : zs.length ≤ 9223372036854775807) :
    Calls Tryz.prog 61 #[.int .u32 (wI r), .slice a zs.length cap] w fun e w' => e = .returned (.int .u32 (wI (runW r zs))) ∧ w' = w := by
  go_enter Tryz.func61, Tryz.ntmps61
  go_wp2
  go_loopw [0, 5] (fun tr ti wr => ∃ k : Nat, k ≤ zs.length ∧ tr = .int .u32 (wI (runW r (zs.take k))) ∧ ti = .int .i64 k ∧ wr = w) (fun _ ti _ => zs.length - (intOf ti).toNat)
  case atStart => exact ⟨0, Nat.zero_le _, by simp [runW], rfl, rfl⟩
  case round =>
    obtain ⟨k, hk, rfl, rfl, rfl⟩ := hrel
    by_cases hlt : k < zs.length
    · have hlti : (k : Int) < (zs.length : Int) := by omega
      obtain ⟨b, off, rfl, hc⟩ := hs.at_ k hlt
      have hbd := hs.bd k
      have HT : Hid (runW r (zs.take (k + 1)) = takeW (runW r (zs.take k)) (zs.getD k 0)) := by
        show _ = _
        rw [take_snoc hlt, runW_snoc]
      generalize zs.getD k 0 = z at *
      generalize runW r (zs.take k) = q at *
      go_wp2
      go_loopw [0, 6] (fun tr ti w2 => ∃ j : Nat, j ≤ 8 ∧ tr = .int .u32 (wI (onN j (q ^^^ lowW z j))) ∧ ti = .int .i64 j ∧ w2 = wr) (fun _ ti _ => 8 - (intOf ti).toNat)
      case atStart => exact ⟨0, by decide, by simp [lowW, onN, Nat.mod_one], rfl, rfl⟩
      case round =>
        obtain ⟨j, hj, rfl, rfl, rfl⟩ := hrel
        by_cases hj8 : j < 8
        · have hj8' : (j : Int) < 8 := by omega
          have hb := bit_is z hbd.1 hbd.2 j
          have HS : Hid (on (onN j (q ^^^ lowW z j) ^^^ bitW z j) = onN (j + 1) (q ^^^ lowW z (j + 1))) := low_step q z hbd.1 hbd.2 j hj8
          have ho := bit_or z j
          go_wp2_with (go_at_call 91; refine (step_any _ _ _ ho).mono ?_; rintro e w' ⟨rfl, hw'⟩; subst w')
          go_roundw
          case rel => exact ⟨j + 1, by omega, by rw [HS.out], by go_num, trivial⟩
          case measure => simp [intOf]; omega
        · obtain rfl : j = 8 := by omega
          clear hj8
          have H8 : Hid (onN 8 (q ^^^ lowW z 8) = takeW q z) := by
            show _ = _
            unfold takeW lowW bW
            rw [Nat.mod_eq_of_lt (by omega)]
          go_wp2
          go_roundw
          case rel => exact ⟨k + 1, by omega, by rw [HT.out, H8.out], by go_num, trivial⟩
          case measure => simp [intOf]; omega
    · obtain rfl : k = zs.length := by omega
      have e1 : zs.take zs.length = zs := List.take_of_length_le (Nat.le_refl _)
      rw [e1]
      clear hlt e1
      go_wp2
      go_ret
      exact ⟨rfl, rfl⟩
end Go.Proofs.YtalojcpgkgeofaaGreatDoor

namespace Go.Proofs.YtalojcpgkgeofaaGreatDoor
open Go.RowKit
set_option linter.unusedVariables false
set_option linter.unusedSimpArgs false
set_option maxRecDepth 100000 in
set_option maxHeartbeats 400000 in
theorem rsum_any (a : Option Addr) (ps : List Part) (cap : Nat) (w : World) (hs : Parts w a ps) (hl : ps.length ≤ 9223372036854775807) :
    Calls Tryz.prog 46 #[.slice a ps.length cap] w fun e w' => e = .returned (.int .u32 (wI (sumW (flat ps)))) ∧ w' = w := by
  have hsg := u32_unsigned
  obtain ⟨o, ho⟩ : ∃ o : W32, o = ~~~ 0#32 := ⟨_, rfl⟩
  have z0 : (4294967295 : Int) = wI (runW o (flat (ps.take 0))) := by rw [ho]; simp [flat]; decide
  have HO : Hid (o = ~~~ 0#32) := ho
  clear ho
  go_enter Tryz.func46, Tryz.ntmps46
  go_wp2
  go_loopw [3, 4] (fun tr ti wr => ∃ k : Nat, k ≤ ps.length ∧ tr = .int .u32 (wI (runW o (flat (ps.take k)))) ∧ ti = .int .i64 k ∧ wr = w) (fun _ ti _ => ps.length - (intOf ti).toNat)
  case atStart => exact ⟨0, Nat.zero_le _, by rw [← z0], rfl, rfl⟩
  case round =>
    clear z0
    obtain ⟨k, hk, rfl, rfl, rfl⟩ := hrel
    by_cases hlt : k < ps.length
    · have hlti : (k : Int) < (ps.length : Int) := by omega
      obtain ⟨b, off, rfl, hc⟩ := hs.at_ k hlt
      have hsg := hs.seg k hlt
      have hln := hs.len k hlt
      have HT : Hid (runW (runW o (flat (ps.take k))) (ps.getD k noPart).zs = runW o (flat (ps.take (k + 1)))) := by
        show _ = _
        rw [flat_snoc hlt, runW_append]
      generalize ps.getD k noPart = p at *
      obtain ⟨pa, pz, pc⟩ := p
      unfold Part.val at hc
      simp only at hc hsg hln HT
      go_wp2_with (go_at_call 61; refine (run_any _ _ _ _ _ hsg hln).mono ?_; rintro e w' ⟨rfl, hw'⟩; subst w')
      go_roundw
      case rel => exact ⟨k + 1, by omega, by rw [HT.out], by go_num, trivial⟩
      case measure => simp [intOf]; omega
    · obtain rfl : k = ps.length := by omega
      have e1 : ps.take ps.length = ps := List.take_of_length_le (Nat.le_refl _)
      rw [e1]
      clear hlt e1
      have hn := wI_not (runW o (flat ps))
      go_wp2
      go_ret
      exact ⟨by unfold sumW; rw [← HO.out]; rfl, rfl⟩

/-- Each part owns its bytes. -/
def Owned (w : World) (base : Nat) (qs : List Part) : Prop := ∀ i, i < qs.length → w.ownsRow base 5 1 (qs.getD i noPart).val (qs.getD i noPart).zs.length ((qs.getD i noPart).zs.map (Value.int .u8))
/-- The sum of one part, the document's. -/
theorem rsum_one (w : World) (g n : Nat) (a : Option Addr) (zs : List Int) (cap c : Nat) (t : TypeId) (h : Seg w a zs) (hg : g = w.heap.size) (hn : n = zs.length) (hl : zs.length ≤ 9223372036854775807) :
    Calls Tryz.prog 46 #[.slice (some ⟨g, 0, none⟩) 1 c] (w.alloc (.cells #[.slice a n cap] t)) fun e w' => e = .returned (.int .u32 (wI (sumW zs))) ∧ w' = w.alloc (.cells #[.slice a n cap] t) := by
  refine (rsum_any (some ⟨g, 0, none⟩) [⟨a, zs, cap⟩] c _ (parts_one w g n a zs cap t h hg hn hl) (by simp)).mono ?_
  rintro e w' ⟨rfl, hw'⟩
  rw [flat_one]
  exact ⟨rfl, hw'⟩
end Go.Proofs.YtalojcpgkgeofaaGreatDoor

namespace Go.Proofs.YtalojcpgkgeofaaGreatDoor
open Go.RowKit Go.Shelf
set_option linter.unusedVariables false

/-! The document's within, Check, Windows, Size. -/
set_option maxRecDepth 100000 in
theorem rwit18 (x lo hi : Int) (w : World) : Calls Tryz.prog 60 #[.int .i64 x, .int .i64 lo, .int .i64 hi] w fun e w' => e = .returned (.bool (decide (lo ≤ x ∧ x ≤ hi))) ∧ w' = w := by
  by_cases h1 : lo ≤ x
  · by_cases h2 : x ≤ hi
    · rw [decide_eq_true ⟨h1, h2⟩]
      go_enter Tryz.func60, Tryz.ntmps60
      go_wp2
      go_ret
      exact ⟨rfl, rfl⟩
    · rw [decide_eq_false (by omega)]
      go_enter Tryz.func60, Tryz.ntmps60
      go_wp2
      go_ret
      exact ⟨rfl, rfl⟩
  · rw [decide_eq_false (by omega)]
    go_enter Tryz.func60, Tryz.ntmps60
    go_wp2
    go_ret
    exact ⟨rfl, rfl⟩
theorem rwit18_t {x lo hi : Int} (h : lo ≤ x ∧ x ≤ hi) (w : World) : Calls Tryz.prog 60 #[.int .i64 x, .int .i64 lo, .int .i64 hi] w fun e w' => e = .returned (.bool true) ∧ w' = w := by
  have := rwit18 x lo hi w
  rwa [decide_eq_true h] at this
theorem rwit18_f {x lo hi : Int} (h : ¬ (lo ≤ x ∧ x ≤ hi)) (w : World) : Calls Tryz.prog 60 #[.int .i64 x, .int .i64 lo, .int .i64 hi] w fun e w' => e = .returned (.bool false) ∧ w' = w := by
  have := rwit18 x lo hi w
  rwa [decide_eq_false h] at this
set_option maxRecDepth 100000 in
set_option maxHeartbeats 1000000 in
theorem rchk18 (h : Hd18) (w : World) : Calls Tryz.prog 45 #[.agg #[.int .i64 h.o, .int .i64 h.n, .int .u32 h.so, .int .u32 h.sn, .int .i64 h.wi, .int .i64 h.lo]] w fun e w' => e = .returned (.int .i64 (if h.Ok then 0 else 180)) ∧ Below w.heap.size w w' := by
  obtain ⟨wA, b4, X⟩ := bx18 w h
  have HX : Hid (Bx18 w h wA b4) := X
  have HCL : Hid (Cl18 wA b4 h) := X.cl (Below.refl _ _)
  obtain ⟨a0, a1, a2, a3, a4, a5⟩ := HCL.out
  rw [← X.wa] at a0 a1 a2 a3 a4 a5
  rw [← X.b] at a0 a1 a2 a3 a4 a5
  clear X
  by_cases k0 : 0 ≤ h.o ∧ h.o ≤ 16777216
  · have C0 := fun V => rwit18_t k0 V
    by_cases k1 : 0 ≤ h.n ∧ h.n ≤ 16777216
    · have C1 := fun V => rwit18_t k1 V
      by_cases k2 : 64 ≤ h.wi ∧ h.wi ≤ 65536
      · have C2 := fun V => rwit18_t k2 V
        by_cases k3 : 1 ≤ h.lo ∧ h.lo ≤ 32768
        · have C3 := fun V => rwit18_t k3 V
          rw [if_pos (show h.Ok from ⟨k0, k1, k2, k3⟩)]
          clear k0 k1 k2 k3
          go_enter Tryz.func45, Tryz.ntmps45
          go_wp2_with fail
          rw [HX.out.wa, HX.out.b]
          clear a0 a1 a2 a3 a4 a5
          obtain ⟨a0, a1, a2, a3, a4, a5⟩ := HCL.out
          refine (C0 _).mono ?_
          rintro e w' ⟨rfl, hw'⟩
          subst w'
          go_wp2_with fail
          refine (C1 _).mono ?_
          rintro e w' ⟨rfl, hw'⟩
          subst w'
          go_wp2_with fail
          refine (C2 _).mono ?_
          rintro e w' ⟨rfl, hw'⟩
          subst w'
          go_wp2_with fail
          refine (C3 _).mono ?_
          rintro e w' ⟨rfl, hw'⟩
          subst w'
          go_wp2_with fail
          go_ret
          exact ⟨rfl, HX.out.bl⟩
        · have C3 := fun V => rwit18_f k3 V
          rw [if_neg (fun x => k3 x.2.2.2)]
          clear k0 k1 k2 k3
          go_enter Tryz.func45, Tryz.ntmps45
          go_wp2_with fail
          rw [HX.out.wa, HX.out.b]
          clear a0 a1 a2 a3 a4 a5
          obtain ⟨a0, a1, a2, a3, a4, a5⟩ := HCL.out
          refine (C0 _).mono ?_
          rintro e w' ⟨rfl, hw'⟩
          subst w'
          go_wp2_with fail
          refine (C1 _).mono ?_
          rintro e w' ⟨rfl, hw'⟩
          subst w'
          go_wp2_with fail
          refine (C2 _).mono ?_
          rintro e w' ⟨rfl, hw'⟩
          subst w'
          go_wp2_with fail
          refine (C3 _).mono ?_
          rintro e w' ⟨rfl, hw'⟩
          subst w'
          go_wp2_with fail
          go_ret
          exact ⟨rfl, HX.out.bl⟩
      · have C2 := fun V => rwit18_f k2 V
        rw [if_neg (fun x => k2 x.2.2.1)]
        clear k0 k1 k2
        go_enter Tryz.func45, Tryz.ntmps45
        go_wp2_with fail
        rw [HX.out.wa, HX.out.b]
        clear a0 a1 a2 a3 a4 a5
        obtain ⟨a0, a1, a2, a3, a4, a5⟩ := HCL.out
        refine (C0 _).mono ?_
        rintro e w' ⟨rfl, hw'⟩
        subst w'
        go_wp2_with fail
        refine (C1 _).mono ?_
        rintro e w' ⟨rfl, hw'⟩
        subst w'
        go_wp2_with fail
        refine (C2 _).mono ?_
        rintro e w' ⟨rfl, hw'⟩
        subst w'
        go_wp2_with fail
        go_ret
        exact ⟨rfl, HX.out.bl⟩
    · have C1 := fun V => rwit18_f k1 V
      rw [if_neg (fun x => k1 x.2.1)]
      clear k0 k1
      go_enter Tryz.func45, Tryz.ntmps45
      go_wp2_with fail
      rw [HX.out.wa, HX.out.b]
      clear a0 a1 a2 a3 a4 a5
      obtain ⟨a0, a1, a2, a3, a4, a5⟩ := HCL.out
      refine (C0 _).mono ?_
      rintro e w' ⟨rfl, hw'⟩
      subst w'
      go_wp2_with fail
      refine (C1 _).mono ?_
      rintro e w' ⟨rfl, hw'⟩
      subst w'
      go_wp2_with fail
      go_ret
      exact ⟨rfl, HX.out.bl⟩
  · have C0 := fun V => rwit18_f k0 V
    rw [if_neg (fun x => k0 x.1)]
    clear k0
    go_enter Tryz.func45, Tryz.ntmps45
    go_wp2_with fail
    rw [HX.out.wa, HX.out.b]
    clear a0 a1 a2 a3 a4 a5
    obtain ⟨a0, a1, a2, a3, a4, a5⟩ := HCL.out
    refine (C0 _).mono ?_
    rintro e w' ⟨rfl, hw'⟩
    subst w'
    go_wp2_with fail
    go_ret
    exact ⟨rfl, HX.out.bl⟩
end Go.Proofs.YtalojcpgkgeofaaGreatDoor
