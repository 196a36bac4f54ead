import Derived.Test.YtpodakndckflgaaGreatDoorPq
import Derived.Test.YtpodakndckflgaaGreatDoorPl
namespace Go.Proofs.YtpodakndckflgaaGreatDoor
open Go.RowKit Go.Shelf
set_option linter.unusedVariables false
set_option linter.unusedSimpArgs false
theorem g19_3 {s : R19} {v : Int} (h : G19 s) (hv : 0 ≤ v ∧ v ≤ 255) (hj : s.nx = 3) : G19 (im19 s v) ∧ (im19 s v).tk = s.tk := by
  refine ⟨?_, rfl⟩
  obtain ⟨h1, h2, h3, h4, h5, h6, h7, h8, h9⟩ := h
  have t := h3 (by omega) (by omega)
  have hc := h4.2.2.2.1 hj
  have hw := h7.2.1 (by omega)
  obtain ⟨i1, i2, i3⟩ := h5 hj
  obtain ⟨k, hk⟩ : ∃ k : Nat, s.cn = (k : Int) := ⟨s.cn.toNat, by omega⟩
  rw [hk] at i1 i2 i3 hc
  rcases (by omega : k = 0 ∨ k = 1 ∨ k = 2 ∨ k = 3 ∨ k = 4 ∨ k = 5 ∨ k = 6 ∨ k = 7) with rfl | rfl | rfl | rfl | rfl | rfl | rfl | rfl
  · have e : im19 s v = { s with hd := { s.hd with so := s.hd.so + v * 1 }, cn := 1, nx := s.nx } := by
      unfold im19
      rw [hk]
      simp
    have b : 0 ≤ s.hd.so ∧ s.hd.so < 1 := i1 (by decide)
    have z0 : s.hd.sn = 0 := i2 (by decide)
    rw [e]
    exact ⟨⟨by (try dsimp only); omega, by (try dsimp only); omega⟩, tk00 t, fun _ _ => t, by refine ⟨?_, ?_, ?_, ?_, ?_, ?_, ?_, ?_, ?_⟩ <;> (try dsimp only) <;> omega, fun _ => ⟨fun _ => by show 0 ≤ s.hd.so + v * 1 ∧ s.hd.so + v * 1 < (256 : Int); omega, fun _ => z0, fun x => absurd x (by show ¬ (4 : Int) ≤ 1; decide)⟩, fun x => by (try dsimp only at x); omega, by refine ⟨?_, ?_, ?_⟩ <;> (try dsimp only) <;> omega, fun x => by (try dsimp only at x); omega, h9⟩
  · have e : im19 s v = { s with hd := { s.hd with so := s.hd.so + v * 256 }, cn := 2, nx := s.nx } := by
      unfold im19
      rw [hk]
      simp
    have b : 0 ≤ s.hd.so ∧ s.hd.so < 256 := i1 (by decide)
    have z0 : s.hd.sn = 0 := i2 (by decide)
    rw [e]
    exact ⟨⟨by (try dsimp only); omega, by (try dsimp only); omega⟩, tk00 t, fun _ _ => t, by refine ⟨?_, ?_, ?_, ?_, ?_, ?_, ?_, ?_, ?_⟩ <;> (try dsimp only) <;> omega, fun _ => ⟨fun _ => by show 0 ≤ s.hd.so + v * 256 ∧ s.hd.so + v * 256 < (65536 : Int); omega, fun _ => z0, fun x => absurd x (by show ¬ (4 : Int) ≤ 2; decide)⟩, fun x => by (try dsimp only at x); omega, by refine ⟨?_, ?_, ?_⟩ <;> (try dsimp only) <;> omega, fun x => by (try dsimp only at x); omega, h9⟩
  · have e : im19 s v = { s with hd := { s.hd with so := s.hd.so + v * 65536 }, cn := 3, nx := s.nx } := by
      unfold im19
      rw [hk]
      simp
    have b : 0 ≤ s.hd.so ∧ s.hd.so < 65536 := i1 (by decide)
    have z0 : s.hd.sn = 0 := i2 (by decide)
    rw [e]
    exact ⟨⟨by (try dsimp only); omega, by (try dsimp only); omega⟩, tk00 t, fun _ _ => t, by refine ⟨?_, ?_, ?_, ?_, ?_, ?_, ?_, ?_, ?_⟩ <;> (try dsimp only) <;> omega, fun _ => ⟨fun _ => by show 0 ≤ s.hd.so + v * 65536 ∧ s.hd.so + v * 65536 < (16777216 : Int); omega, fun _ => z0, fun x => absurd x (by show ¬ (4 : Int) ≤ 3; decide)⟩, fun x => by (try dsimp only at x); omega, by refine ⟨?_, ?_, ?_⟩ <;> (try dsimp only) <;> omega, fun x => by (try dsimp only at x); omega, h9⟩
  · have e : im19 s v = { s with hd := { s.hd with so := s.hd.so + v * 16777216 }, cn := 4, nx := s.nx } := by
      unfold im19
      rw [hk]
      simp
    have b : 0 ≤ s.hd.so ∧ s.hd.so < 16777216 := i1 (by decide)
    have z0 : s.hd.sn = 0 := i2 (by decide)
    rw [e]
    exact ⟨⟨by (try dsimp only); omega, by (try dsimp only); omega⟩, tk00 t, fun _ _ => t, by refine ⟨?_, ?_, ?_, ?_, ?_, ?_, ?_, ?_, ?_⟩ <;> (try dsimp only) <;> omega, fun _ => ⟨fun x => absurd x (by show ¬ (4 : Int) < 4; decide), fun _ => z0, fun _ => by show 0 ≤ s.hd.sn ∧ s.hd.sn < (1 : Int); omega⟩, fun x => by (try dsimp only at x); omega, by refine ⟨?_, ?_, ?_⟩ <;> (try dsimp only) <;> omega, fun x => by (try dsimp only at x); omega, h9⟩
  · have e : im19 s v = { s with hd := { s.hd with sn := s.hd.sn + v * 1 }, cn := 5, nx := s.nx } := by
      unfold im19
      rw [hk]
      simp
    have b : 0 ≤ s.hd.sn ∧ s.hd.sn < 1 := i3 (by decide)
    rw [e]
    exact ⟨⟨by (try dsimp only); omega, by (try dsimp only); omega⟩, tk00 t, fun _ _ => t, by refine ⟨?_, ?_, ?_, ?_, ?_, ?_, ?_, ?_, ?_⟩ <;> (try dsimp only) <;> omega, fun _ => ⟨fun x => absurd x (by show ¬ (5 : Int) < 4; decide), fun x => absurd x (by show ¬ (5 : Int) ≤ 4; decide), fun _ => by show 0 ≤ s.hd.sn + v * 1 ∧ s.hd.sn + v * 1 < (256 : Int); omega⟩, fun x => by (try dsimp only at x); omega, by refine ⟨?_, ?_, ?_⟩ <;> (try dsimp only) <;> omega, fun x => by (try dsimp only at x); omega, h9⟩
  · have e : im19 s v = { s with hd := { s.hd with sn := s.hd.sn + v * 256 }, cn := 6, nx := s.nx } := by
      unfold im19
      rw [hk]
      simp
    have b : 0 ≤ s.hd.sn ∧ s.hd.sn < 256 := i3 (by decide)
    rw [e]
    exact ⟨⟨by (try dsimp only); omega, by (try dsimp only); omega⟩, tk00 t, fun _ _ => t, by refine ⟨?_, ?_, ?_, ?_, ?_, ?_, ?_, ?_, ?_⟩ <;> (try dsimp only) <;> omega, fun _ => ⟨fun x => absurd x (by show ¬ (6 : Int) < 4; decide), fun x => absurd x (by show ¬ (6 : Int) ≤ 4; decide), fun _ => by show 0 ≤ s.hd.sn + v * 256 ∧ s.hd.sn + v * 256 < (65536 : Int); omega⟩, fun x => by (try dsimp only at x); omega, by refine ⟨?_, ?_, ?_⟩ <;> (try dsimp only) <;> omega, fun x => by (try dsimp only at x); omega, h9⟩
  · have e : im19 s v = { s with hd := { s.hd with sn := s.hd.sn + v * 65536 }, cn := 7, nx := s.nx } := by
      unfold im19
      rw [hk]
      simp
    have b : 0 ≤ s.hd.sn ∧ s.hd.sn < 65536 := i3 (by decide)
    rw [e]
    exact ⟨⟨by (try dsimp only); omega, by (try dsimp only); omega⟩, tk00 t, fun _ _ => t, by refine ⟨?_, ?_, ?_, ?_, ?_, ?_, ?_, ?_, ?_⟩ <;> (try dsimp only) <;> omega, fun _ => ⟨fun x => absurd x (by show ¬ (7 : Int) < 4; decide), fun x => absurd x (by show ¬ (7 : Int) ≤ 4; decide), fun _ => by show 0 ≤ s.hd.sn + v * 65536 ∧ s.hd.sn + v * 65536 < (16777216 : Int); omega⟩, fun x => by (try dsimp only at x); omega, by refine ⟨?_, ?_, ?_⟩ <;> (try dsimp only) <;> omega, fun x => by (try dsimp only at x); omega, h9⟩
  · have e : im19 s v = { s with hd := { s.hd with sn := s.hd.sn + v * 16777216 }, cn := 0, nx := 4 } := by
      unfold im19
      rw [hk]
      simp
    have b : 0 ≤ s.hd.sn ∧ s.hd.sn < 16777216 := i3 (by decide)
    rw [e]
    exact ⟨⟨by (try dsimp only); omega, by (try dsimp only); omega⟩, tk00 t, fun _ _ => t, by refine ⟨?_, ?_, ?_, ?_, ?_, ?_, ?_, ?_, ?_⟩ <;> (try dsimp only) <;> omega, fun x => by (try dsimp only at x); omega, fun x => by (try dsimp only at x); omega, by refine ⟨?_, ?_, ?_⟩ <;> (try dsimp only) <;> omega, fun x => by (try dsimp only at x); omega, h9⟩
theorem op19_more {a b c : Int} : (op19 a b c).2 = true ↔ 0 < a ∨ 0 < b ∨ 0 < c := by
  unfold op19
  by_cases h0 : 0 < a
  · rw [if_pos h0]; simp [h0]
  · rw [if_neg h0]
    by_cases h1 : 0 < b
    · rw [if_pos h1]; simp [h1]
    · rw [if_neg h1]
      by_cases h2 : 0 < c
      · rw [if_pos h2]; simp [h2]
      · rw [if_neg h2]; simp [h0, h1, h2]
theorem sk19_kp (s : R19) (k : Int) : (sk19 s k).nx = s.nx ∧ (sk19 s k).tv = s.tv ∧ (sk19 s k).tc = s.tc ∧ (sk19 s k).cn = s.cn ∧ (sk19 s k).hd = s.hd ∧ (sk19 s k).wn = s.wn ∧ (sk19 s k).tk = s.tk ∧ (sk19 s k).l0 ≤ s.l0 ∧ (sk19 s k).l1 ≤ s.l1 ∧ (sk19 s k).l2 ≤ s.l2 := by
  unfold sk19
  split
  · exact ⟨rfl, rfl, rfl, rfl, rfl, rfl, rfl, by dsimp only; omega, Int.le_refl _, Int.le_refl _⟩
  · split
    · exact ⟨rfl, rfl, rfl, rfl, rfl, rfl, rfl, Int.le_refl _, by dsimp only; omega, Int.le_refl _⟩
    · exact ⟨rfl, rfl, rfl, rfl, rfl, rfl, rfl, Int.le_refl _, Int.le_refl _, by dsimp only; omega⟩
theorem g19_6 {s : R19} {e : E19} {v : Int} (h : G19 s) (hj : s.nx = 6) : G19 (sm19 s e v).2.2.1 ∧ (sm19 s e v).2.2.1.tk = s.tk := by
  obtain ⟨h1, h2, h3, h4, h5, h6, h7, h8, h9⟩ := h
  have t := h3 (by omega) (by omega)
  have hc := h4.2.2.2.2.2.2.1 hj
  have hk := h6 (by omega)
  have hw := h7.2.2 (by omega)
  obtain ⟨k1, k2, k3, k4, k5, k6, k7, k8, k9, k10⟩ := sk19_kp s (op19 s.l0 s.l1 s.l2).1
  show G19 (if _ then _ else _) ∧ (if _ then _ else _ : R19).tk = s.tk
  generalize sk19 s (op19 s.l0 s.l1 s.l2).1 = r at *
  have t' : r.tv = 0 ∧ r.tc = 0 := ⟨k2.trans t.1, k3.trans t.2⟩
  have hk' : r.hd.Ok := by rw [k5]; exact hk
  have hw' : r.wn ≤ win18 r.hd := by rw [k5, k6]; exact hw
  have h9' : r.l0 ≤ 4611686018427387904 ∧ r.l1 ≤ 4611686018427387904 ∧ r.l2 ≤ 4611686018427387904 := by omega
  split
  · rename_i hx
    exact ⟨⟨by omega, tk00 t', fun _ _ => t', by refine ⟨?_, ?_, ?_, ?_, ?_, ?_, ?_, ?_, ?_⟩ <;> (try dsimp only) <;> omega, fun x => by (try dsimp only at x); omega, fun _ => hk', ⟨by omega, fun x => by (try dsimp only at x); omega, fun _ => hw'⟩, fun _ => hx, h9'⟩, k7⟩
  · have hg : go19 r = 7 ∨ go19 r = 5 := by unfold go19; split <;> simp
    rcases hg with hg | hg
    · rw [hg]
      exact ⟨⟨⟨by (try dsimp only); omega, by (try dsimp only); omega⟩, tk00 t', fun _ _ => t', by refine ⟨?_, ?_, ?_, ?_, ?_, ?_, ?_, ?_, ?_⟩ <;> (try dsimp only) <;> omega, fun x => by (try dsimp only at x); omega, fun _ => hk', ⟨by (try dsimp only); omega, fun x => by (try dsimp only at x); omega, fun _ => hw'⟩, fun x => by (try dsimp only at x); omega, h9'⟩, k7⟩
    · rw [hg]
      exact ⟨⟨⟨by (try dsimp only); omega, by (try dsimp only); omega⟩, tk00 t', fun _ _ => t', by refine ⟨?_, ?_, ?_, ?_, ?_, ?_, ?_, ?_, ?_⟩ <;> (try dsimp only) <;> omega, fun x => by (try dsimp only at x); omega, fun _ => hk', ⟨by (try dsimp only); omega, fun x => by (try dsimp only at x); omega, fun _ => hw'⟩, fun x => by (try dsimp only at x); omega, h9'⟩, k7⟩
end Go.Proofs.YtpodakndckflgaaGreatDoor

namespace Go.Proofs.YtpodakndckflgaaGreatDoor
open Go.RowKit Go.Shelf
set_option linter.unusedVariables false
set_option linter.unusedSimpArgs false
theorem ft18_zero {h : Hd18} {i : Int} {s : Sz18} (hf : ft18 h i s = 0) : h.Ok ∧ 0 ≤ i ∧ i < win18 h ∧ Fs18 h (siz18 h i) s := by
  unfold ft18 at hf
  split at hf
  · rename_i hk
    split at hf
    · cases hf
    · rename_i hi
      split at hf
      · rename_i hs
        exact ⟨hk, by omega, by omega, hs⟩
      · cases hf
  · cases hf
theorem siz18_le {h : Hd18} {i : Int} (hk : h.Ok) : siz18 h i ≤ 65536 := by
  unfold siz18
  unfold Hd18.Ok at hk
  split
  · decide
  · omega
theorem fs18_k {h : Hd18} {Z : Int} {s : Sz18} (f : Fs18 h Z s) (hk : h.Ok) (hZ : Z ≤ 65536) : 0 < s.k0 ∧ s.k0 ≤ 4611686018427387904 ∧ s.k1 ≤ 4611686018427387904 ∧ s.k2 ≤ 4611686018427387904 := by
  obtain ⟨f0, f1, f2, f3, f4, f5, f6⟩ := f
  have g1 : 1 ≤ s.r0 ∧ s.r0 ≤ 6 * h.wi := f1
  have g2 : 0 ≤ s.r1 ∧ s.r1 ≤ Z := f2
  have g3 : Z - s.r1 ≤ s.r2 ∧ s.r2 ≤ Z - s.r1 := f3
  have g4 : (if s.r0 = 0 then (0 : Int) else 1) ≤ s.k0 ∧ s.k0 ≤ (if s.r0 = 0 then 0 else 4 * s.r0 + 64) := f4
  have g5 : (if s.r1 = 0 then (0 : Int) else 1) ≤ s.k1 ∧ s.k1 ≤ (if s.r1 = 0 then 0 else 4 * s.r1 + 64) := f5
  have g6 : (if s.r2 = 0 then (0 : Int) else 1) ≤ s.k2 ∧ s.k2 ≤ (if s.r2 = 0 then 0 else 4 * s.r2 + 64) := f6
  unfold Hd18.Ok at hk
  rw [if_neg (by omega), if_neg (by omega)] at g4
  refine ⟨by omega, by omega, ?_, ?_⟩
  · split at g5 <;> omega
  · split at g6 <;> omega
theorem g19_5 {s : R19} {e : E19} {v : Int} (h : G19 s) (hv : 0 ≤ v ∧ v ≤ 255) (hj : s.nx = 5) : G19 (sz19 s e v).2.2.1 ∧ (sz19 s e v).2.2.1.tk = s.tk := by
  obtain ⟨h1, h2, h3, h4, h5, h6, h7, h8, h9⟩ := h
  have hc := h4.2.2.2.2.2.1 hj
  have hk := h6 (by omega)
  have hw := h7.2.2 (by omega)
  have nt := nb19_tk (m := 7) h2 hv
  obtain ⟨k1, k2, k3, k4, k5, k6, k7, k8, k9, k10⟩ := nb19_kp (s := s) (v := v) (m := 7) (by decide) ⟨h4.1, hc⟩
  have same : ∀ r : R19, r.nx = s.nx → r.hd = s.hd → r.wn = s.wn → r.l0 = s.l0 → r.l1 = s.l1 → r.l2 = s.l2 → 0 ≤ r.cn → r.cn < 7 → Tk19 r → G19 r := fun r a1 a2 a3 a4 a5 a6 a7 a8 a9 =>
    ⟨by omega, a9, fun x y => by omega, by refine ⟨?_, ?_, ?_, ?_, ?_, ?_, ?_, ?_, ?_⟩ <;> omega, fun x => by omega, fun _ => by rw [a2]; exact hk, ⟨by omega, fun x => by omega, fun _ => by rw [a2, a3]; exact hw⟩, fun x => by omega, by omega⟩
  unfold sz19
  split
  · rename_i hx
    have t := nt.2 hx
    have c0 := k10 hx
    split
    · rename_i hf
      generalize (nb19 s v 7).2.2 = r at *
      obtain ⟨f1, f2, f3, f4⟩ := ft18_zero hf
      have g := fs18_k f4 f1 (siz18_le f1)
      have g : 0 < r.n4 ∧ r.n4 ≤ 4611686018427387904 ∧ r.n5 ≤ 4611686018427387904 ∧ r.n6 ≤ 4611686018427387904 := g
      exact ⟨⟨⟨by (try dsimp only); omega, by (try dsimp only); omega⟩, tk00 t, fun _ _ => t, by refine ⟨?_, ?_, ?_, ?_, ?_, ?_, ?_, ?_, ?_⟩ <;> (try dsimp only) <;> omega, fun x => by (try dsimp only at x); omega, fun _ => f1, ⟨by (try dsimp only); omega, fun x => by (try dsimp only at x); omega, fun _ => by (try dsimp only); omega⟩, fun _ => op19_more.2 (.inl g.1), g.2⟩, k7⟩
    · exact ⟨same _ k1 k2 k3 k4 k5 k6 k8 k9 nt.1, k7⟩
  · exact ⟨same _ k1 k2 k3 k4 k5 k6 k8 k9 nt.1, k7⟩
/-- The states, with the bytes to come: what is told has no more bytes than were taken. -/
def Ig19 (s : R19) (e : E19) (l : List Int) : Prop := G19 s ∧ e.bs.length + l.length ≤ 140737488355328
theorem dg19_bs {s : R19} {e : E19} {v : Int} (h : 1 ≤ s.nx ∧ s.nx ≤ 8) : (dg19 s e v).2.2.2.bs.length ≤ e.bs.length + 1 := by
  unfold dg19
  split
  · exact Nat.le_succ _
  · split
    · exact Nat.le_succ _
    · split
      · exact Nat.le_succ _
      · split
        · unfold hs19
          split
          · split
            · exact Nat.zero_le _
            · exact Nat.le_succ _
          · exact Nat.le_succ _
        · split
          · unfold sz19
            split
            · split
              · exact Nat.zero_le _
              · exact Nat.le_succ _
            · exact Nat.le_succ _
          · split
            · show (e.bs ++ [v]).length ≤ _
              simp
            · unfold es19
              split
              · exact Nat.zero_le _
              · exact Nat.le_succ _
theorem g19_any {s : R19} {e : E19} {v : Int} (h : G19 s) (hv : 0 ≤ v ∧ v ≤ 255) (h8 : s.nx ≠ 8) (he : (dg19 s e v).2.1 = 0) : G19 (dg19 s e v).2.2.1 := by
  have hn := h.nx
  rcases (by omega : s.nx = 1 ∨ s.nx = 2 ∨ s.nx = 3 ∨ s.nx = 4 ∨ s.nx = 5 ∨ s.nx = 6 ∨ s.nx = 7) with hj | hj | hj | hj | hj | hj | hj
  · rw [dg19_1 e v hj] at he ⊢; exact (g19_1 h hj he).1
  · rw [dg19_2 e v hj]; exact (g19_2 h hv hj).1
  · rw [dg19_3 e v hj]; exact (g19_3 h hv hj).1
  · rw [dg19_4 e v hj] at he ⊢; exact (g19_4 h hj he).1
  · rw [dg19_5 e v hj]; exact (g19_5 h hv hj).1
  · rw [dg19_6 e v hj]; exact (g19_6 h hj).1
  · rw [dg19_7 e v hj]; exact (g19_7 h hj).1
end Go.Proofs.YtpodakndckflgaaGreatDoor

namespace Go.Proofs.YtpodakndckflgaaGreatDoor
open Go.RowKit Go.Shelf
set_option linter.unusedVariables false
set_option linter.unusedSimpArgs false
theorem dg19_tk {s : R19} {e : E19} {v : Int} (h : G19 s) (hv : 0 ≤ v ∧ v ≤ 255) (h8 : s.nx ≠ 8) : (dg19 s e v).2.2.1.tk = s.tk := by
  have hn := h.nx
  rcases (by omega : s.nx = 1 ∨ s.nx = 2 ∨ s.nx = 3 ∨ s.nx = 4 ∨ s.nx = 5 ∨ s.nx = 6 ∨ s.nx = 7) with hj | hj | hj | hj | hj | hj | hj
  · rw [dg19_1 e v hj]
    show (mg19 s v).2.tk = s.tk
    unfold mg19
    split <;> rfl
  · rw [dg19_2 e v hj]; exact (g19_2 h hv hj).2
  · rw [dg19_3 e v hj]; exact (g19_3 h hv hj).2
  · rw [dg19_4 e v hj]
    unfold hs19
    split
    · split <;> rfl
    · rfl
  · rw [dg19_5 e v hj]; exact (g19_5 h hv hj).2
  · rw [dg19_6 e v hj]; exact (g19_6 h hj).2
  · rw [dg19_7 e v hj]; exact (g19_7 h hj).2
theorem ev_kb19 {V V' : World} {bt base b : Nat} {e : E19} (h : Ev19 V bt base e) (hk : Kp (fun k => k = b) V V') (hn : bt ≠ b) (hb : b < base) : Ev19 V' bt base e ∧ Kp (fun k => k = b ∨ k = bt ∨ base ≤ k) V V' := ⟨h.kp hk hn hb, hk.mono (fun _ _ x => .inl x)⟩
theorem k2_19 {V V' : World} {bt base b : Nat} (h : K2 b bt V V') : Kp (fun k => k = b ∨ k = bt ∨ base ≤ k) V V' := Kp.mono h (fun _ _ x => by rcases x with x | x; exact .inl x; exact .inr (.inl x))
theorem dcg19 : DC19 dg19 Ig19 where
  nx := fun s e l h => h.1.nx
  iv := fun s e v r h h8 h0 h1 he => by
    refine ⟨g19_any (h.1.am v) ⟨h0, h1⟩ h8 he, ?_⟩
    have hb := dg19_bs (s := am19 s v) (e := e) (v := v) h.1.nx
    have hl := h.2
    rw [List.length_cons] at hl
    omega
  tk := fun s e v r h h8 h0 h1 => dg19_tk (h.1.am v) ⟨h0, h1⟩ h8
  c1 := fun V b bt base s e v r h hj h0 h1 ht q hE n1 n2 n3 n4 => by
    rw [dg19_1 e v (s := am19 s v) hj]
    refine (pmag19 b _ (am19 s v) v _ V q ⟨h0, h1⟩ ⟨h.1.cn.1, h.1.cn.2.1 hj⟩).mono ?_
    rintro en w' ⟨rfl, q', k'⟩
    exact ⟨rfl, q', (ev_kb19 hE k' n1 n2).1, (ev_kb19 hE k' n1 n2).2⟩
  c2 := fun V b bt base s e v r h hj h0 h1 ht q hE n1 n2 n3 n4 => by
    rw [dg19_2 e v (s := am19 s v) hj]
    refine (phnm19 b _ (am19 s v) v _ V q (h.1.am v).tk ⟨h0, h1⟩ ⟨h.1.cn.1, h.1.cn.2.2.1 hj⟩).mono ?_
    rintro en w' ⟨rfl, q', k'⟩
    exact ⟨rfl, q', (ev_kb19 hE k' n1 n2).1, (ev_kb19 hE k' n1 n2).2⟩
  c3 := fun V b bt base s e v r h hj h0 h1 ht q hE n1 n2 n3 n4 => by
    rw [dg19_3 e v (s := am19 s v) hj]
    obtain ⟨i1, i2, i3⟩ := h.1.im hj
    refine (pimg19 b _ (am19 s v) v _ V q ⟨h0, h1⟩ ⟨h.1.cn.1, h.1.cn.2.2.2.1 hj, i1, i3⟩).mono ?_
    rintro en w' ⟨rfl, q', k'⟩
    exact ⟨rfl, q', (ev_kb19 hE k' n1 n2).1, (ev_kb19 hE k' n1 n2).2⟩
  c4 := fun V b bt base s e v r h hj h0 h1 ht q hE n1 n2 n3 n4 => by
    rw [dg19_4 e v (s := am19 s v) hj]
    refine (phsm19 b bt base _ (am19 s v) e _ V q hE n1 n2 ⟨h.1.cn.1, by have := h.1.cn.2.2.2.2.1 hj; show s.cn ≤ 1000; omega⟩).mono ?_
    rintro en w' ⟨rfl, q', e', k'⟩
    exact ⟨rfl, q', e', k2_19 k'⟩
  c5 := fun V b bt base s e v r h hj h0 h1 ht q hE n1 n2 n3 n4 => by
    rw [dg19_5 e v (s := am19 s v) hj]
    have hw := h.1.wn.2.2 (by omega)
    have hb := (win18_bd s.hd).2.1
    refine (psiz19 b bt base (am19 s v) e v V q hE n1 n2 (h.1.am v).tk ⟨h0, h1⟩ ⟨h.1.cn.1, h.1.cn.2.2.2.2.2.1 hj⟩ ⟨h.1.wn.1, by show s.wn ≤ _; omega⟩).mono ?_
    rintro en w' ⟨rfl, q', e', k'⟩
    exact ⟨rfl, q', e', k2_19 k'⟩
  c6 := fun V b bt base s e v r h hj h0 h1 ht q hE n1 n2 n3 n4 => by
    rw [dg19_6 e v (s := am19 s v) hj]
    exact pstm19 b bt base (am19 s v) e v V q hE n1 n2 n3 n4 (h.1.st hj) h.1.lf (by have := h.2; rw [List.length_cons] at this; omega)
  c7 := fun V b bt base s e v r h hj h0 h1 ht q hE n1 n2 n3 n4 => by
    rw [dg19_7 e v (s := am19 s v) hj]
    refine (pesm19 b bt base _ (am19 s v) e _ V q hE n1 n2 ⟨h.1.cn.1, by have := h.1.cn.2.2.2.2.2.2.2.1 hj; show s.cn ≤ 1000; omega⟩).mono ?_
    rintro en w' ⟨rfl, q', e', k'⟩
    exact ⟨rfl, q', e', k2_19 k'⟩
end Go.Proofs.YtpodakndckflgaaGreatDoor

namespace Go.Proofs.YtpodakndckflgaaGreatDoor
open Go.RowKit Go.Shelf
set_option linter.unusedVariables false
set_option linter.unusedSimpArgs false
/-- One more thing is told: bytes of the stream at hand are put behind those that are there. -/
def psh19 (l : List E19) (x : E19) : List E19 :=
  if x.kd = 0 then l else match l.getLast? with
  | some y => if x.kd = 3 ∧ y.kd = 3 ∧ y.st = x.st then l.dropLast ++ [{ y with bs := y.bs ++ x.bs }] else l ++ [x]
  | none => l ++ [x]
theorem psh19_none (l : List E19) : psh19 l e019 = l := rfl
/-- What is told of bytes to their end, or to the first wrong one: the error, what is waited for, what was told, what is left. -/
noncomputable def ful19 : R19 → List E19 → List Int → Int × Int × List E19 × List Int
  | s, l, [] => (0, s.nx, l, [])
  | s, l, v :: r =>
    if s.nx = 8 then (0, s.nx, l, v :: r)
    else if (dg19 (am19 s v) e019 v).2.1 ≠ 0 then ((dg19 (am19 s v) e019 v).2.1, s.nx, l, v :: r)
    else ful19 (dg19 (am19 s v) e019 v).2.2.1 (psh19 l (dg19 (am19 s v) e019 v).2.2.2) r
theorem ful19_over {s : R19} {l : List E19} {z : List Int} (h : s.nx = 8) : ful19 s l z = (0, 8, l, z) := by
  cases z with
  | nil => rw [ful19, h]
  | cons v r => rw [ful19, if_pos h, h]
/-- The first three of what is done with a byte hang not on what is told so far. -/
theorem dg19_e (s : R19) (e : E19) (v : Int) : (dg19 s e v).1 = (dg19 s e019 v).1 ∧ (dg19 s e v).2.1 = (dg19 s e019 v).2.1 ∧ (dg19 s e v).2.2.1 = (dg19 s e019 v).2.2.1 := by
  unfold dg19
  split
  · exact ⟨rfl, rfl, rfl⟩
  split
  · exact ⟨rfl, rfl, rfl⟩
  split
  · exact ⟨rfl, rfl, rfl⟩
  split
  · unfold hs19
    split
    · split <;> exact ⟨rfl, rfl, rfl⟩
    · exact ⟨rfl, rfl, rfl⟩
  split
  · unfold sz19
    split
    · split <;> exact ⟨rfl, rfl, rfl⟩
    · exact ⟨rfl, rfl, rfl⟩
  split
  · exact ⟨rfl, rfl, rfl⟩
  · unfold es19
    split <;> exact ⟨rfl, rfl, rfl⟩
/-- Of a byte that is none of a stream. -/
theorem dg19_out {s : R19} (e : E19) (v : Int) (h : G19 s) (h6 : s.nx ≠ 6) (h8 : s.nx ≠ 8) (he : (dg19 s e v).2.1 = 0) :
    ((dg19 s e v).1 = false ∧ (dg19 s e v).2.2.2 = e ∧ (dg19 s e v).2.2.1.nx ≠ 6 ∧ (dg19 s e v).2.2.1.nx ≠ 8 ∧ (s.nx ≤ 4 → (dg19 s e v).2.2.1.nx ≤ 4) ∧ (5 ≤ s.nx → (dg19 s e v).2.2.1.nx = s.nx) ∧ (dg19 s e v).2.2.1.wn = s.wn) ∨
    ((dg19 s e v).1 = true ∧ (∀ e', (dg19 s e' v).2.2.2 = (dg19 s e v).2.2.2) ∧ (dg19 s e v).2.2.2.kd ≠ 0 ∧ (dg19 s e v).2.2.2.kd ≠ 3 ∧ (dg19 s e v).2.2.2.bs = [] ∧
      ((s.nx = 4 ∧ (dg19 s e v).2.2.1.wn = s.wn ∧ ((dg19 s e v).2.2.1.nx = 5 ∨ (dg19 s e v).2.2.1.nx = 7)) ∨ (s.nx = 5 ∧ (dg19 s e v).2.2.1.wn = s.wn + 1 ∧ (dg19 s e v).2.2.1.nx = 6) ∨ (s.nx = 7 ∧ (dg19 s e v).2.2.1.wn = s.wn ∧ (dg19 s e v).2.2.1.nx = 8))) := by
  have hn := h.nx
  rcases (by omega : s.nx = 1 ∨ s.nx = 2 ∨ s.nx = 3 ∨ s.nx = 4 ∨ s.nx = 5 ∨ s.nx = 7) with hj | hj | hj | hj | hj | hj
  · rw [dg19_1 e v hj]
    left
    have : ((mg19 s v).2.nx = 1 ∨ (mg19 s v).2.nx = 2) ∧ (mg19 s v).2.wn = s.wn := by
      unfold mg19
      split
      · refine ⟨?_, rfl⟩
        show (if (s.cn + 1) % 5 = 0 then (2 : Int) else s.nx) = 1 ∨ (if (s.cn + 1) % 5 = 0 then (2 : Int) else s.nx) = 2
        split
        · exact .inr rfl
        · exact .inl hj
      · exact ⟨.inl hj, rfl⟩
    exact ⟨rfl, rfl, by dsimp only; omega, by dsimp only; omega, fun _ => by dsimp only; omega, fun x => by omega, this.2⟩
  · rw [dg19_2 e v hj]
    left
    have kp := nb19_kp (s := s) (v := v) (m := 4) (by decide) ⟨h.cn.1, h.cn.2.2.1 hj⟩
    have : ((hn19 s v).2.nx = 2 ∨ (hn19 s v).2.nx = 3) ∧ (hn19 s v).2.wn = s.wn := by
      unfold hn19
      split
      · exact ⟨.inr rfl, kp.2.2.1⟩
      · exact ⟨.inl (kp.1.trans hj), kp.2.2.1⟩
    exact ⟨rfl, rfl, by dsimp only; omega, by dsimp only; omega, fun _ => by dsimp only; omega, fun x => by omega, this.2⟩
  · rw [dg19_3 e v hj]
    left
    have : (im19 s v).nx = 3 ∨ (im19 s v).nx = 4 := by
      show (if (s.cn + 1) % 8 = 0 then (4 : Int) else s.nx) = 3 ∨ (if (s.cn + 1) % 8 = 0 then (4 : Int) else s.nx) = 4
      split
      · exact .inr rfl
      · exact .inl hj
    exact ⟨rfl, rfl, by dsimp only; omega, by dsimp only; omega, fun _ => by dsimp only; omega, fun x => by omega, rfl⟩
  · have e4 := fun x => dg19_4 x v hj
    rw [e4] at he ⊢
    simp only [e4]
    unfold hs19 at he ⊢
    split
    · rename_i hx
      rw [if_pos hx] at he
      split
      · right
        refine ⟨rfl, fun _ => rfl, by show (1 : Int) ≠ 0; decide, by show (1 : Int) ≠ 3; decide, rfl, .inl ⟨hj, rfl, ?_⟩⟩
        show go19 s = 5 ∨ go19 s = 7
        unfold go19
        split
        · exact .inr rfl
        · exact .inl rfl
      · rename_i hk
        rw [if_neg hk] at he
        cases he
    · left
      exact ⟨rfl, rfl, by dsimp only; omega, by dsimp only; omega, fun _ => by dsimp only; omega, fun x => rfl, rfl⟩
  · have e5 := fun x => dg19_5 x v hj
    rw [e5] at he ⊢
    simp only [e5]
    have kp := nb19_kp (s := s) (v := v) (m := 7) (by decide) ⟨h.cn.1, h.cn.2.2.2.2.2.1 hj⟩
    unfold sz19 at he ⊢
    split
    · rename_i hx
      rw [if_pos hx] at he
      split
      · right
        exact ⟨rfl, fun _ => rfl, by show (2 : Int) ≠ 0; decide, by show (2 : Int) ≠ 3; decide, rfl, .inr (.inl ⟨hj, congrArg (· + 1) kp.2.2.1, rfl⟩)⟩
      · rename_i hk
        rw [if_neg hk] at he
        cases he
    · left
      have k1 := kp.1
      exact ⟨rfl, rfl, by dsimp only; omega, by dsimp only; omega, fun _ => by dsimp only; omega, fun x => kp.1, kp.2.2.1⟩
  · have e7 := fun x => dg19_7 x v hj
    rw [e7] at he ⊢
    simp only [e7]
    unfold es19 at he ⊢
    split
    · right
      exact ⟨rfl, fun _ => rfl, by show (4 : Int) ≠ 0; decide, by show (4 : Int) ≠ 3; decide, rfl, .inr (.inr ⟨hj, rfl, rfl⟩)⟩
    · left
      exact ⟨rfl, rfl, by dsimp only; omega, by dsimp only; omega, fun _ => by dsimp only; omega, fun x => rfl, rfl⟩
/-- Of a byte of a stream. -/
theorem op19_in {a b c : Int} (h : (op19 a b c).2 = true) : ((op19 a b c).1 = 0 ∧ 0 < a) ∨ ((op19 a b c).1 = 1 ∧ ¬ 0 < a ∧ 0 < b) ∨ ((op19 a b c).1 = 2 ∧ ¬ 0 < a ∧ ¬ 0 < b ∧ 0 < c) := by
  unfold op19 at h ⊢
  by_cases h0 : 0 < a
  · rw [if_pos h0]; exact .inl ⟨rfl, h0⟩
  · rw [if_neg h0] at h ⊢
    by_cases h1 : 0 < b
    · rw [if_pos h1]; exact .inr (.inl ⟨rfl, h0, h1⟩)
    · rw [if_neg h1] at h ⊢
      by_cases h2 : 0 < c
      · rw [if_pos h2]; exact .inr (.inr ⟨rfl, h0, h1, h2⟩)
      · rw [if_neg h2] at h; cases h
/-- How many streams still have bytes. -/
def cS19 (a b c : Int) : Int := (if 0 < a then 1 else 0) + (if 0 < b then 1 else 0) + (if 0 < c then 1 else 0)
theorem cS19_bd (a b c : Int) : 0 ≤ cS19 a b c ∧ cS19 a b c ≤ 3 := by unfold cS19; split <;> split <;> split <;> decide
/-- A stream's byte: either the stream has more, and is still the one at hand; or it has ended, and is not at hand any more. -/
theorem dg19_in {s : R19} (e : E19) (v : Int) (h : G19 s) (h6 : s.nx = 6) :
    (dg19 s e v).2.2.2 = { e with kd := 3, st := (op19 s.l0 s.l1 s.l2).1, bs := e.bs ++ [v] } ∧ (dg19 s e v).2.1 = 0 ∧ (dg19 s e v).2.2.1.wn = s.wn ∧
    (((dg19 s e v).1 = false ∧ (dg19 s e v).2.2.1.nx = 6 ∧ (op19 (dg19 s e v).2.2.1.l0 (dg19 s e v).2.2.1.l1 (dg19 s e v).2.2.1.l2).1 = (op19 s.l0 s.l1 s.l2).1 ∧ cS19 (dg19 s e v).2.2.1.l0 (dg19 s e v).2.2.1.l1 (dg19 s e v).2.2.1.l2 = cS19 s.l0 s.l1 s.l2) ∨
     ((dg19 s e v).1 = true ∧ cS19 (dg19 s e v).2.2.1.l0 (dg19 s e v).2.2.1.l1 (dg19 s e v).2.2.1.l2 + 1 = cS19 s.l0 s.l1 s.l2 ∧ (((dg19 s e v).2.2.1.nx = 6 ∧ (op19 (dg19 s e v).2.2.1.l0 (dg19 s e v).2.2.1.l1 (dg19 s e v).2.2.1.l2).1 ≠ (op19 s.l0 s.l1 s.l2).1) ∨ ((dg19 s e v).2.2.1.nx = 5 ∨ (dg19 s e v).2.2.1.nx = 7)))) := by
  have ho := op19_in (h.st h6)
  rw [dg19_6 e v h6]
  unfold sm19
  generalize hk : (op19 s.l0 s.l1 s.l2).1 = k at *
  have hg : go19 (sk19 s k) = 7 ∨ go19 (sk19 s k) = 5 := by unfold go19; split <;> simp
  rcases ho with ⟨rfl, h0⟩ | ⟨rfl, h0, h1⟩ | ⟨rfl, h0, h1, h2⟩
  · have hs : sk19 s 0 = { s with l0 := s.l0 - 1 } := by unfold sk19; rw [if_pos rfl]
    have hl : lk19 (sk19 s 0) 0 = s.l0 - 1 := by rw [hs]; unfold lk19; rw [if_pos rfl]
    rw [hl]
    by_cases hz : s.l0 - 1 = 0
    · have c1 : cS19 (s.l0 - 1) s.l1 s.l2 + 1 = cS19 s.l0 s.l1 s.l2 := by unfold cS19; rw [if_neg (show ¬ 0 < s.l0 - 1 by omega), if_pos h0]; omega
      by_cases hop : (op19 (sk19 s 0).l0 (sk19 s 0).l1 (sk19 s 0).l2).2 = true
      · have o2 := op19_in hop
        simp only [hop, if_true]
        rw [hs] at o2 ⊢
        refine ⟨by first | rfl | trivial, by first | rfl | trivial, by first | rfl | trivial, .inr ⟨by simp [hz], c1, .inl ⟨h6, ?_⟩⟩⟩
        dsimp only at o2 ⊢
        rcases o2 with ⟨_, y⟩ | ⟨y, _⟩ | ⟨y, _⟩ <;> omega
      · simp only [hop, if_false]
        refine ⟨by first | rfl | trivial, by first | rfl | trivial, ?_, .inr ⟨by simp [hz], ?_, .inr ?_⟩⟩
        · show (sk19 s 0).wn = s.wn; rw [hs]
        · show cS19 (sk19 s 0).l0 (sk19 s 0).l1 (sk19 s 0).l2 + 1 = _; rw [hs]; exact c1
        · show go19 (sk19 s 0) = 5 ∨ go19 (sk19 s 0) = 7; omega
    · have hp : 0 < s.l0 - 1 := by omega
      have hop : (op19 (sk19 s 0).l0 (sk19 s 0).l1 (sk19 s 0).l2) = (0, true) := by rw [hs]; unfold op19; rw [if_pos hp]
      simp only [hop, if_true]
      rw [hs]
      refine ⟨by first | rfl | trivial, by first | rfl | trivial, by first | rfl | trivial, .inl ⟨by simp [hz], h6, ?_, ?_⟩⟩
      · first | trivial | (show (op19 (s.l0 - 1) s.l1 s.l2).1 = 0; unfold op19; rw [if_pos hp])
      · show cS19 (s.l0 - 1) s.l1 s.l2 = _; unfold cS19; rw [if_pos hp, if_pos h0]
  · have hs : sk19 s 1 = { s with l1 := s.l1 - 1 } := by unfold sk19; rw [if_neg (by decide), if_pos rfl]
    have hl : lk19 (sk19 s 1) 1 = s.l1 - 1 := by rw [hs]; unfold lk19; rw [if_neg (by decide), if_pos rfl]
    rw [hl]
    by_cases hz : s.l1 - 1 = 0
    · have c1 : cS19 s.l0 (s.l1 - 1) s.l2 + 1 = cS19 s.l0 s.l1 s.l2 := by unfold cS19; rw [if_neg h0, if_neg (show ¬ 0 < s.l1 - 1 by omega), if_pos h1]; omega
      by_cases hop : (op19 (sk19 s 1).l0 (sk19 s 1).l1 (sk19 s 1).l2).2 = true
      · have o2 := op19_in hop
        simp only [hop, if_true]
        rw [hs] at o2 ⊢
        refine ⟨by first | rfl | trivial, by first | rfl | trivial, by first | rfl | trivial, .inr ⟨by simp [hz], c1, .inl ⟨h6, ?_⟩⟩⟩
        dsimp only at o2 ⊢
        rcases o2 with ⟨y, _⟩ | ⟨_, _, y⟩ | ⟨y, _⟩ <;> omega
      · simp only [hop, if_false]
        refine ⟨by first | rfl | trivial, by first | rfl | trivial, ?_, .inr ⟨by simp [hz], ?_, .inr ?_⟩⟩
        · show (sk19 s 1).wn = s.wn; rw [hs]
        · show cS19 (sk19 s 1).l0 (sk19 s 1).l1 (sk19 s 1).l2 + 1 = _; rw [hs]; exact c1
        · show go19 (sk19 s 1) = 5 ∨ go19 (sk19 s 1) = 7; omega
    · have hp : 0 < s.l1 - 1 := by omega
      have hop : (op19 (sk19 s 1).l0 (sk19 s 1).l1 (sk19 s 1).l2) = (1, true) := by rw [hs]; unfold op19; rw [if_neg h0, if_pos hp]
      simp only [hop, if_true]
      rw [hs]
      refine ⟨by first | rfl | trivial, by first | rfl | trivial, by first | rfl | trivial, .inl ⟨by simp [hz], h6, ?_, ?_⟩⟩
      · first | trivial | (show (op19 s.l0 (s.l1 - 1) s.l2).1 = 1; unfold op19; rw [if_neg h0, if_pos hp])
      · show cS19 s.l0 (s.l1 - 1) s.l2 = _; unfold cS19; rw [if_pos hp, if_pos h1]
  · have hs : sk19 s 2 = { s with l2 := s.l2 - 1 } := by unfold sk19; rw [if_neg (by decide), if_neg (by decide)]
    have hl : lk19 (sk19 s 2) 2 = s.l2 - 1 := by rw [hs]; unfold lk19; rw [if_neg (by decide), if_neg (by decide)]
    rw [hl]
    by_cases hz : s.l2 - 1 = 0
    · have c1 : cS19 s.l0 s.l1 (s.l2 - 1) + 1 = cS19 s.l0 s.l1 s.l2 := by unfold cS19; rw [if_neg h0, if_neg h1, if_neg (show ¬ 0 < s.l2 - 1 by omega), if_pos h2]; omega
      by_cases hop : (op19 (sk19 s 2).l0 (sk19 s 2).l1 (sk19 s 2).l2).2 = true
      · have o2 := op19_in hop
        rw [hs] at o2
        dsimp only at o2
        exfalso
        rcases o2 with ⟨_, y⟩ | ⟨_, _, y⟩ | ⟨_, _, _, y⟩ <;> omega
      · simp only [hop, if_false]
        refine ⟨by first | rfl | trivial, by first | rfl | trivial, ?_, .inr ⟨by simp [hz], ?_, .inr ?_⟩⟩
        · show (sk19 s 2).wn = s.wn; rw [hs]
        · show cS19 (sk19 s 2).l0 (sk19 s 2).l1 (sk19 s 2).l2 + 1 = _; rw [hs]; exact c1
        · show go19 (sk19 s 2) = 5 ∨ go19 (sk19 s 2) = 7; omega
    · have hp : 0 < s.l2 - 1 := by omega
      have hop : (op19 (sk19 s 2).l0 (sk19 s 2).l1 (sk19 s 2).l2) = (2, true) := by rw [hs]; unfold op19; rw [if_neg h0, if_neg h1, if_pos hp]
      simp only [hop, if_true]
      rw [hs]
      refine ⟨by first | rfl | trivial, by first | rfl | trivial, by first | rfl | trivial, .inl ⟨by simp [hz], h6, ?_, ?_⟩⟩
      · first | trivial | (show (op19 s.l0 s.l1 (s.l2 - 1)).1 = 2; unfold op19; rw [if_neg h0, if_neg h1, if_pos hp])
      · show cS19 s.l0 s.l1 (s.l2 - 1) = _; unfold cS19; rw [if_pos hp, if_pos h2]
end Go.Proofs.YtpodakndckflgaaGreatDoor
