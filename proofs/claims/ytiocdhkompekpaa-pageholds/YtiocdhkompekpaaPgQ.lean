
import Derived.Test.YtiocdhkompekpaaPgP
namespace Go.Proofs.Ytiocdhkompekpaa
open Go.RowKit Go.Shelf
set_option linter.unusedVariables false
set_option linter.unusedSimpArgs false

/-! What is read behind bytes that were written (pure). -/
theorem rb22_gen (S : Fs21) (x : Int) (L : List Int) (N : Nat) (hp : 0 < S.pg) (h : ∀ y : Nat, y < N → (sh21 S x (y : Int)).b = ch22 S.pg L y) : rb21 S x 0 (N * S.pg) = (L ++ List.replicate (N * S.pg) 255).take (N * S.pg) := by
  apply List.ext_getElem
  · rw [rb21_len]; simp
  · intro i h1 h2
    rw [rb21_len] at h1
    have hy : i / S.pg < N := Nat.div_lt_of_lt_mul (by rw [Nat.mul_comm]; exact h1)
    have hm : i % S.pg < S.pg := Nat.mod_lt _ hp
    have hi : i / S.pg * S.pg + i % S.pg = i := by rw [Nat.mul_comm]; exact Nat.div_add_mod i S.pg
    simp only [rb21, List.getElem_map, List.getElem_range, Nat.zero_add, pb21]
    rw [h _ hy]
    unfold ch22
    rw [List.getElem_take]
    simp only [List.getD, List.getElem?_take, hm, if_true, List.getElem?_drop, hi]
    by_cases hl : i < L.length
    · rw [List.getElem?_eq_getElem hl, List.getElem_append_left hl]; rfl
    · rw [List.getElem?_eq_none (by omega), List.getElem_append_right (by omega)]
      simp
theorem rb22_same {S S' : Fs21} {x : Int} (hp : S'.pg = S.pg) (h : ∀ y, sh21 S' x y = sh21 S x y) (a n : Nat) : rb21 S' x a n = rb21 S x a n := by
  unfold rb21 pb21
  rw [hp]
  simp only [h]
theorem hp22_rd {S0 S : Fs21} {P : Pw22} {ar : Int} {L : List Int} (h : Hp22 S0 S P ar L) : rb21 S ar 0 (P.pn * S0.pg) = L.take (P.pn * S0.pg) := by
  have hp : 0 < S.pg := by rw [h.pg]; have := h.lt; omega
  have := rb22_gen S ar L P.pn hp (fun y hy => by
    rw [h.sh, if_pos ⟨rfl, by omega, by omega⟩, h.pg]
    show ch22 _ _ _ = _
    congr 1)
  rw [h.pg] at this
  rw [this, List.take_append_of_le_length]
  have := h.pn; omega
theorem hp22_pn {S0 S : Fs21} {P : Pw22} {ar : Int} {L : List Int} (h : Hp22 S0 S P ar L) : L.length / S0.pg = P.pn ∧ L.length / S0.pg * S0.pg = P.pn * S0.pg := by
  have h1 := h.pn
  have h2 := h.lt
  have e : L.length / S0.pg = P.pn := by
    rw [← h1, Nat.add_comm, Nat.add_mul_div_right _ _ (by omega), Nat.div_eq_of_lt h2]; omega
  exact ⟨e, by rw [e]⟩
theorem hp22_oth {S0 S : Fs21} {P : Pw22} {ar : Int} {L : List Int} (h : Hp22 S0 S P ar L) (x : Int) (hx : x ≠ ar) (a n : Nat) : rb21 S x a n = rb21 S0 x a n :=
  rb22_same h.pg (fun y => by rw [h.sh, if_neg (fun q => hx q.1)]) a n
/-- What End leaves. -/
structure He22 (S0 S' : Fs21) (P' : Pw22) (ar : Int) (L : List Int) (N : Nat) : Prop where
  qt : Qt22 S'
  pg : S'.pg = S0.pg
  ps : S'.ps = S0.ps
  ok : Ok21 S'
  pn : P'.pn = N
  ge : L.length ≤ N * S0.pg
  le : N ≤ S0.ps
  rd : rb21 S' ar 0 (N * S0.pg) = L ++ List.replicate (N * S0.pg - L.length) 255
  ot : ∀ x, x ≠ ar → ∀ a n, rb21 S' x a n = rb21 S0 x a n
theorem hp22_end {S0 S : Fs21} {P : Pw22} {ar : Int} {L : List Int} (h : Hp22 S0 S P ar L) (har : ar = 0 ∨ ar = 1) (hL : L.length ≤ S0.pg * S0.ps) :
    edE22 S P = 0 ∧ He22 S0 (edS22 S P) (edP22 S P) ar L ((L.length + S0.pg - 1) / S0.pg) := by
  have h1 := h.pn
  have h2 := h.lt
  have hz : ¬ ((0 : Int) ≠ 0) := by simp
  unfold edE22 edS22 edP22
  rw [h.cl, if_neg hz, if_neg hz, if_neg hz]
  unfold enE22 enS22 enP22
  by_cases hb : 0 < P.bf.length
  · rw [if_pos hb, if_pos hb, if_pos hb]
    have hN : (L.length + S0.pg - 1) / S0.pg = P.pn + 1 := by
      have e : L.length + S0.pg - 1 = (P.bf.length - 1) + (P.pn + 1) * S0.pg := by rw [Nat.succ_mul]; omega
      rw [e, Nat.add_mul_div_right _ _ (by omega), Nat.div_eq_of_lt (by omega)]; omega
    rw [hN]
    have hsm : (P.pn + 1) * S0.pg = P.pn * S0.pg + S0.pg := Nat.succ_mul _ _
    have hlt : P.pn < S0.ps := by
      have h3 : P.pn * S0.pg < S0.ps * S0.pg := by rw [Nat.mul_comm S0.ps]; omega
      exact Nat.lt_of_mul_lt_mul_right h3
    obtain ⟨y1, y2, y3, y4, y5⟩ := ly22_hold (P := P) h.qt (by rw [h.ea]; exact har) (by rw [h.ps]; exact hlt) (by rw [h.pg]; omega) (by rw [h.sh, if_neg (by omega), h.ea]; exact h.wr _)
    have hy := lyS22_pg S P
    have hpg : (lyS22 S P).pg = S0.pg := hy.1.trans h.pg
    rw [if_neg (by rw [y1]; simp)]
    refine ⟨y1, y3, hpg, hy.2.1.trans h.ps, ok22_ly h.ok _, ?_, by omega, by omega, ?_, fun x hx a n => ?_⟩
    · rw [y2]
    · have := rb22_gen (lyS22 S P) ar L (P.pn + 1) (by rw [hpg]; omega) (fun y hy' => by
        rw [y5, hpg, h.ea]
        by_cases e : y = P.pn
        · rw [if_pos ⟨rfl, by omega⟩, e]
          show P.bf = ch22 _ _ _
          unfold ch22
          rw [← h.bf, List.take_of_length_le (by omega)]
        · rw [if_neg (by omega), h.sh, if_pos ⟨rfl, by omega, by omega⟩]
          show ch22 _ _ _ = _
          congr 1)
      rw [hpg] at this
      rw [this, List.take_append, List.take_of_length_le (by omega), List.take_replicate]
      congr 2
      omega
    · exact rb22_same (S := S0) hpg (fun y => by rw [y5, if_neg (fun q => hx (by rw [q.1, h.ea])), h.sh, if_neg (fun q => hx q.1)]) a n
  · rw [if_neg hb, if_neg hb, if_neg hb]
    have hN : (L.length + S0.pg - 1) / S0.pg = P.pn := by
      have e : L.length + S0.pg - 1 = (S0.pg - 1) + P.pn * S0.pg := by omega
      rw [e, Nat.add_mul_div_right _ _ (by omega), Nat.div_eq_of_lt (by omega)]; omega
    rw [hN]
    refine ⟨rfl, h.qt, h.pg, h.ps, h.ok, rfl, by omega, ?_, ?_, fun x hx a n => hp22_oth h x hx a n⟩
    · have h3 : P.pn * S0.pg ≤ S0.ps * S0.pg := by rw [Nat.mul_comm S0.ps]; omega
      exact Nat.le_of_mul_le_mul_right h3 (by omega)
    · rw [hp22_rd h, List.take_of_length_le (by omega), show P.pn * S0.pg - L.length = 0 by omega]; simp
end Go.Proofs.Ytiocdhkompekpaa
