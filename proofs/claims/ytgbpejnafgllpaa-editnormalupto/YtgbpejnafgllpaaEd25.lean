
import Derived.Test.YtgbpejnafgllpaaEd24
import Derived.Test.YtgbpejnafgllpaaOwnSeg
namespace Go.Proofs.Ytgbpejnafgllpaa
open Go.RowKit Go.Shelf
set_option linter.unusedVariables false

/-! Normal, as the laws meet it. -/
variable {w : World} {sa da xa : Option Addr} {n sc m dc k xc : Nat} {S : List St16} {D X : List Int}
/-- What is known of an edit's origins. -/
structure Or16 (O : List Og16) : Prop where
  len : O.length ≤ 16777216
  at_ : ∀ o ∈ O, -576460752303423488 ≤ o.1 ∧ o.1 ≤ 576460752303423488
  own : ∀ o ∈ O, o.2.2 = true → o.1 = 0
  by_ : ∀ o ∈ O, 0 ≤ o.2.1 ∧ o.2.1 ≤ 255
theorem or16 (h : Ed16 w sa n S da m D xa k X) (hi : it16 S m k = 0) : Or16 (og16 S D X S.length) := by
  obtain ⟨i1, i2, i3, i4⟩ := it16_zero hi
  have hb := og16_bd (S := S) (D := D) (X := X) h.sd.bd h.sx.bd S.length
  exact ⟨by rw [og16_len, i2, i3]; exact i4, og16_at i1 (by have := h.hn; have := h.ln; omega) S.length (Nat.le_refl _), fun o ho => (hb o ho).2.2, fun o ho => ⟨(hb o ho).1, (hb o ho).2.1⟩⟩
/-- The normal edit in memory. -/
structure Nf16 (w : World) (s : Wt16) (pa : Option Addr) (ca : Nat) (pd : Option Addr) (cd : Nat) (px : Option Addr) (cx : Nat) (w' : World) : Prop where
  ed : Ed16 w' pa s.fin.length s.fin pd s.D.length s.D px s.X.length s.X
  cd_ : s.D.length ≤ cd
  cx_ : s.X.length ≤ cx
  bl : Below w.heap.size w w'
theorem nf16 {O : List Og16} {s : Wt16} {vS vD vX : Value} {base : Nat} {w' : World} (hO : Or16 O) (hw : wr16 O = some s) (o1 : w'.ownsRow base 53 3 vS s.fin.length (flat16 s.fin)) (o2 : w'.ownsRow base 5 1 vD s.D.length (s.D.map (Value.int .u8))) (o3 : w'.ownsRow base 5 1 vX s.X.length (s.X.map (Value.int .u8))) (bl : Below w.heap.size w w') :
    ∃ pa ca pd cd px cx, vS = .slice pa s.fin.length ca ∧ vD = .slice pd s.D.length cd ∧ vX = .slice px s.X.length cx ∧ Nf16 w s pa ca pd cd px cx w' := by
  obtain ⟨hD, hX⟩ := wr16_by hO.by_ O.length (Nat.le_refl _) s (by rw [List.take_length]; exact hw)
  obtain ⟨f1, f2, f3, f4⟩ := wr16_fin hO.len hO.at_ hO.own hw
  obtain ⟨_, bd⟩ := wr16_ow hO.len hO.at_ hO.own O.length (Nat.le_refl _) s (by rw [List.take_length]; exact hw)
  have hOl := hO.len
  have hfl : s.fin.length ≤ 16777217 := by
    have := bd.S
    unfold Wt16.fin
    split
    · omega
    · simp; omega
  obtain ⟨_, pd, cd, rfl, sD, _, lD, _⟩ := own_seg o2 (M := 255) (by omega) hD
  obtain ⟨_, px, cx, rfl, sX, _, lX, _⟩ := own_seg o3 (M := 255) (by omega) hX
  obtain ⟨pa, la, ca, rfl⟩ : ∃ pa la ca, vS = .slice pa la ca := own_slice16 o1
  have hla : la = s.fin.length := by
    rcases o1.2 with ⟨e, h0⟩ | ⟨g, cap, cur, e, _⟩
    · simp only [Value.slice.injEq] at e; omega
    · simp only [Value.slice.injEq] at e; omega
  subst hla
  have hf : ∀ t ∈ s.fin, Fit16 t := by
    intro t ht
    have := List.all_eq_true.1 (ok_all16 f4) t ht
    have := may16_iff.1 this
    unfold Fit16
    omega
  exact ⟨pa, ca, pd, cd, px, cx, rfl, rfl, rfl, ⟨own_segS16 o1 rfl hf, sD, sX, rfl, rfl, rfl, by omega, by have := bd.D; omega, by have := bd.X; omega⟩, lD, lX, bl⟩
/-- Normal: it errs, or there is the normal edit. -/
theorem pnmE16 (h : Ed16 w sa n S da m D xa k X) (hdc : m ≤ dc) (hxc : k ≤ xc) :
    Calls Try.prog 11 #[ev16 sa n sc da m dc xa k xc] w fun e w' =>
      (∃ er, er ≠ 0 ∧ e = .returned (.tuple #[.agg #[.slice none 0 0, .slice none 0 0, .slice none 0 0], .int .i64 er]) ∧ Below w.heap.size w w' ∧ (it16 S m k ≠ 0 ∨ wr16 (og16 S D X S.length) = none)) ∨
      (∃ s pa ca pd cd px cx, it16 S m k = 0 ∧ wr16 (og16 S D X S.length) = some s ∧ e = .returned (.tuple #[ev16 pa s.fin.length ca pd s.D.length cd px s.X.length cx, .int .i64 0]) ∧ Nf16 w s pa ca pd cd px cx w') := by
  refine (pnml16 h hdc hxc).mono ?_
  intro e w' hq
  unfold NmQ16 at hq
  rw [h.hm, h.hk] at hq
  by_cases hi : it16 S m k = 0
  · rw [if_pos hi] at hq
    cases hw : wr16 (og16 S D X S.length) with
    | none =>
      rw [hw] at hq
      exact .inl ⟨160, by decide, hq.1, hq.2, .inr rfl⟩
    | some s =>
      rw [hw] at hq
      obtain ⟨vS, vD, vX, rfl, o1, o2, o3, bl⟩ := hq
      obtain ⟨pa, ca, pd, cd, px, cx, rfl, rfl, rfl, nf⟩ := nf16 (or16 h hi) hw o1 o2 o3 bl
      exact .inr ⟨s, pa, ca, pd, cd, px, cx, hi, rfl, rfl, nf⟩
  · rw [if_neg hi] at hq
    exact .inl ⟨_, hi, hq.1, hq.2, .inl hi⟩
end Go.Proofs.Ytgbpejnafgllpaa
