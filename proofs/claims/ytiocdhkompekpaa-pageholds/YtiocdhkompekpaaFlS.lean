
import Derived.Test.YtiocdhkompekpaaFlR
import Derived.Test.YtiocdhkompekpaaFlP
import Derived.Test.YtiocdhkompekpaaFlL
import Derived.Lib.SlBytesConst
namespace Go.Proofs.Ytiocdhkompekpaa
open Go.RowKit Go.Shelf
set_option linter.unusedVariables false
set_option linter.unusedSimpArgs false

/-! The law's lives. -/
theorem seg_lit21 (w : World) (zs : List Int) (t : TypeId) (fr : Nat × Nat) (h : ∀ z ∈ zs, 0 ≤ z ∧ z ≤ 255) : Seg (w.alloc (.cells (zs.map (Value.int .u8)).toArray t fr)) (some ⟨w.heap.size, 0, none⟩) zs := by
  refine ⟨fun i hi => ⟨w.heap.size, 0, rfl, ?_⟩, by decide, getD_bd (by decide) h⟩
  have e : zs.getD i 0 = zs[i] := by simp [List.getD, hi]
  rw [e, Nat.zero_add, World.cell?_alloc_mark]
  simp [hi]
def s1_21 : Fs21 := nw21 64 2 0 [111, 108, 100] []
def s2_21 : Fs21 := pgS21 s1_21 1 0 []
def s3_21 : Fs21 := erS21 s2_21 1 0
def s4_21 : Fs21 := pgS21 s3_21 1 0 [120]
theorem ok21_new (p q : Nat) (ac : Int) (L0 L1 : List Int) (hp : 64 ≤ p ∧ p ≤ 4096) (hq : 1 ≤ q ∧ q ≤ 4096) (ha : ac = 0 ∨ ac = 1) : Ok21 (nw21 p q ac L0 L1) := by
  refine ⟨hp, hq, ha, by simp [nw21], by simp [nw21], by simp [nw21], fun x y s h => ?_⟩
  simp only [nw21, pj21] at h
  split at h
  · unfold ck21 at h
    split at h
    · simp only [Option.some.injEq] at h
      subst h
      refine ⟨?_, by simp, by simp, by simp⟩
      show (List.take _ _).length ≤ p
      simp
      omega
    · cases h
  · cases h
theorem ok21_up {S : Fs21} (h : Ok21 S) (x y : Int) (s : Sh21) (hs : s.b.length ≤ S.pg ∧ 0 ≤ s.wr ∧ s.wr ≤ 1099511627776 ∧ (s.er = true → s.b = [])) : ∀ x' y' s', up21 S.pa x y s x' y' = some s' → s'.b.length ≤ S.pg ∧ 0 ≤ s'.wr ∧ s'.wr ≤ 1099511627776 ∧ (s'.er = true → s'.b = []) := by
  intro x' y' s' e
  unfold up21 at e
  split at e
  · cases e; exact hs
  · exact h.sh x' y' s' e
theorem ok21_rn {S : Fs21} (h : Ok21 S) (kd x y : Int) (s : Sh21) (hs : s.b.length ≤ S.pg ∧ 0 ≤ s.wr ∧ s.wr ≤ 1099511627776 ∧ (s.er = true → s.b = [])) : Ok21 (rn21 S kd x y s) := by
  unfold rn21
  split
  · refine ⟨h.pg, h.ps, h.ac, h.lm, by simp [cu21], by simp [cu21], ok21_up h x y _ ⟨?_, hs.2.1, hs.2.2.1, by simp⟩⟩
    show (la21 _ _ _).length ≤ _
    rw [la21_len _ _ _ h.tn (sh21_ok h x y).1]
    exact Nat.le_refl _
  · refine ⟨h.pg, h.ps, h.ac, h.lm, ?_, h.tn, ok21_up h x y s hs⟩
    have := h.lf
    show 0 ≤ max 0 (S.lf - 1) ∧ max 0 (S.lf - 1) ≤ _
    omega
theorem ok21_er {S : Fs21} (h : Ok21 S) (x y : Int) : Ok21 (erS21 S x y) := by
  unfold erS21
  split
  · exact h
  · split
    · exact h
    · rename_i h1 h2
      have h3 := sh21_ok h x y
      have h4 : ¬ 1099511627776 ≤ (sh21 S x y).wr := by
        intro e
        exact h2 (by simp [wo21, e])
      exact ok21_rn h 1 x y _ ⟨by simp, by show 0 ≤ (sh21 S x y).wr + 1; omega, by show (sh21 S x y).wr + 1 ≤ _; omega, fun _ => rfl⟩
theorem ok21_pg {S : Fs21} (h : Ok21 S) (x y : Int) (L : List Int) : Ok21 (pgS21 S x y L) := by
  unfold pgS21
  split
  · exact h
  · split
    · exact h
    · split
      · exact h
      · rename_i h1 h2 h3
        have h4 := sh21_ok h x y
        exact ok21_rn h 2 x y _ ⟨by show L.length ≤ _; omega, h4.2.1, h4.2.2, by simp⟩
theorem Fn21.kpw {w w' : World} {b N : Nat} {F : Nat → Prop} {S : Fs21} (h : Fn21 w w' b F S) (hF : ∀ k, F k → N ≤ k) (hN : N ≤ w.heap.size) : ∃ F', Fl21 w' b F' S ∧ (∀ k, F' k → N ≤ k) ∧ Below N w w' := by
  obtain ⟨F', h1, h2, h3⟩ := h
  exact ⟨F', h1, fun k e => by rcases h2 k e with h | h; (exact hF k h); omega, h3.below hF hN⟩
end Go.Proofs.Ytiocdhkompekpaa
