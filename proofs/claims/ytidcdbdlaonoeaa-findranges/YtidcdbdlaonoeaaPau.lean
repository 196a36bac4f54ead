import Derived.Test.YtidcdbdlaonoeaaPat
import Derived.Deep.RegionHeld3
namespace Go.Proofs.Ytidcdbdlaonoeaa
open Go.RowKit
set_option linter.unusedVariables false

/-! Check: the document's, the program's; Load. -/
def ca13 (n : Nat) (A : List Nat) (X : List Int) : Nat := if lc13 (nz12 A) X < n then lc13 (nz12 A) X else if n < X.length then n else 0
def ce13 (n : Nat) (A : List Nat) (X : List Int) : Int := if lc13 (nz12 A) X < n ∨ n < X.length then 131 else 0
theorem ca13_le (n : Nat) (A : List Nat) (X : List Int) : ca13 n A X ≤ n := by unfold ca13; split <;> (try split) <;> omega
theorem ck13_at {n : Nat} {A : List Nat} {X : List Int} {r : Nat} (hr : r < n) (h : lc13 (nz12 A) X = r) : ca13 n A X = r ∧ ce13 n A X = 131 := by
  unfold ca13 ce13
  rw [h, if_pos hr, if_pos (Or.inl hr)]
  exact ⟨rfl, rfl⟩
theorem ck13_long {n : Nat} {A : List Nat} {X : List Int} (h : lc13 (nz12 A) X = n) (hx : n < X.length) : ca13 n A X = n ∧ ce13 n A X = 131 := by
  unfold ca13 ce13
  rw [h, if_neg (by omega), if_pos hx, if_pos (Or.inr hx)]
  exact ⟨rfl, rfl⟩
theorem ck13_ok {n : Nat} {A : List Nat} {X : List Int} (h : lc13 (nz12 A) X = n) (hx : ¬ n < X.length) : ca13 n A X = 0 ∧ ce13 n A X = 0 := by
  unfold ca13 ce13
  rw [h, if_neg (by omega), if_neg hx, if_neg (by omega)]
  exact ⟨rfl, rfl⟩
theorem ck13_is {n : Nat} {A : List Nat} {X : List Int} (hA : A.length = n) (h : ce13 n A X = 0) : X = nz12 A := by
  unfold ce13 at h
  split at h
  · omega
  · rename_i hn
    have h1 : ¬ lc13 (nz12 A) X < n := fun k => hn (Or.inl k)
    have h2 : ¬ n < X.length := fun k => hn (Or.inr k)
    have h3 := lc13_le (nz12 A) X
    have h4 := lc13_le' (nz12 A) X
    have h5 := lc13_take (nz12 A) X
    rw [nz12_len13, hA] at h3
    have e : lc13 (nz12 A) X = n := by omega
    rw [e, List.take_of_length_le (by rw [nz12_len13]; omega), List.take_of_length_le (by omega)] at h5
    exact h5.symm
theorem ce13_eq (n : Nat) (A : List Nat) (X : List Int) : ce13 n A X = 0 ∨ ce13 n A X = 131 := by unfold ce13; split <;> simp
def CkQ13 (w : World) (z : List Int) (n : Nat) (X : List Int) (e : Ending) (w' : World) : Prop := ∃ A, Ar12 n (S12 z) A ∧ e = .returned (.tuple #[.int .i64 ((ca13 n A X : Nat) : Int), .int .i64 (ce13 n A X)]) ∧ Below w.heap.size w w'
/-- Load: an error, or an index. -/
def LdQ13 (w : World) (z : List Int) (n : Nat) (X : List Int) (e : Ending) (w' : World) : Prop := ∃ A, Ar12 n (S12 z) A ∧ Below w.heap.size w w' ∧ ((ce13 n A X = 131 ∧ e = .returned (.tuple #[.pointer none, .int .i64 131])) ∨ (ce13 n A X = 0 ∧ ∃ b da dc aa ac gb gr, e = .returned (.tuple #[.pointer (some ⟨b, 0, none⟩), .int .i64 0]) ∧ Ix13 w' b da dc aa ac gb gr n z A ∧ w.heap.size ≤ b ∧ w.heap.size ≤ gb ∧ w.heap.size ≤ gr ∧ (∀ x off, da = some ⟨x, off, none⟩ → w.heap.size ≤ x) ∧ (∀ x off, aa = some ⟨x, off, none⟩ → w.heap.size ≤ x)))
end Go.Proofs.Ytidcdbdlaonoeaa

namespace Go.Proofs.Ytidcdbdlaonoeaa
open Go.RowKit
set_option linter.unusedVariables false

/-! The document's Lcp. -/
def Gd13 (w W : World) : Prop := ∃ d, W = w.drewN d
def Sc13 (ga r1 r : Nat) (u v : Int) (W : World) : Prop := W.cell? ⟨ga, r1, none⟩ = some (.int .i64 u) ∧ W.cell? ⟨ga, r, none⟩ = some (.int .i64 v)
end Go.Proofs.Ytidcdbdlaonoeaa

namespace Go.Proofs.Ytidcdbdlaonoeaa
set_option linter.unusedVariables false

/-! How a suffix stands to a text, as mathematics (split off SuI1). -/
theorem ll_iff13 : ∀ (X p : List Int), ¬ lc13 X p = p.length → (LL12 X p ↔ (lc13 X p = X.length ∨ X.getD (lc13 X p) 0 < p.getD (lc13 X p) 0))
  | [], [], h => by simp [lc13] at h
  | _ :: _, [], h => by simp [lc13] at h
  | [], y :: p, h => ⟨fun _ => Or.inl (by simp [lc13]), fun _ => .nil⟩
  | x :: X, y :: p, h => by
    unfold lc13 at h ⊢
    by_cases e : x = y
    · subst e
      rw [if_pos rfl] at h ⊢
      have ih := ll_iff13 X p (by simpa using h)
      constructor
      · intro k
        rcases k.inv with k | ⟨_, k⟩
        · omega
        · rcases ih.1 k with c | c
          · exact Or.inl (by simp [c])
          · exact Or.inr (by simpa [List.getD] using c)
      · intro k
        refine .eq (ih.2 ?_)
        rcases k with c | c
        · exact Or.inl (by simpa using c)
        · exact Or.inr (by simpa [List.getD] using c)
    · rw [if_neg e]
      constructor
      · intro k
        rcases k.inv with k | ⟨k, _⟩
        · exact Or.inr (by simpa [List.getD] using k)
        · exact absurd k e
      · intro k
        rcases k with c | c
        · simp at c
        · exact .lt (by simpa [List.getD] using c)
open Classical in
noncomputable def cv13 (X p : List Int) : Int := if lc13 X p = p.length then 0 else if LL12 X p then -1 else 1
theorem cv13_zero {X p : List Int} (h : lc13 X p = p.length) : cv13 X p = 0 := by unfold cv13; rw [if_pos h]
theorem cv13_less {X p : List Int} (h : ¬ lc13 X p = p.length) (k : LL12 X p) : cv13 X p = -1 := by unfold cv13; rw [if_neg h, if_pos k]
theorem cv13_more {X p : List Int} (h : ¬ lc13 X p = p.length) (k : ¬ LL12 X p) : cv13 X p = 1 := by unfold cv13; rw [if_neg h, if_neg k]
end Go.Proofs.Ytidcdbdlaonoeaa

namespace Go.Proofs.Ytidcdbdlaonoeaa
open Go.RowKit
set_option linter.unusedVariables false

/-! Compare: the landed one, the document's. -/
set_option maxRecDepth 100000 in
set_option maxHeartbeats 4000000 in
theorem pcmp13 (b : Nat) (da : Option Addr) (dc : Nat) (aa : Option Addr) (ac gb gr n : Nat) (z : List Int) (A : List Nat) (i : Nat) (pa : Option Addr) (p : List Int) (m pc : Nat) (w : World) (h : Ix13 w b da dc aa ac gb gr n z A) (hp : Seg w pa p) (hm : Hid (p.length = m)) (hmb : m ≤ 9223372036854775807) (hi : i < n) :
    Calls Try.prog 54 #[.pointer (some ⟨b, 0, none⟩), .int .i64 (i : Int), .slice pa m pc] w fun e w' => e = .returned (.tuple #[.int .i64 (cv13 (z.drop i) p), .int .i64 ((lc13 (z.drop i) p : Nat) : Int), .int .i64 0]) ∧ Below w.heap.size w w' := by
  have hn24 := h.n24
  have B1 : Below w.heap.size w (w.alloc (.cells #[.int .i64 (i : Int)] 3)) := (Below.refl _ _).alloc (Nat.le_refl _) _
  have HR := pref13 b da dc aa ac gb gr n z A (some ⟨w.heap.size, 0, none⟩) [(i : Int)] 1 1 _ (h.old B1) (segZ_lit13 w _ (by omega)) (rfl : _ = _) (by omega)
  rw [er13_one, if_pos (by omega)] at HR
  obtain ⟨xb, off, rfl, c3⟩ := h.dat.at_ i (by rw [h.len]; exact hi)
  have hln : Hid (z.length = n) := h.len
  have HC1 : Hid (∀ W, Below w.heap.size w W → W.cell? ⟨b, 0, none⟩ = some (.slice (some ⟨xb, off, none⟩) n dc) ∧ Seg W (some ⟨xb, off + i, none⟩) (z.drop i) ∧ Seg W pa p) := fun W hW => ⟨(h.old hW).c0, (h.old hW).dat.drop i, hp.old hW⟩
  have HSM : Hid (∀ W, Below w.heap.size w W → Calls Try.prog 38 #[.slice (some ⟨xb, off + i, none⟩) (n - i) (dc - i), .slice pa m pc, .int .i64 0] W fun e w' => e = .returned (.int .i64 ((lc13 (z.drop i) p : Nat) : Int)) ∧ ∃ d, w' = W.drewN d) := fun W hW =>
    psame13 _ (z.drop i) (n - i) _ pa p m pc 0 W (HC1.out W hW).2.1 (HC1.out W hW).2.2 (by show _ = _; rw [List.length_drop, hln.out]) hm (by omega) hmb (Nat.zero_le _)
  have hii : (i : Int) < (n : Int) := by omega
  have hdc := h.dle
  have l1 : i ≤ n := by omega
  have l3 : ¬ dc = i := by omega
  have HDL : Hid ((z.drop i).length = n - i) := by show _ = _; rw [List.length_drop, hln.out]
  have HLX : Hid (lc13 (z.drop i) p ≤ n - i ∧ lc13 (z.drop i) p ≤ m) := ⟨by rw [← HDL.out]; exact lc13_le _ _, by rw [← hm.out]; exact lc13_le' _ _⟩
  clear h hp c3
  generalize hX : z.drop i = X at *
  clear hX
  have HIFF : Hid (¬ lc13 X p = m → (LL12 X p ↔ (lc13 X p = n - i ∨ X.getD (lc13 X p) 0 < p.getD (lc13 X p) 0))) := fun h => by
    have := ll_iff13 X p (by rw [hm.out]; exact h)
    rw [HDL.out] at this
    exact this
  by_cases h1 : lc13 X p = m
  · have HV : Hid (cv13 X p = 0) := cv13_zero (by rw [hm.out]; exact h1)
    rw [HV.out]
    rw [h1] at HSM ⊢
    clear h1 HIFF HLX
    go_enter Try.func54, Try.ntmps54
    go_wp2_with (first
      | (go_at_call 45; refine HR.mono ?_; rintro e1 w2 ⟨rfl, hw1⟩; rw [← hw1] at B1; clear hw1 HR; obtain ⟨c0, -, -⟩ := HC1.out w2 B1)
      | (go_at_call 38; refine (HSM.out w2 B1).mono ?_; rintro e2 w3 ⟨rfl, d, hd⟩; have B3 : Below w.heap.size w w3 := (by rw [hd]; exact B1.trans ⟨rfl, rfl, rfl, Nat.le_refl _, fun _ _ => rfl⟩); clear hd))
    go_ret3
    exact ⟨rfl, B3⟩
  · have h1i : ¬ ((lc13 X p : Nat) : Int) = (m : Int) := by omega
    have h1b : (((lc13 X p : Nat) : Int) == (m : Int)) = false := beq_eq_false_iff_ne.2 h1i
    have hlm : ((lc13 X p : Nat) : Int) < (m : Int) := by have := HLX.out; omega
    have HPC : Hid (∀ W, Below w.heap.size w W → ∃ pb po, pa = some ⟨pb, po, none⟩ ∧ W.cell? ⟨pb, po + lc13 X p, none⟩ = some (.int .u8 (p.getD (lc13 X p) 0)) ∧ 0 ≤ p.getD (lc13 X p) 0 ∧ p.getD (lc13 X p) 0 ≤ 255) := fun W hW => by
      obtain ⟨pb, po, q1, q2⟩ := (HC1.out W hW).2.2.at_ (lc13 X p) (by rw [hm.out]; omega)
      exact ⟨pb, po, q1, q2, (HC1.out W hW).2.2.bd _⟩
    obtain ⟨pb, po, rfl, -, pbd⟩ := HPC.out w (Below.refl _ _)
    have HPD : Hid (∀ W, Below w.heap.size w W → W.cell? ⟨pb, po + lc13 X p, none⟩ = some (.int .u8 (p.getD (lc13 X p) 0))) := fun W hW => by
      obtain ⟨pb', po', q1, q2, -⟩ := HPC.out W hW
      cases q1
      exact q2
    by_cases h3 : lc13 X p = n - i
    · have HV : Hid (cv13 X p = -1) := cv13_less (by rw [hm.out]; exact h1) ((HIFF.out h1).2 (Or.inl h3))
      rw [HV.out]
      have h3b : (((lc13 X p : Nat) : Int) == ((n - i : Nat) : Int)) = true := by rw [h3]; simp
      have h3c : ((lc13 X p : Nat) : Int) = ((n - i : Nat) : Int) := by omega
      clear h1 HIFF HLX HPC HPD
      generalize lc13 X p = v at *
      subst h3
      clear h3b h3c
      go_enter Try.func54, Try.ntmps54
      go_wp2_with (first
        | (go_at_call 45; refine HR.mono ?_; rintro e1 w2 ⟨rfl, hw1⟩; rw [← hw1] at B1; clear hw1 HR; obtain ⟨c0, -, -⟩ := HC1.out w2 B1)
        | (go_at_call 38; refine (HSM.out w2 B1).mono ?_; rintro e2 w3 ⟨rfl, d, hd⟩; have B3 : Below w.heap.size w w3 := (by rw [hd]; exact B1.trans ⟨rfl, rfl, rfl, Nat.le_refl _, fun _ _ => rfl⟩); clear hd))
      go_quiet (fail)
      go_wp2_with fail
      go_ret3
      exact ⟨rfl, B3.trans ⟨rfl, rfl, rfl, Nat.le_refl _, fun _ _ => rfl⟩⟩
    · have h3b : (((lc13 X p : Nat) : Int) == ((n - i : Nat) : Int)) = false := beq_eq_false_iff_ne.2 (by omega)
      have h3l : ((lc13 X p : Nat) : Int) < ((n - i : Nat) : Int) := by have := HLX.out; omega
      have HXD : Hid (∀ W, Below w.heap.size w W → W.cell? ⟨xb, off + i + lc13 X p, none⟩ = some (.int .u8 (X.getD (lc13 X p) 0)) ∧ 0 ≤ X.getD (lc13 X p) 0 ∧ X.getD (lc13 X p) 0 ≤ 255) := fun W hW => by
        obtain ⟨b', o', q1, q2⟩ := (HC1.out W hW).2.1.at_ (lc13 X p) (by rw [HDL.out]; have := HLX.out; omega)
        cases q1
        exact ⟨q2, (HC1.out W hW).2.1.bd _⟩
      have xbd := (HXD.out w (Below.refl _ _)).2
      have HCV : Hid (cv13 X p = if X.getD (lc13 X p) 0 < p.getD (lc13 X p) 0 then -1 else 1) := by
        show _ = _
        by_cases h4 : X.getD (lc13 X p) 0 < p.getD (lc13 X p) 0
        · rw [if_pos h4]; exact cv13_less (by rw [hm.out]; exact h1) ((HIFF.out h1).2 (Or.inr h4))
        · rw [if_neg h4]
          refine cv13_more (by rw [hm.out]; exact h1) fun k => ?_
          rcases (HIFF.out h1).1 k with c | c
          · exact h3 c
          · exact h4 c
      rw [HCV.out]
      clear h1 h3 HIFF HPC HCV
      have hvb : lc13 X p ≤ 16777216 := by have := HLX.out; omega
      clear HLX
      generalize X.getD (lc13 X p) 0 = x1 at *
      generalize p.getD (lc13 X p) 0 = y1 at *
      generalize lc13 X p = v at *
      by_cases h4 : x1 < y1
      · rw [if_pos h4]
        go_enter Try.func54, Try.ntmps54
        go_wp2_with (first
          | (go_at_call 45; refine HR.mono ?_; rintro e1 w2 ⟨rfl, hw1⟩; rw [← hw1] at B1; clear hw1 HR; obtain ⟨c0, -, -⟩ := HC1.out w2 B1)
          | (go_at_call 38; refine (HSM.out w2 B1).mono ?_; rintro e2 w3 ⟨rfl, d, hd⟩; have B3 : Below w.heap.size w w3 := (by rw [hd]; exact B1.trans ⟨rfl, rfl, rfl, Nat.le_refl _, fun _ _ => rfl⟩); clear hd; have c5 := (HXD.out w3 B3).1; have c6 := HPD.out w3 B3))
        go_quiet (fail)
        go_wp2_with fail
        go_ret3
        exact ⟨rfl, B3.trans ⟨rfl, rfl, rfl, Nat.le_refl _, fun _ _ => rfl⟩⟩
      · rw [if_neg h4]
        have h4b : decide (x1 < y1) = false := decide_eq_false h4
        go_enter Try.func54, Try.ntmps54
        go_wp2_with (first
          | (go_at_call 45; refine HR.mono ?_; rintro e1 w2 ⟨rfl, hw1⟩; rw [← hw1] at B1; clear hw1 HR; obtain ⟨c0, -, -⟩ := HC1.out w2 B1)
          | (go_at_call 38; refine (HSM.out w2 B1).mono ?_; rintro e2 w3 ⟨rfl, d, hd⟩; have B3 : Below w.heap.size w w3 := (by rw [hd]; exact B1.trans ⟨rfl, rfl, rfl, Nat.le_refl _, fun _ _ => rfl⟩); clear hd; have c5 := (HXD.out w3 B3).1; have c6 := HPD.out w3 B3))
        have h4c : decide (x1 < y1) = false := decide_eq_false (by omega)
        have h4d : ¬ x1 < y1 := by omega
        go_quiet (fail)
        go_wp2_with fail
        go_ret3
        exact ⟨rfl, B3.trans ⟨rfl, rfl, rfl, Nat.le_refl _, fun _ _ => rfl⟩⟩
end Go.Proofs.Ytidcdbdlaonoeaa

namespace Go.Proofs.Ytidcdbdlaonoeaa
set_option linter.unusedVariables false

/-! Repeat (layer 13), as mathematics. -/
theorem lc13_self : ∀ X : List Int, lc13 X X = X.length
  | [] => rfl
  | x :: X => by unfold lc13; rw [if_pos rfl, lc13_self X]; rfl
theorem lm13_ge {z : List Int} {A : List Nat} {r m : Nat} : ∀ d, (∀ e, e ≤ d → m ≤ lv13 z A (r + 1 + e)) → m ≤ lm13 z A r d
  | 0, h => h 0 (Nat.le_refl _)
  | d + 1, h => by
    unfold lm13
    have h1 := lm13_ge d (fun e he => h e (by omega))
    have h2 := h (d + 1) (Nat.le_refl _)
    omega
theorem lm13_lt {z : List Int} {A : List Nat} {r m : Nat} : ∀ d e, e ≤ d → lv13 z A (r + 1 + e) < m → lm13 z A r d < m
  | 0, e, he, h => by
    have : e = 0 := by omega
    subst this
    exact h
  | d + 1, e, he, h => by
    unfold lm13
    by_cases c : e = d + 1
    · subst c; omega
    · have := lm13_lt d e (by omega) h
      omega
/-- The greatest so far, and where it is first. -/
structure Mk13 (z : List Int) (A : List Nat) (k m r : Nat) : Prop where
  le : ∀ q, q < k → lv13 z A q ≤ m
  at_ : 0 < m → r < k ∧ lv13 z A r = m ∧ ∀ q, q < r → lv13 z A q < m
  no : m = 0 → r = 0
theorem Mk13.zero (z : List Int) (A : List Nat) : Mk13 z A 0 0 0 := ⟨fun q h => by omega, fun h => by omega, fun _ => rfl⟩
theorem Mk13.more {z : List Int} {A : List Nat} {k m r : Nat} (h : Mk13 z A k m r) (hk : m < lv13 z A k) : Mk13 z A (k + 1) (lv13 z A k) k :=
  ⟨fun q hq => by
    by_cases c : q = k
    · subst c; exact Nat.le_refl _
    · have := h.le q (by omega); omega, fun _ => ⟨by omega, rfl, fun q hq => by have := h.le q hq; omega⟩, fun c => by omega⟩
theorem Mk13.same {z : List Int} {A : List Nat} {k m r : Nat} (h : Mk13 z A k m r) (hk : ¬ m < lv13 z A k) : Mk13 z A (k + 1) m r :=
  ⟨fun q hq => by
    by_cases c : q = k
    · subst c; omega
    · exact h.le q (by omega), fun c => ⟨by have := (h.at_ c).1; omega, (h.at_ c).2⟩, h.no⟩
theorem Mk13.unique {z : List Int} {A : List Nat} {k m r m' r' : Nat} (h : Mk13 z A k m r) (h' : Mk13 z A k m' r') : m = m' ∧ r = r' := by
  have e : m = m' := by
    rcases Nat.lt_trichotomy m m' with c | c | c
    · obtain ⟨a, b, _⟩ := h'.at_ (by omega)
      have := h.le r' a
      omega
    · exact c
    · obtain ⟨a, b, _⟩ := h.at_ (by omega)
      have := h'.le r a
      omega
  subst e
  refine ⟨rfl, ?_⟩
  by_cases c : m = 0
  · rw [h.no c, h'.no c]
  · obtain ⟨a1, a2, a3⟩ := h.at_ (by omega)
    obtain ⟨b1, b2, b3⟩ := h'.at_ (by omega)
    rcases Nat.lt_trichotomy r r' with d | d | d
    · have := b3 r d; omega
    · exact d
    · have := a3 r' d; omega
/-- The least place with so many bytes of that suffix. -/
structure Lp13 (z : List Int) (a m i : Nat) : Prop where
  lt : i < z.length
  ge : m ≤ lc13 (z.drop i) (z.drop a)
  least : ∀ j, j < i → lc13 (z.drop j) (z.drop a) < m
theorem Lp13.unique {z : List Int} {a m i i' : Nat} (h : Lp13 z a m i) (h' : Lp13 z a m i') : i = i' := by
  rcases Nat.lt_trichotomy i i' with c | c | c
  · have := h'.least i c; have := h.ge; omega
  · exact c
  · have := h.least i' c; have := h'.ge; omega
structure Sp13 (z : List Int) (A : List Nat) (m r lo hi : Nat) : Prop where
  lo1 : lo ≤ r
  hi1 : r < hi
  hi2 : hi ≤ z.length
  dn : ∀ q, lo < q → q ≤ r → m ≤ lv13 z A q
  up : ∀ q, r < q → q < hi → m ≤ lv13 z A q
  stop : lv13 z A lo < m
  top : hi = z.length ∨ lv13 z A hi < m
theorem Sp13.iff {z : List Int} {A : List Nat} {m r lo hi : Nat} (hA : Ar12 z.length (S12 z) A) (h : Sp13 z A m r lo hi) (hm : lv13 z A r = m) {q : Nat} (hq : q < z.length) : m ≤ lc13 (z.drop (A.getD q 0)) (z.drop (A.getD r 0)) ↔ (lo ≤ q ∧ q < hi) := by
  have hr : r < z.length := Nat.lt_of_lt_of_le h.hi1 h.hi2
  rcases Nat.lt_trichotomy q r with c | c | c
  · have e := lm13_is hA q (r - q - 1) (by omega)
    rw [show q + 1 + (r - q - 1) = r by omega] at e
    rw [e]
    by_cases d : lo ≤ q
    · refine ⟨fun _ => ⟨d, by have := h.hi1; omega⟩, fun _ => lm13_ge _ fun e he => h.dn _ (by omega) (by omega)⟩
    · refine ⟨fun k => ?_, fun k => absurd k.1 d⟩
      have := lm13_lt (z := z) (A := A) (r := q) (m := m) (r - q - 1) (lo - q - 1) (by have := h.lo1; omega) (by rw [show q + 1 + (lo - q - 1) = lo by omega]; exact h.stop)
      omega
  · subst c
    rw [lc13_self, List.length_drop]
    have h1 := (lv13_le hA hr).1
    exact ⟨fun _ => ⟨h.lo1, h.hi1⟩, fun _ => by omega⟩
  · have e := lm13_is hA r (q - r - 1) (by omega)
    rw [show r + 1 + (q - r - 1) = q by omega] at e
    rw [lc13_comm, e]
    by_cases d : q < hi
    · refine ⟨fun _ => ⟨by have := h.lo1; omega, d⟩, fun _ => lm13_ge _ fun e he => h.up _ (by omega) (by omega)⟩
    · refine ⟨fun k => ?_, fun k => absurd k.2 d⟩
      rcases h.top with t | t
      · omega
      · have := lm13_lt (z := z) (A := A) (r := r) (m := m) (q - r - 1) (hi - r - 1) (by have := h.hi1; omega) (by rw [show r + 1 + (hi - r - 1) = hi by have := h.hi1; omega]; exact t)
        omega
theorem Sp13.place {z : List Int} {A : List Nat} {m r lo hi i : Nat} (hA : Ar12 z.length (S12 z) A) (h : Sp13 z A m r lo hi) (hm : lv13 z A r = m) (h1 : ∃ q, lo ≤ q ∧ q < hi ∧ A.getD q 0 = i) (h2 : ∀ q, lo ≤ q → q < hi → i ≤ A.getD q 0) : Lp13 z (A.getD r 0) m i := by
  obtain ⟨q, q1, q2, rfl⟩ := h1
  have hq : q < z.length := Nat.lt_of_lt_of_le q2 h.hi2
  refine ⟨hA.get hq, (h.iff hA hm hq).2 ⟨q1, q2⟩, fun j hj => ?_⟩
  have hjl : j < z.length := Nat.lt_trans hj (hA.get hq)
  obtain ⟨g1, g2⟩ := hA.rk hjl
  rcases Nat.lt_or_ge (lc13 (z.drop j) (z.drop (A.getD r 0))) m with c | c
  · exact c
  · rw [← g2] at c
    have := (h.iff hA hm g1).1 c
    have := h2 _ this.1 this.2
    omega
end Go.Proofs.Ytidcdbdlaonoeaa

namespace Go.Proofs.Ytidcdbdlaonoeaa
open Go.RowKit
set_option linter.unusedVariables false

/-! Repeat: span, Min, the landed Repeat; Compare refused. -/
set_option maxRecDepth 100000 in
set_option maxHeartbeats 1000000 in
theorem pcmpn13 (b : Nat) (da : Option Addr) (dc : Nat) (aa : Option Addr) (ac gb gr n : Nat) (z : List Int) (A : List Nat) (r : Int) (pa : Option Addr) (m pc : Nat) (w : World) (h : Ix13 w b da dc aa ac gb gr n z A) (hb : -9223372036854775808 ≤ r ∧ r ≤ 9223372036854775807) (hr : ¬ (0 ≤ r ∧ r < (n : Int))) :
    Calls Try.prog 54 #[.pointer (some ⟨b, 0, none⟩), .int .i64 r, .slice pa m pc] w fun e w' => e = .returned (.tuple #[.int .i64 0, .int .i64 0, .int .i64 132]) ∧ Below w.heap.size w w' := by
  have B1 : Below w.heap.size w (w.alloc (.cells #[.int .i64 r] 3)) := (Below.refl _ _).alloc (Nat.le_refl _) _
  have HR := pref13 b da dc aa ac gb gr n z A (some ⟨w.heap.size, 0, none⟩) [r] 1 1 _ (h.old B1) (segZ_lit13 w _ hb) (rfl : _ = _) (by omega)
  rw [er13_one, if_neg hr] at HR
  clear h hr
  go_enter Try.func54, Try.ntmps54
  go_wp2_with (first
    | (go_at_call 45; refine HR.mono ?_; rintro e1 w2 ⟨rfl, hw1⟩; rw [← hw1] at B1; clear hw1))
  go_ret3
  exact ⟨rfl, B1⟩
def SpQ13 (w : World) (z : List Int) (A : List Nat) (m r : Nat) (e : Ending) (w' : World) : Prop := ∃ lo hi : Nat, e = .returned (.tuple #[.int .i64 (lo : Int), .int .i64 (hi : Int)]) ∧ Sp13 z A m r lo hi ∧ w' = w
/-- The least of some numbers. -/
def MnQ13 (w : World) (L : List Int) (e : Ending) (w' : World) : Prop := ∃ v : Int, e = .returned (.int .i64 v) ∧ v ∈ L ∧ (∀ y ∈ L, v ≤ y) ∧ w' = w
structure Mn13 (L : List Int) (k : Nat) (v : Int) : Prop where
  mem : v ∈ L
  le : ∀ i, i < k → v ≤ L.getD i 0
end Go.Proofs.Ytidcdbdlaonoeaa
