
import Derived.Test.YtgbpejnafgllpaaEd16
namespace Go.Proofs.Ytgbpejnafgllpaa
set_option linter.unusedVariables false

/-! What the writer has laid down has the origins that it was told. -/
theorem gda16 {S : List St16} {x : St16} {j : Nat} (h : j < S.length) : (S ++ [x]).getD j z16 = S.getD j z16 := by
  simp [List.getD, List.getElem?_append_left h]
theorem gdl16 {S : List St16} {x : St16} : (S ++ [x]).getD S.length z16 = x := by simp [List.getD]
theorem gdi16 {D : List Int} {v : Int} {j : Nat} (h : j < D.length) : (D ++ [v]).getD j 0 = D.getD j 0 := by
  simp [List.getD, List.getElem?_append_left h]
theorem gdv16 {D : List Int} {v : Int} : (D ++ [v]).getD D.length 0 = v := by simp [List.getD]
theorem cg16 {S S' : List St16} : ∀ i, (∀ j, j < i → S.getD j z16 = S'.getD j z16) → sa16 S i = sa16 S' i ∧ sc16 S i = sc16 S' i ∧ pl16 S i = pl16 S' i
  | 0, _ => ⟨rfl, rfl, rfl⟩
  | i + 1, h => by
    obtain ⟨h1, h2, h3⟩ := cg16 i (fun j hj => h j (by omega))
    have e := h i (by omega)
    simp only [sa16, sc16, pl16, ad16, cp16, sk16, h1, h2, h3, e]
    exact ⟨trivial, trivial, trivial⟩
theorem og16_cg {S S' : List St16} {D D' X X' : List Int} : ∀ i, (∀ j, j < i → S.getD j z16 = S'.getD j z16) → (∀ j, j < sa16 S i → D.getD j 0 = D'.getD j 0) → (∀ j, j < sc16 S i → X.getD j 0 = X'.getD j 0) → og16 S D X i = og16 S' D' X' i
  | 0, _, _, _ => rfl
  | i + 1, h, hD, hX => by
    obtain ⟨h1, h2, h3⟩ := cg16 i (fun j hj => h j (by omega))
    have e := h i (by omega)
    have ih := og16_cg (D := D) (D' := D') (X := X) (X' := X') i (fun j hj => h j (by omega)) (fun j hj => hD j (by simp only [sa16]; omega)) (fun j hj => hX j (by simp only [sc16]; omega))
    have ea : ad16 S i = ad16 S' i := by unfold ad16; rw [e]
    have ec : cp16 S i = cp16 S' i := by unfold cp16; rw [e]
    simp only [og16]
    rw [ih]
    congr 1
    · congr 1
      unfold oa16
      rw [← ea, ← h1, ← h3]
      apply List.map_congr_left
      intro k hk
      rw [List.mem_range] at hk
      rw [hD (sa16 S i + k) (by simp only [sa16]; omega)]
    · unfold oc16
      rw [← ec, ← h2]
      apply List.map_congr_left
      intro k hk
      rw [List.mem_range] at hk
      rw [hX (sc16 S i + k) (by simp only [sc16]; omega)]
/-- The step at hand: what it adds, what it copies. -/
def aa16 (s : Wt16) : List Og16 := (List.range s.a).map fun (k : Nat) => ((pl16 s.S s.S.length + (k : Int), s.D.getD (sa16 s.S s.S.length + k) 0, false) : Og16)
def cc16 (s : Wt16) : List Og16 := (List.range s.c).map fun (k : Nat) => ((0, s.X.getD (sc16 s.S s.S.length + k) 0, true) : Og16)
structure Ow16 (O : List Og16) (s : Wt16) : Prop where
  og : og16 s.S s.D s.X s.S.length ++ aa16 s ++ cc16 s = O
  sa : sa16 s.S s.S.length + s.a = s.D.length
  sc : sc16 s.S s.S.length + s.c = s.X.length
  pl : pl16 s.S s.S.length + (s.a : Int) = s.p
  ok : Ok16 s.S s.S.length
theorem Ow16.zero : Ow16 [] wz16 := ⟨rfl, rfl, rfl, rfl, Ok16.zero _⟩
theorem Ow16.own {O : List Og16} {s : Wt16} (h : Ow16 O s) (v : Int) : Ow16 (O ++ [(0, v, true)]) (s.own v) := by
  obtain ⟨S, D, X, a, c, p⟩ := s
  obtain ⟨h1, h2, h3, h4, h5⟩ := h
  simp only [aa16, cc16] at h1 h2 h3 h4 h5
  refine ⟨?_, h2, ?_, h4, h5⟩
  · simp only [Wt16.own, aa16, cc16]
    rw [og16_cg (S' := S) (D' := D) (X' := X) S.length (fun _ _ => rfl) (fun _ _ => rfl) (fun j hj => gdi16 (by omega)), ← h1, List.range_succ, List.map_append, ← List.append_assoc]
    congr 1
    · congr 1
      apply List.map_congr_left
      intro k hk
      rw [List.mem_range] at hk
      rw [gdi16 (by omega)]
    · simp only [List.map_cons, List.map_nil, h3, gdv16]
  · simp only [Wt16.own, List.length_append, List.length_cons, List.length_nil]
    omega
theorem Ow16.add {O : List Og16} {s : Wt16} (h : Ow16 O s) (hc : s.c = 0) (v : Int) : Ow16 (O ++ [(s.p, v, false)]) (s.add v) := by
  obtain ⟨S, D, X, a, c, p⟩ := s
  obtain ⟨h1, h2, h3, h4, h5⟩ := h
  simp only [aa16, cc16] at h1 h2 h3 h4 h5 hc
  subst hc
  simp only [List.range_zero, List.map_nil, List.append_nil] at h1
  refine ⟨?_, ?_, h3, ?_, h5⟩
  · simp only [Wt16.add, aa16, cc16, List.range_zero, List.map_nil, List.append_nil]
    rw [og16_cg (S' := S) (D' := D) (X' := X) S.length (fun _ _ => rfl) (fun j hj => gdi16 (by omega)) (fun _ _ => rfl), ← h1, List.range_succ, List.map_append, ← List.append_assoc]
    congr 1
    · congr 1
      apply List.map_congr_left
      intro k hk
      rw [List.mem_range] at hk
      rw [gdi16 (by omega)]
    · simp only [List.map_cons, List.map_nil, h2, gdv16, h4]
  · simp only [Wt16.add, List.length_append, List.length_cons, List.length_nil]
    omega
  · simp only [Wt16.add]
    omega
/-- The steps with one more behind them. -/
theorem snoc16 {S : List St16} {D X : List Int} {a c : Nat} {sk : Int} : sa16 (S ++ [((a : Int), (c : Int), sk)]) (S.length + 1) = sa16 S S.length + a ∧ sc16 (S ++ [((a : Int), (c : Int), sk)]) (S.length + 1) = sc16 S S.length + c ∧ pl16 (S ++ [((a : Int), (c : Int), sk)]) (S.length + 1) = pl16 S S.length + (a : Int) + sk ∧
    og16 (S ++ [((a : Int), (c : Int), sk)]) D X (S.length + 1) = og16 S D X S.length ++ ((List.range a).map fun (k : Nat) => ((pl16 S S.length + (k : Int), D.getD (sa16 S S.length + k) 0, false) : Og16)) ++ ((List.range c).map fun (k : Nat) => ((0, X.getD (sc16 S S.length + k) 0, true) : Og16)) := by
  obtain ⟨h1, h2, h3⟩ := cg16 (S := S ++ [((a : Int), (c : Int), sk)]) (S' := S) S.length (fun j hj => gda16 hj)
  have h4 := og16_cg (S := S ++ [((a : Int), (c : Int), sk)]) (S' := S) (D := D) (D' := D) (X := X) (X' := X) S.length (fun j hj => gda16 hj) (fun _ _ => rfl) (fun _ _ => rfl)
  simp only [sa16, sc16, pl16, og16, oa16, oc16, ad16, cp16, sk16, gdl16, h1, h2, h3, h4, Int.toNat_natCast]
  exact ⟨trivial, trivial, trivial, trivial⟩
theorem Ok16.snoc {S : List St16} {x : St16} (h : Ok16 S S.length) (hx : may16 x = true) : Ok16 (S ++ [x]) (S.length + 1) := fun j hj => by
  rcases Nat.lt_or_ge j S.length with h1 | h1
  · rw [gda16 h1]; exact h j h1
  · have : j = S.length := by omega
    subst this
    rw [gdl16]; exact hx
theorem Ow16.seek {O : List Og16} {s : Wt16} (h : Ow16 O s) (to : Int) (hm : may16 ((s.a : Int), (s.c : Int), to - s.p) = true) : Ow16 O (s.seek to) := by
  obtain ⟨S, D, X, a, c, p⟩ := s
  obtain ⟨h1, h2, h3, h4, h5⟩ := h
  simp only [aa16, cc16] at h1 h2 h3 h4 h5 hm
  obtain ⟨e1, e2, e3, e4⟩ := snoc16 (S := S) (D := D) (X := X) (a := a) (c := c) (sk := to - p)
  have el : (S ++ [((a : Int), (c : Int), to - p)]).length = S.length + 1 := by simp
  refine ⟨?_, ?_, ?_, ?_, ?_⟩
  · simp only [Wt16.seek, aa16, cc16, List.range_zero, List.map_nil, List.append_nil]
    rw [el, e4]; exact h1
  · simp only [Wt16.seek]; rw [el, e1]; omega
  · simp only [Wt16.seek]; rw [el, e2]; omega
  · simp only [Wt16.seek]; rw [el, e3]; omega
  · simp only [Wt16.seek]; rw [el]; exact h5.snoc hm
theorem tk16_ow {O : List Og16} {s s' : Wt16} {o : Og16} {i : Nat} (h : Ow16 O s) (b : Bd16 s i) (hi : i ≤ 16777216) (ho : o.2.2 = true → o.1 = 0) (ht : tk16 s o = some s') : Ow16 (O ++ [o]) s' := by
  obtain ⟨at_, v, own⟩ := o
  obtain ⟨b1, b2, b3, b4, b5, b6⟩ := b
  unfold tk16 at ht
  cases own with
  | true =>
    obtain rfl := Option.some.inj ht
    have e : at_ = 0 := ho rfl
    subst e
    exact h.own v
  | false =>
    simp only [Bool.false_eq_true, if_false] at ht
    by_cases h1 : at_ = s.p ∧ s.c = 0
    · rw [if_pos h1] at ht
      obtain rfl := Option.some.inj ht
      have e := h1.1
      subst e
      exact h.add h1.2 v
    · rw [if_neg h1] at ht
      by_cases h2 : -16777216 ≤ at_ - s.p ∧ at_ - s.p ≤ 16777216
      · rw [if_pos h2] at ht
        obtain rfl := Option.some.inj ht
        have hs := h.seek at_ (may16_iff.2 ⟨by simp, by simp; omega, by simp, by simp; omega, h2.1, h2.2⟩)
        exact hs.add rfl v
      · rw [if_neg h2] at ht
        cases ht
theorem wr16_ow {O : List Og16} (hO : O.length ≤ 16777216) (hat : ∀ o ∈ O, -576460752303423488 ≤ o.1 ∧ o.1 ≤ 576460752303423488) (ho : ∀ o ∈ O, o.2.2 = true → o.1 = 0) : ∀ i, i ≤ O.length → ∀ s, wr16 (O.take i) = some s → Ow16 (O.take i) s ∧ Bd16 s i
  | 0, _, s, h => by
    have h : some wz16 = some s := h
    obtain rfl := Option.some.inj h
    exact ⟨Ow16.zero, ⟨Nat.le_refl _, Nat.le_refl _, Nat.le_refl _, Nat.le_refl _, Nat.le_refl _, by unfold wz16; simp⟩⟩
  | i + 1, hi, s, h => by
    have hil : i < O.length := by omega
    rw [List.take_succ_eq_append_getElem hil] at h ⊢
    cases hp : wr16 (O.take i) with
    | none => rw [wr16_none hp] at h; cases h
    | some s0 =>
      obtain ⟨w0, b0⟩ := wr16_ow hO hat ho i (by omega) s0 hp
      rw [wr16_snoc hp] at h
      have hm : O[i] ∈ O := List.getElem_mem hil
      exact ⟨tk16_ow w0 b0 (by omega) (ho _ hm) h, tk16_bd h b0 (hat _ hm)⟩
/-- The normal edit: it may be, its lists are of its size, and its bytes have these origins. -/
theorem wr16_fin {O : List Og16} {s : Wt16} (hO : O.length ≤ 16777216) (hat : ∀ o ∈ O, -576460752303423488 ≤ o.1 ∧ o.1 ≤ 576460752303423488) (ho : ∀ o ∈ O, o.2.2 = true → o.1 = 0) (h : wr16 O = some s) :
    og16 s.fin s.D s.X s.fin.length = O ∧ sa16 s.fin s.fin.length = s.D.length ∧ sc16 s.fin s.fin.length = s.X.length ∧ Ok16 s.fin s.fin.length := by
  obtain ⟨w, b⟩ := wr16_ow hO hat ho O.length (Nat.le_refl _) s (by rw [List.take_length]; exact h)
  rw [List.take_length] at w
  obtain ⟨S, D, X, a, c, p⟩ := s
  obtain ⟨h1, h2, h3, h4, h5⟩ := w
  obtain ⟨b1, b2, _, _, _, _⟩ := b
  simp only [aa16, cc16] at h1 h2 h3 h4 h5 b1 b2
  by_cases hz : a = 0 ∧ c = 0
  · obtain ⟨rfl, rfl⟩ := hz
    have e : Wt16.fin ⟨S, D, X, 0, 0, p⟩ = S := if_pos ⟨rfl, rfl⟩
    rw [e]
    simp only [List.range_zero, List.map_nil, List.append_nil] at h1
    exact ⟨h1, by simpa using h2, by simpa using h3, h5⟩
  · have e : Wt16.fin ⟨S, D, X, a, c, p⟩ = S ++ [((a : Int), (c : Int), 0)] := if_neg hz
    obtain ⟨e1, e2, e3, e4⟩ := snoc16 (S := S) (D := D) (X := X) (a := a) (c := c) (sk := 0)
    have el : (S ++ [((a : Int), (c : Int), 0)]).length = S.length + 1 := by simp
    rw [e, el]
    simp only
    rw [e1, e2, e4]
    exact ⟨h1, h2, h3, h5.snoc (may16_iff.2 ⟨by simp, by simp; omega, by simp, by simp; omega, by simp, by simp⟩)⟩
end Go.Proofs.Ytgbpejnafgllpaa
