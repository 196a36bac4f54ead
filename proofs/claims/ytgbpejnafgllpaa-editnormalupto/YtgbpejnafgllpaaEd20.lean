
import Derived.Test.YtgbpejnafgllpaaEd19
import Derived.Test.YtgbpejnafgllpaaEd4
namespace Go.Proofs.Ytgbpejnafgllpaa
set_option linter.unusedVariables false

/-! The normal edit: it may be, reads what the edit reads, is its own normal one; how many steps it has. -/
theorem ok_all16 {S : List St16} (h : Ok16 S S.length) : S.all may16 = true := by
  rw [List.all_eq_true]
  intro x hx
  obtain ⟨j, hj, rfl⟩ := List.getElem_of_mem hx
  have := h j hj
  simpa [List.getD, hj] using this
section
variable {S : List St16} {D X : List Int} {s : Wt16} {O : List Og16}
theorem wr16_it (hO : O.length ≤ 16777216) (hat : ∀ o ∈ O, -576460752303423488 ≤ o.1 ∧ o.1 ≤ 576460752303423488) (ho : ∀ o ∈ O, o.2.2 = true → o.1 = 0) (h : wr16 O = some s) : it16 s.fin s.D.length s.X.length = 0 := by
  obtain ⟨h1, h2, h3, h4⟩ := wr16_fin hO hat ho h
  have hl := og16_len s.fin s.D s.X s.fin.length
  rw [h1, h2, h3] at hl
  exact it16_ok (ok_all16 h4) ⟨h2, h3, by omega⟩
theorem ob16_og {S' : List St16} {D' X' : List Int} {n n' : Nat} (old : Int) (ho : 0 ≤ old) (h : og16 S D X n = og16 S' D' X' n') : ob16 S n old = ob16 S' n' old := by
  unfold ob16
  apply decide_eq_decide.2
  rw [← ro16_iff S old ho n, ← ro16_iff S' old ho n', ro16_og (D := D) (X := X) old n, ro16_og (D := D') (X := X') old n', h]
theorem er16_nm {z m k : Nat} (hit : it16 S m k = 0) (hO : O.length ≤ 16777216) (hat : ∀ o ∈ O, -576460752303423488 ≤ o.1 ∧ o.1 ≤ 576460752303423488) (ho : ∀ o ∈ O, o.2.2 = true → o.1 = 0) (hog : og16 S D X S.length = O) (h : wr16 O = some s) : er16 z s.fin s.D.length s.X.length = er16 z S m k := by
  have h1 := (wr16_fin hO hat ho h).1
  have h2 := wr16_it hO hat ho h
  have h3 := ob16_og (z : Int) (by omega) (h1.trans hog.symm)
  unfold er16
  rw [h2, hit, h3]
end
/-! How many steps. -/
theorem addrun16 (q : Int) (d : Nat → Int) : ∀ (k : Nat) (s s' : Wt16), 0 < k → ((List.range k).map fun (j : Nat) => ((q + (j : Int), d j, false) : Og16)).foldlM tk16 s = some s' →
    s'.S.length = s.S.length + (if q = s.p ∧ s.c = 0 then 0 else 1) ∧ s'.p = q + (k : Int) ∧ s'.c = 0 ∧ s'.a ≠ 0
  | 0, _, _, hk, _ => by omega
  | 1, s, s', _, h => by
    simp only [List.range_succ, List.range_zero, List.nil_append, List.map_cons, List.map_nil, List.foldlM_cons, List.foldlM_nil] at h
    have h : tk16 s (q + ((0 : Nat) : Int), d 0, false) = some s' := by
      cases ht : tk16 s (q + ((0 : Nat) : Int), d 0, false) with
      | none => rw [ht] at h; cases h
      | some x => rw [ht] at h; exact h
    have e0 : q + ((0 : Nat) : Int) = q := by simp
    rw [e0] at h
    unfold tk16 at h
    simp only [Bool.false_eq_true, if_false] at h
    by_cases h1 : q = s.p ∧ s.c = 0
    · rw [if_pos h1] at h
      obtain rfl := Option.some.inj h
      rw [if_pos h1]
      refine ⟨rfl, ?_, h1.2, ?_⟩
      · show s.p + 1 = q + 1; rw [h1.1]
      · show s.a + 1 ≠ 0; omega
    · rw [if_neg h1] at h
      rw [if_neg h1]
      by_cases h2 : -16777216 ≤ q - s.p ∧ q - s.p ≤ 16777216
      · rw [if_pos h2] at h
        obtain rfl := Option.some.inj h
        refine ⟨?_, rfl, rfl, ?_⟩
        · show (s.S ++ [_]).length = s.S.length + 1; simp
        · show 0 + 1 ≠ 0; omega
      · rw [if_neg h2] at h; cases h
  | k + 2, s, s', _, h => by
    rw [List.range_succ, List.map_append, List.foldlM_append] at h
    cases hm : ((List.range (k + 1)).map fun (j : Nat) => ((q + (j : Int), d j, false) : Og16)).foldlM tk16 s with
    | none => rw [hm] at h; cases h
    | some s1 =>
      obtain ⟨i1, i2, i3, i4⟩ := addrun16 q d (k + 1) s s1 (by omega) hm
      rw [hm] at h
      have h : ([((q + ((k + 1 : Nat) : Int), d (k + 1), false) : Og16)].foldlM tk16 s1) = some s' := h
      simp only [List.foldlM_cons, List.foldlM_nil] at h
      have e : tk16 s1 (q + ((k + 1 : Nat) : Int), d (k + 1), false) = some (s1.add (d (k + 1))) := by
        unfold tk16; simp only [Bool.false_eq_true, if_false]; rw [if_pos ⟨i2.symm, i3⟩]
      rw [e] at h
      have h : some (s1.add (d (k + 1))) = some s' := h
      obtain rfl := Option.some.inj h
      refine ⟨i1, ?_, i3, ?_⟩
      · show s1.p + 1 = _; rw [i2]; omega
      · show s1.a + 1 ≠ 0; omega
theorem cpyrun16 (d : Nat → Int) : ∀ (k : Nat) (s s' : Wt16), ((List.range k).map fun (j : Nat) => ((0, d j, true) : Og16)).foldlM tk16 s = some s' → s'.S = s.S ∧ s'.p = s.p ∧ s'.c = s.c + k ∧ s'.a = s.a
  | 0, s, s', h => by
    have h : some s = some s' := h
    obtain rfl := Option.some.inj h
    exact ⟨rfl, rfl, rfl, rfl⟩
  | k + 1, s, s', h => by
    rw [List.range_succ, List.map_append, List.foldlM_append] at h
    cases hm : ((List.range k).map fun (j : Nat) => ((0, d j, true) : Og16)).foldlM tk16 s with
    | none => rw [hm] at h; cases h
    | some s1 =>
      obtain ⟨i1, i2, i3, i4⟩ := cpyrun16 d k s s1 hm
      rw [hm] at h
      have h : some (s1.own (d k)) = some s' := h
      obtain rfl := Option.some.inj h
      exact ⟨i1, i2, by show s1.c + 1 = _; omega, i4⟩
/-- The law's count: places at which a new step must begin; the place that follows on; open; any. -/
structure Bn16 where
  n : Nat
  x : Int
  op : Bool
  an : Bool
def bn16 (S : List St16) : Nat → Bn16
  | 0 => ⟨0, 0, true, false⟩
  | i + 1 => ⟨if 0 < ad16 S i ∧ ¬ (pl16 S i = (bn16 S i).x ∧ (bn16 S i).op = true) then (bn16 S i).n + 1 else (bn16 S i).n, if 0 < ad16 S i then pl16 S i + (ad16 S i : Int) else (bn16 S i).x, if 0 < cp16 S i then false else if 0 < ad16 S i then true else (bn16 S i).op, (bn16 S i).an || decide (0 < ad16 S i) || decide (0 < cp16 S i)⟩
theorem bn16_wr {S : List St16} {D X : List Int} : ∀ i s, wr16 (og16 S D X i) = some s → (bn16 S i).n = s.S.length ∧ (bn16 S i).x = s.p ∧ ((bn16 S i).op = true ↔ s.c = 0) ∧ ((bn16 S i).an = true ↔ ¬ (s.a = 0 ∧ s.c = 0))
  | 0, s, h => by
    have h : some wz16 = some s := h
    obtain rfl := Option.some.inj h
    simp [bn16, wz16]
  | i + 1, s, h => by
    unfold wr16 at h
    simp only [og16] at h
    rw [List.foldlM_append, List.foldlM_append] at h
    cases hm : (og16 S D X i).foldlM tk16 wz16 with
    | none => rw [hm] at h; cases h
    | some s1 =>
      rw [hm] at h
      obtain ⟨i1, i2, i3, i4⟩ := bn16_wr (S := S) (D := D) (X := X) i s1 hm
      have h : ((oa16 S D i).foldlM tk16 s1 >>= fun t => (oc16 S X i).foldlM tk16 t) = some s := h
      cases ha : (oa16 S D i).foldlM tk16 s1 with
      | none => rw [ha] at h; cases h
      | some s2 =>
        rw [ha] at h
        have h : (oc16 S X i).foldlM tk16 s2 = some s := h
        obtain ⟨c1, c2, c3, c4⟩ := cpyrun16 (fun k => X.getD (sc16 S i + k) 0) (cp16 S i) s2 s h
        simp only [bn16]
        rw [c1, c2]
        by_cases had : 0 < ad16 S i
        · obtain ⟨a1, a2, a3, a4⟩ := addrun16 (pl16 S i) (fun k => D.getD (sa16 S i + k) 0) (ad16 S i) s1 s2 had ha
          rw [a1, a2, i1, i2]
          refine ⟨?_, by rw [if_pos had], ?_, ?_⟩
          · by_cases hq : pl16 S i = s1.p ∧ s1.c = 0
            · rw [if_pos hq, if_neg (fun y => y.2 ⟨hq.1, i3.2 hq.2⟩)]; rfl
            · rw [if_neg hq, if_pos ⟨had, fun y => hq ⟨y.1, i3.1 y.2⟩⟩]
          · by_cases hcp : 0 < cp16 S i
            · rw [if_pos hcp]; constructor
              · intro y; cases y
              · intro y; omega
            · rw [if_neg hcp, if_pos had]; constructor
              · intro _; omega
              · intro _; rfl
          · simp only [had, decide_true, Bool.or_true, Bool.true_or, true_iff]
            intro y; omega
        · have e0 : ad16 S i = 0 := by omega
          have ha' : some s1 = some s2 := by
            rw [← ha]; unfold oa16; rw [e0]; rfl
          obtain rfl := Option.some.inj ha'
          rw [if_neg (fun y => had y.1), if_neg had, if_neg had]
          refine ⟨i1, i2, ?_, ?_⟩
          · by_cases hcp : 0 < cp16 S i
            · rw [if_pos hcp]; constructor
              · intro y; cases y
              · intro y; omega
            · rw [if_neg hcp, i3]; omega
          · simp only [had, decide_false, Bool.or_false, Bool.or_eq_true, decide_eq_true_eq]
            rw [i4]; omega
theorem bn16_le {S : List St16} : ∀ i, (bn16 S i).n + (if (bn16 S i).an = true then 1 else 0) ≤ i ∧ ((bn16 S i).an = false → (bn16 S i).n = 0 ∧ (bn16 S i).x = 0 ∧ (bn16 S i).op = true)
  | 0 => ⟨by simp [bn16], fun _ => by simp [bn16]⟩
  | i + 1 => by
    obtain ⟨h1, h2⟩ := bn16_le (S := S) i
    by_cases had : 0 < ad16 S i
    · refine ⟨?_, fun y => by simp [bn16, had] at y⟩
      have e1 : (bn16 S (i + 1)).an = true := by simp [bn16, had]
      rw [e1, if_pos rfl]
      simp only [bn16]
      cases han : (bn16 S i).an with
      | true =>
        rw [han, if_pos rfl] at h1
        split <;> omega
      | false =>
        obtain ⟨p1, p2, p3⟩ := h2 han
        rw [p1, p2, p3]
        cases i with
        | zero =>
          have e : pl16 S 0 = 0 := rfl
          rw [if_neg (fun y => y.2 ⟨e, rfl⟩)]; omega
        | succ i => split <;> omega
    · by_cases hcp : 0 < cp16 S i
      · refine ⟨?_, fun y => by simp [bn16, hcp] at y⟩
        have e1 : (bn16 S (i + 1)).an = true := by simp [bn16, hcp]
        have e2 : (bn16 S (i + 1)).n = (bn16 S i).n := by simp [bn16, had]
        rw [e1, e2, if_pos rfl]
        cases han : (bn16 S i).an with
        | true => rw [han, if_pos rfl] at h1; omega
        | false => rw [(h2 han).1]; omega
      · have e1 : (bn16 S (i + 1)).an = (bn16 S i).an := by simp [bn16, had, hcp]
        have e2 : (bn16 S (i + 1)).n = (bn16 S i).n := by simp [bn16, had]
        have e3 : (bn16 S (i + 1)).x = (bn16 S i).x := by simp [bn16, had]
        have e4 : (bn16 S (i + 1)).op = (bn16 S i).op := by simp [bn16, had, hcp]
        rw [e1, e2, e3, e4]
        exact ⟨by omega, h2⟩
/-- So many steps has the normal edit, and no more than the edit. -/
theorem fin_len16 {S : List St16} {D X : List Int} {s : Wt16} (h : wr16 (og16 S D X S.length) = some s) : s.fin.length = (bn16 S S.length).n + (if (bn16 S S.length).an = true then 1 else 0) ∧ s.fin.length ≤ S.length := by
  obtain ⟨h1, h2, h3, h4⟩ := bn16_wr S.length s h
  have h5 := (bn16_le (S := S) S.length).1
  have e : s.fin.length = (bn16 S S.length).n + (if (bn16 S S.length).an = true then 1 else 0) := by
    unfold Wt16.fin
    by_cases hz : s.a = 0 ∧ s.c = 0
    · rw [if_pos hz, if_neg (fun y => h4.1 y hz), h1]; rfl
    · rw [if_neg hz, if_pos (h4.2 hz), h1]; simp
  exact ⟨e, by omega⟩
end Go.Proofs.Ytgbpejnafgllpaa
