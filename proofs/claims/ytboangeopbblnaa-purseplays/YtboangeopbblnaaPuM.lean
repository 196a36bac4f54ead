
namespace Go.Proofs.Ytboangeopbblnaa
set_option linter.unusedVariables false

/-! Purses, as mathematics: holders in the order of their names. -/
structure Ho23 where
  nm : ByteArray
  mo : Int
  no : Int
structure Pu23 where
  L : List Ho23
  pk : Int
def kb23 (b : ByteArray) : List UInt8 := b.data.toList
theorem kb23_inj {a b : ByteArray} (h : kb23 a = kb23 b) : a = b := by
  obtain ⟨⟨a⟩⟩ := a
  obtain ⟨⟨b⟩⟩ := b
  simp only [kb23] at h
  rw [h]
/-- What all hold, what all may hold. -/
def hs23 : List Ho23 → Int
  | [] => 0
  | h :: l => h.no + hs23 l
def ms23 : List Ho23 → Int
  | [] => 0
  | h :: l => h.mo + ms23 l
theorem hs23_app (a b : List Ho23) : hs23 (a ++ b) = hs23 a + hs23 b := by
  induction a with
  | nil => simp [hs23]
  | cons h l ih => simp only [List.cons_append, hs23, ih]; omega
theorem ms23_app (a b : List Ho23) : ms23 (a ++ b) = ms23 a + ms23 b := by
  induction a with
  | nil => simp [ms23]
  | cons h l ih => simp only [List.cons_append, ms23, ih]; omega
def fd23 (L : List Ho23) (s : ByteArray) : Option Ho23 := L.find? fun h => decide (h.nm = s)
theorem fd23_some {L : List Ho23} {s : ByteArray} {h : Ho23} (e : fd23 L s = some h) : h ∈ L ∧ h.nm = s :=
  ⟨List.mem_of_find?_eq_some e, by have := List.find?_some e; simpa using this⟩
theorem fd23_none {L : List Ho23} {s : ByteArray} (e : fd23 L s = none) : ∀ h ∈ L, h.nm ≠ s := by
  intro h hm
  have := List.find?_eq_none.1 e h hm
  simpa using this
/-- In order: rising, no name twice. -/
def So23 (L : List Ho23) : Prop := L.Pairwise fun a b => kb23 a.nm < kb23 b.nm
theorem So23.ne {L : List Ho23} (h : So23 L) : L.Pairwise fun a b => a.nm ≠ b.nm :=
  h.imp fun {a b} hab e => by rw [e] at hab; exact List.lt_irrefl _ hab
theorem fd23_mem {L : List Ho23} (hs : L.Pairwise fun a b => a.nm ≠ b.nm) {h : Ho23} (hm : h ∈ L) : fd23 L h.nm = some h := by
  induction L with
  | nil => cases hm
  | cons x l ih =>
    rw [List.pairwise_cons] at hs
    rcases List.mem_cons.1 hm with rfl | hm
    · simp [fd23]
    · have : x.nm ≠ h.nm := hs.1 h hm
      unfold fd23
      rw [List.find?_cons_of_neg (by simpa using this)]
      exact ih hs.2 hm
structure Ok23 (S : Pu23) : Prop where
  so : So23 S.L
  bd : ∀ h ∈ S.L, 0 ≤ h.no ∧ h.no ≤ h.mo ∧ h.mo ≤ 1099511627776 ∧ h.nm.size ≤ 9223372036854775807
  ln : S.L.length ≤ 1024
  p0 : hs23 S.L ≤ S.pk
  p1 : S.pk ≤ ms23 S.L
theorem hs23_bd {L : List Ho23} (h : ∀ x ∈ L, 0 ≤ x.no ∧ x.no ≤ x.mo ∧ x.mo ≤ 1099511627776 ∧ x.nm.size ≤ 9223372036854775807) : 0 ≤ hs23 L ∧ hs23 L ≤ ms23 L ∧ ms23 L ≤ (L.length : Int) * 1099511627776 := by
  induction L with
  | nil => simp [hs23, ms23]
  | cons x l ih =>
    have h1 := h x (List.mem_cons_self ..)
    have h2 := ih fun y hy => h y (List.mem_cons_of_mem _ hy)
    simp only [hs23, ms23, List.length_cons]
    omega
theorem Ok23.hb {S : Pu23} (h : Ok23 S) : 0 ≤ hs23 S.L ∧ hs23 S.L ≤ S.pk ∧ S.pk ≤ ms23 S.L ∧ ms23 S.L ≤ 1125899906842624 := by
  have h1 := hs23_bd h.bd
  have h2 := h.ln
  have h3 := h.p0
  have h4 := h.p1
  omega
/-- Where a name stands, or would. -/
def ix23 : List Ho23 → ByteArray → Nat
  | [], _ => 0
  | x :: l, s => if kb23 x.nm < kb23 s then ix23 l s + 1 else 0
def in23 (x : Ho23) (L : List Ho23) : List Ho23 := L.take (ix23 L x.nm) ++ x :: L.drop (ix23 L x.nm)
theorem ix23_le (L : List Ho23) (s : ByteArray) : ix23 L s ≤ L.length := by
  induction L with
  | nil => simp [ix23]
  | cons x l ih =>
    unfold ix23
    by_cases c : kb23 x.nm < kb23 s
    · rw [if_pos c]; simp only [List.length_cons]; omega
    · rw [if_neg c]; omega
theorem ix23_lt {L : List Ho23} {s : ByteArray} {i : Nat} (h : i < ix23 L s) : ∃ x, L[i]? = some x ∧ kb23 x.nm < kb23 s := by
  induction L generalizing i with
  | nil => simp [ix23] at h
  | cons x l ih =>
    unfold ix23 at h
    by_cases c : kb23 x.nm < kb23 s
    · rw [if_pos c] at h
      cases i with
      | zero => exact ⟨x, rfl, c⟩
      | succ i => exact ih (by omega)
    · rw [if_neg c] at h; omega
theorem ix23_at {L : List Ho23} {s : ByteArray} {x : Ho23} (h : L[ix23 L s]? = some x) : ¬ kb23 x.nm < kb23 s := by
  induction L with
  | nil => simp [ix23] at h
  | cons y l ih =>
    unfold ix23 at h
    by_cases c : kb23 y.nm < kb23 s
    · rw [if_pos c] at h
      simp only [List.getElem?_cons_succ] at h
      exact ih h
    · rw [if_neg c] at h
      simp only [List.getElem?_cons_zero, Option.some.injEq] at h
      subst h
      exact c
theorem ix23_is {L : List Ho23} {s : ByteArray} {i : Nat} (h1 : ∀ j x, j < i → L[j]? = some x → kb23 x.nm < kb23 s) (hi : i ≤ L.length) (h2 : ∀ x, L[i]? = some x → ¬ kb23 x.nm < kb23 s) : i = ix23 L s := by
  rcases Nat.lt_trichotomy i (ix23 L s) with h | h | h
  · obtain ⟨x, e, c⟩ := ix23_lt h
    exact absurd c (h2 x e)
  · exact h
  · have hl : ix23 L s < L.length := by omega
    exact absurd (h1 _ _ h (List.getElem?_eq_getElem hl)) (ix23_at (List.getElem?_eq_getElem hl))
theorem in23_perm (x : Ho23) (L : List Ho23) : (in23 x L).Perm (x :: L) := by
  unfold in23
  refine List.perm_middle.trans ?_
  rw [List.take_append_drop]
theorem in23_mem {x y : Ho23} {L : List Ho23} : y ∈ in23 x L ↔ y = x ∨ y ∈ L := by
  rw [(in23_perm x L).mem_iff, List.mem_cons]
theorem in23_len (x : Ho23) (L : List Ho23) : (in23 x L).length = L.length + 1 := (in23_perm x L).length_eq
theorem in23_hs (x : Ho23) (L : List Ho23) : hs23 (in23 x L) = hs23 L + x.no := by
  have := hs23_app (L.take (ix23 L x.nm)) (L.drop (ix23 L x.nm))
  rw [List.take_append_drop] at this
  unfold in23
  rw [hs23_app, this]
  simp only [hs23]; omega
theorem in23_ms (x : Ho23) (L : List Ho23) : ms23 (in23 x L) = ms23 L + x.mo := by
  have := ms23_app (L.take (ix23 L x.nm)) (L.drop (ix23 L x.nm))
  rw [List.take_append_drop] at this
  unfold in23
  rw [ms23_app, this]
  simp only [ms23]; omega
theorem lt_of_not23 {a b : ByteArray} (h : ¬ kb23 a < kb23 b) (hn : a ≠ b) : kb23 b < kb23 a := by
  rcases List.le_total (kb23 a) (kb23 b) with c | c
  · rcases Decidable.em (kb23 b < kb23 a) with d | d
    · exact d
    · exact absurd (kb23_inj (List.le_antisymm c (List.not_lt.1 h))) hn
  · rcases Decidable.em (kb23 b < kb23 a) with d | d
    · exact d
    · exact absurd (kb23_inj (List.le_antisymm (List.not_lt.1 d) c)) hn
theorem in23_so {x : Ho23} {L : List Ho23} (h : So23 L) (hn : ∀ y ∈ L, y.nm ≠ x.nm) : So23 (in23 x L) := by
  unfold So23 in23 at *
  have hsp : (L.take (ix23 L x.nm) ++ L.drop (ix23 L x.nm)).Pairwise (fun a b => kb23 a.nm < kb23 b.nm) := by rw [List.take_append_drop]; exact h
  rw [List.pairwise_append] at hsp
  obtain ⟨h1, h2, h3⟩ := hsp
  have hlo : ∀ a ∈ L.take (ix23 L x.nm), kb23 a.nm < kb23 x.nm := by
    intro a ha
    obtain ⟨i, hi, e⟩ := List.mem_iff_getElem.1 ha
    rw [List.length_take] at hi
    obtain ⟨y, e1, c⟩ := ix23_lt (L := L) (s := x.nm) (i := i) (by omega)
    rw [List.getElem_take] at e
    rw [List.getElem?_eq_getElem (by omega), e] at e1
    injection e1 with e1; rw [e1]; exact c
  have hhi : ∀ b ∈ L.drop (ix23 L x.nm), kb23 x.nm < kb23 b.nm := by
    intro b hb
    cases hd : L.drop (ix23 L x.nm) with
    | nil => rw [hd] at hb; cases hb
    | cons y l =>
      have hy : L[ix23 L x.nm]? = some y := by have := congrArg List.head? hd; simpa using this
      have hyx : kb23 x.nm < kb23 y.nm := lt_of_not23 (ix23_at hy) (hn y (List.mem_of_getElem? hy))
      rw [hd] at hb h2
      rcases List.mem_cons.1 hb with rfl | hb
      · exact hyx
      · exact List.lt_trans hyx ((List.pairwise_cons.1 h2).1 b hb)
  rw [List.pairwise_append]
  refine ⟨h1, List.pairwise_cons.2 ⟨hhi, h2⟩, fun a ha b hb => ?_⟩
  rcases List.mem_cons.1 hb with rfl | hb
  · exact hlo a ha
  · exact h3 a ha b hb
theorem fd23_in {x : Ho23} {L : List Ho23} (h : So23 L) (hn : ∀ y ∈ L, y.nm ≠ x.nm) (s : ByteArray) : fd23 (in23 x L) s = if s = x.nm then some x else fd23 L s := by
  have hs := (in23_so h hn).ne
  by_cases c : s = x.nm
  · rw [if_pos c, c]
    exact fd23_mem hs (in23_mem.2 (.inl rfl))
  · rw [if_neg c]
    cases e : fd23 L s with
    | none =>
      unfold fd23
      rw [List.find?_eq_none]
      intro y hy
      rcases in23_mem.1 hy with rfl | hy
      · simpa using fun e => c e.symm
      · simpa using fd23_none e y hy
    | some y =>
      obtain ⟨h1, h2⟩ := fd23_some e
      rw [← h2]
      exact fd23_mem hs (in23_mem.2 (.inr h1))
/-- One holder holds another number. -/
def up23 (L : List Ho23) (s : ByteArray) (n : Int) : List Ho23 := L.map fun h => if h.nm = s then ⟨h.nm, h.mo, n⟩ else h
theorem up23_len (L : List Ho23) (s : ByteArray) (n : Int) : (up23 L s n).length = L.length := by simp [up23]
theorem up23_nm (L : List Ho23) (s : ByteArray) (n : Int) : (up23 L s n).map Ho23.nm = L.map Ho23.nm := by
  unfold up23
  rw [List.map_map]
  refine List.map_congr_left fun h _ => ?_
  simp only [Function.comp]
  by_cases c : h.nm = s
  · rw [if_pos c]
  · rw [if_neg c]
theorem up23_so {L : List Ho23} (h : So23 L) (s : ByteArray) (n : Int) : So23 (up23 L s n) := by
  have h1 : (L.map Ho23.nm).Pairwise (fun a b => kb23 a < kb23 b) := List.pairwise_map.2 h
  rw [← up23_nm L s n] at h1
  exact (List.pairwise_map (R := fun a b : ByteArray => kb23 a < kb23 b) (f := Ho23.nm)).1 h1
theorem up23_ms (L : List Ho23) (s : ByteArray) (n : Int) : ms23 (up23 L s n) = ms23 L := by
  unfold up23
  induction L with
  | nil => rfl
  | cons x l ih =>
    simp only [List.map_cons, ms23, ih]
    by_cases c : x.nm = s
    · rw [if_pos c]
    · rw [if_neg c]
theorem fd23_up (L : List Ho23) (s : ByteArray) (n : Int) (t : ByteArray) : fd23 (up23 L s n) t = (fd23 L t).map fun h => if h.nm = s then ⟨h.nm, h.mo, n⟩ else h := by
  unfold fd23 up23
  induction L with
  | nil => rfl
  | cons x l ih =>
    have hnm : (if x.nm = s then (⟨x.nm, x.mo, n⟩ : Ho23) else x).nm = x.nm := by by_cases c : x.nm = s <;> simp [c]
    rw [List.map_cons]
    by_cases c : x.nm = t
    · rw [List.find?_cons_of_pos (by simpa [hnm] using c), List.find?_cons_of_pos (by simpa using c)]
      rfl
    · rw [List.find?_cons_of_neg (by simpa [hnm] using c), List.find?_cons_of_neg (by simpa using c)]
      exact ih
theorem up23_set {L : List Ho23} (hs : L.Pairwise fun a b => a.nm ≠ b.nm) {i : Nat} {h : Ho23} (hi : L[i]? = some h) (n : Int) : up23 L h.nm n = L.set i ⟨h.nm, h.mo, n⟩ := by
  unfold up23
  induction L generalizing i with
  | nil => simp at hi
  | cons x l ih =>
    rw [List.pairwise_cons] at hs
    cases i with
    | zero =>
      simp only [List.getElem?_cons_zero, Option.some.injEq] at hi
      subst hi
      rw [List.map_cons, if_pos rfl, List.set_cons_zero]
      congr 1
      refine (List.map_congr_left fun y hy => ?_).trans (List.map_id l)
      rw [if_neg (hs.1 y hy).symm]; rfl
    | succ i =>
      simp only [List.getElem?_cons_succ] at hi
      rw [List.map_cons, if_neg (hs.1 h (List.mem_of_getElem? hi)), List.set_cons_succ, ih hs.2 hi]
/-- Open and Hold. -/
def oE23 (S : Pu23) (s : ByteArray) (n : Int) : Int := if n < 0 ∨ 1099511627776 < n ∨ 1024 ≤ S.L.length then 1 else if (fd23 S.L s).isSome then 230 else 0
def oS23 (S : Pu23) (s : ByteArray) (n : Int) : Pu23 := if oE23 S s n = 0 then ⟨in23 ⟨s, n, 0⟩ S.L, S.pk⟩ else S
def hE23 (S : Pu23) (s : ByteArray) (n : Int) : Int := match fd23 S.L s with | none => 230 | some h => if n < 0 ∨ h.mo < n then 1 else 0
def hS23 (S : Pu23) (s : ByteArray) (n : Int) : Pu23 := if hE23 S s n = 0 then ⟨up23 S.L s n, max S.pk (hs23 (up23 S.L s n))⟩ else S
theorem oE23_ok {S : Pu23} {s : ByteArray} {n : Int} (h0 : ¬ n < 0) (h1 : ¬ 1099511627776 < n) (h2 : ¬ 1024 ≤ S.L.length) (h3 : fd23 S.L s = none) : oE23 S s n = 0 := by
  unfold oE23; rw [if_neg (by omega), h3]; rfl
theorem oE23_arg {S : Pu23} {s : ByteArray} {n : Int} (h : n < 0 ∨ 1099511627776 < n ∨ 1024 ≤ S.L.length) : oE23 S s n = 1 := by
  unfold oE23; rw [if_pos h]
theorem oE23_nm {S : Pu23} {s : ByteArray} {n : Int} {y : Ho23} (h0 : ¬ n < 0) (h1 : ¬ 1099511627776 < n) (h2 : ¬ 1024 ≤ S.L.length) (h3 : fd23 S.L s = some y) : oE23 S s n = 230 := by
  unfold oE23; rw [if_neg (by omega), h3]; rfl
theorem oE23_zero {S : Pu23} {s : ByteArray} {n : Int} (h : oE23 S s n = 0) : 0 ≤ n ∧ n ≤ 1099511627776 ∧ S.L.length < 1024 ∧ fd23 S.L s = none := by
  unfold oE23 at h
  by_cases c : n < 0 ∨ 1099511627776 < n ∨ 1024 ≤ S.L.length
  · rw [if_pos c] at h; omega
  · rw [if_neg c] at h
    cases e : fd23 S.L s with
    | none => refine ⟨by omega, by omega, by omega, rfl⟩
    | some y => rw [e] at h; simp at h
theorem hE23_zero {S : Pu23} {s : ByteArray} {n : Int} (h : hE23 S s n = 0) : ∃ y, fd23 S.L s = some y ∧ 0 ≤ n ∧ n ≤ y.mo := by
  unfold hE23 at h
  cases e : fd23 S.L s with
  | none => rw [e] at h; simp at h
  | some y =>
    rw [e] at h
    dsimp only at h
    by_cases c : n < 0 ∨ y.mo < n
    · rw [if_pos c] at h; omega
    · exact ⟨y, rfl, by omega, by omega⟩
theorem Ok23.open_ {S : Pu23} (h : Ok23 S) {s : ByteArray} (hs : s.size ≤ 9223372036854775807) (n : Int) : Ok23 (oS23 S s n) := by
  unfold oS23
  by_cases c : oE23 S s n = 0
  · rw [if_pos c]
    obtain ⟨h1, h2, h3, h4⟩ := oE23_zero c
    refine ⟨in23_so h.so (fd23_none h4), fun x hx => ?_, ?_, ?_, ?_⟩
    · rcases in23_mem.1 hx with rfl | hx
      · exact ⟨Int.le_refl _, h1, h2, hs⟩
      · exact h.bd x hx
    · show (in23 _ S.L).length ≤ 1024
      rw [in23_len]; omega
    · show hs23 (in23 _ S.L) ≤ S.pk
      rw [in23_hs]; have := h.p0; simpa using this
    · show S.pk ≤ ms23 (in23 _ S.L)
      rw [in23_ms]; have := h.p1; dsimp only; omega
  · rw [if_neg c]; exact h
theorem Ok23.hold {S : Pu23} (h : Ok23 S) (s : ByteArray) (n : Int) : Ok23 (hS23 S s n) := by
  unfold hS23
  by_cases c : hE23 S s n = 0
  · rw [if_pos c]
    obtain ⟨y, h1, h2, h3⟩ := hE23_zero c
    have hbd : ∀ x ∈ up23 S.L s n, 0 ≤ x.no ∧ x.no ≤ x.mo ∧ x.mo ≤ 1099511627776 ∧ x.nm.size ≤ 9223372036854775807 := by
      intro x hx
      unfold up23 at hx
      obtain ⟨z, hz, rfl⟩ := List.mem_map.1 hx
      have hb := h.bd z hz
      by_cases d : z.nm = s
      · rw [if_pos d]
        have e := fd23_mem h.so.ne hz
        rw [d, h1] at e
        injection e with e
        subst e
        exact ⟨h2, h3, hb.2.2⟩
      · rw [if_neg d]; exact hb
    refine ⟨up23_so h.so s n, hbd, ?_, ?_, ?_⟩
    · show (up23 S.L s n).length ≤ 1024
      rw [up23_len]; exact h.ln
    · show hs23 (up23 S.L s n) ≤ max S.pk (hs23 (up23 S.L s n))
      omega
    · show max S.pk (hs23 (up23 S.L s n)) ≤ ms23 (up23 S.L s n)
      have h1 := hs23_bd hbd
      have h2 := h.p1
      rw [up23_ms] at h1 ⊢
      omega
  · rw [if_neg c]; exact h
theorem ok23_new : Ok23 ⟨[], 0⟩ := ⟨List.Pairwise.nil, fun h hh => absurd hh (List.not_mem_nil), by simp, by simp [hs23], by simp [ms23]⟩
/-- What is no longer to come, of a range over the holders. -/
def gn23 (L : List Ho23) (lf : ByteArray → Bool) : List Ho23 := L.filter fun h => !lf h.nm
theorem gn23_none {L : List Ho23} {lf : ByteArray → Bool} (h : ∀ x ∈ L, lf x.nm = true) : gn23 L lf = [] := by
  unfold gn23
  rw [List.filter_eq_nil_iff]
  intro x hx
  simp [h x hx]
theorem gn23_all {L : List Ho23} {lf : ByteArray → Bool} (h : ∀ s, lf s = false) : gn23 L lf = L := by
  unfold gn23
  rw [List.filter_eq_self]
  intro x _
  simp [h]
theorem gn23_step {L : List Ho23} (hs : L.Pairwise fun a b => a.nm ≠ b.nm) {lf lf' : ByteArray → Bool} {y : Ho23} (hy : y ∈ L) (h1 : lf y.nm = true) (h2 : ∀ s, lf' s = (lf s && !decide (s = y.nm))) :
    (gn23 L lf').Perm (gn23 L lf ++ [y]) := by
  unfold gn23
  induction L with
  | nil => cases hy
  | cons x l ih =>
    rw [List.pairwise_cons] at hs
    rcases List.mem_cons.1 hy with rfl | hy'
    · have hl : l.filter (fun h => !lf' h.nm) = l.filter (fun h => !lf h.nm) := by
        refine List.filter_congr fun z hz => ?_
        rw [h2]
        have : ¬ z.nm = y.nm := (hs.1 z hz).symm
        simp [this]
      rw [List.filter_cons_of_pos (by simp [h2]), List.filter_cons_of_neg (by simp [h1]), hl]
      exact (List.perm_append_singleton _ _).symm
    · have hne : ¬ x.nm = y.nm := hs.1 y hy'
      have hx : (!lf' x.nm) = (!lf x.nm) := by rw [h2]; simp [hne]
      by_cases c : (!lf x.nm) = true
      · rw [List.filter_cons_of_pos (p := fun h : Ho23 => !lf' h.nm) (by rw [hx]; exact c), List.filter_cons_of_pos (p := fun h : Ho23 => !lf h.nm) c, List.cons_append]
        exact (ih hs.2 hy').cons x
      · rw [List.filter_cons_of_neg (p := fun h : Ho23 => !lf' h.nm) (by rw [hx]; exact c), List.filter_cons_of_neg (p := fun h : Ho23 => !lf h.nm) c]
        exact ih hs.2 hy'
theorem hs23_perm {a b : List Ho23} (h : a.Perm b) : hs23 a = hs23 b := by
  induction h with
  | nil => rfl
  | cons x _ ih => simp only [hs23, ih]
  | swap x y l => simp only [hs23]; omega
  | trans _ _ i1 i2 => rw [i1, i2]
theorem ms23_perm {a b : List Ho23} (h : a.Perm b) : ms23 a = ms23 b := by
  induction h with
  | nil => rfl
  | cons x _ ih => simp only [ms23, ih]
  | swap x y l => simp only [ms23]; omega
  | trans _ _ i1 i2 => rw [i1, i2]
theorem gn23_sum {L : List Ho23} (hs : L.Pairwise fun a b => a.nm ≠ b.nm) {lf lf' : ByteArray → Bool} {y : Ho23} (hy : y ∈ L) (h1 : lf y.nm = true) (h2 : ∀ s, lf' s = (lf s && !decide (s = y.nm))) :
    hs23 (gn23 L lf') = hs23 (gn23 L lf) + y.no ∧ ms23 (gn23 L lf') = ms23 (gn23 L lf) + y.mo := by
  have hp := gn23_step hs hy h1 h2
  rw [hs23_perm hp, ms23_perm hp, hs23_app, ms23_app]
  simp [hs23, ms23]
theorem gn23_bd' {L : List Ho23} (bd : ∀ h ∈ L, 0 ≤ h.no ∧ h.no ≤ h.mo ∧ h.mo ≤ 1099511627776 ∧ h.nm.size ≤ 9223372036854775807) (ln : L.length ≤ 1024) (lf : ByteArray → Bool) : 0 ≤ hs23 (gn23 L lf) ∧ hs23 (gn23 L lf) ≤ ms23 (gn23 L lf) ∧ ms23 (gn23 L lf) ≤ 1125899906842624 := by
  have h1 := hs23_bd (L := gn23 L lf) fun x hx => bd x (List.mem_filter.1 hx).1
  have h2 : (gn23 L lf).length ≤ L.length := List.length_filter_le _ _
  omega
theorem gn23_bd {S : Pu23} (h : Ok23 S) (lf : ByteArray → Bool) : 0 ≤ hs23 (gn23 S.L lf) ∧ hs23 (gn23 S.L lf) ≤ ms23 (gn23 S.L lf) ∧ ms23 (gn23 S.L lf) ≤ 1125899906842624 := by
  have h1 := hs23_bd (L := gn23 S.L lf) fun x hx => h.bd x ((List.mem_filter.1 hx).1)
  have h2 : (gn23 S.L lf).length ≤ S.L.length := List.length_filter_le _ _
  have h3 := h.ln
  omega
end Go.Proofs.Ytboangeopbblnaa
