import Derived.Test.YtmfpdchfofffeaaGreatDoorSaM2
namespace Go.Proofs.YtmfpdchfofffeaaGreatDoor
set_option linter.unusedVariables false
abbrev Rw12 := (Nat → Int) × (Int → Int)
def put12 (s : Nat → Int) (x : Rw12) (j : Nat) : Rw12 := (pR12 x.1 x.2 s j, pH12 x.2 s j)
def ng12 (S : Nat → Int) : Nat → Int := fun i => - S i
noncomputable def h12 (n : Nat) (s : Nat → Int) : Int → Int := fun v => ((bk12 n s v : Nat) : Int)
/-- The turns, from the last of the order on; seen from the right. -/
noncomputable def ps12 (n : Nat) (S : Nat → Int) : List Nat → Rw12
  | [] => (fun _ => -1, h12 n (ng12 S))
  | j :: r => put12 (ng12 S) (ps12 n S r) j
def mir12 (n : Nat) (R : Nat → Int) : Nat → Int := fun q => R (n - 1 - q)
def go12 (s : Nat → Int) (t : Bool) (sm : Nat → Bool) (x : Rw12) (p : Nat) : Rw12 := if 0 < x.1 p ∧ sm (x.1 p - 1).toNat = t then put12 s x (x.1 p - 1).toNat else x
def ru12 (s : Nat → Int) (t : Bool) (sm : Nat → Bool) (x : Rw12) : Nat → Rw12
  | 0 => x
  | p + 1 => go12 s t sm (ru12 s t sm x p) p
noncomputable def ss12 (n : Nat) (S : Nat → Int) (o : List Nat) : Rw12 := (mir12 n (ps12 n S o).1, h12 n S)
noncomputable def s2i12 (n : Nat) (S : Nat → Int) (o : List Nat) : Rw12 := if 0 < n then put12 S (ss12 n S o) (n - 1) else ss12 n S o
noncomputable def st2_12 (n : Nat) (S : Nat → Int) (sm : Nat → Bool) (o : List Nat) (p : Nat) : Rw12 := ru12 S false sm (s2i12 n S o) p
def tak12 (sm : Nat → Bool) (R : Nat → Int) : Nat → Int := fun q => if 0 ≤ R q ∧ sm (R q).toNat = true then -1 else R q
noncomputable def s3i12 (n : Nat) (S : Nat → Int) (sm : Nat → Bool) (o : List Nat) : Rw12 := (mir12 n (tak12 sm (st2_12 n S sm o n).1), h12 n (ng12 S))
noncomputable def st3_12 (n : Nat) (S : Nat → Int) (sm : Nat → Bool) (o : List Nat) (p : Nat) : Rw12 := ru12 (ng12 S) true sm (s3i12 n S sm o) p
noncomputable def ind12 (n : Nat) (S : Nat → Int) (sm : Nat → Bool) (o : List Nat) : Nat → Int := mir12 n (st3_12 n S sm o n).1

theorem bk12_ng (n : Nat) (S : Nat → Int) (v : Int) : bk12 n (ng12 S) (-v) + bk12 n S (v + 1) = n := by
  have h1 : cn12 (fun _ => True) n = cn12 (fun i => ng12 S i < -v) n + cn12 (fun i => S i < v + 1) n := cn12_or (fun i _ => by unfold ng12; simp; omega) (fun i _ => by unfold ng12; omega)
  rw [cn12_all (P := fun _ => True) (fun _ _ => trivial)] at h1
  unfold bk12
  omega
theorem tc12_ng (n : Nat) (S : Nat → Int) (T : Nat → Prop) (v : Int) : tc12 n (ng12 S) T (-v) = tc12 n S T v := cn12_congr fun i _ => by unfold ng12; constructor <;> rintro ⟨a, b⟩ <;> exact ⟨a, by omega⟩
theorem pR12_at {R : Nat → Int} {h : Int → Int} {s : Nat → Int} {j P : Nat} (e : h (s j) = (P : Int)) (q : Nat) : pR12 R h s j q = if q = P then (j : Int) else R q := by
  unfold pR12; rw [e]
  by_cases k : q = P
  · simp [k]
  · have : ¬ (q : Int) = (P : Int) := by omega
    simp [k, this]
theorem St12.in_put {n : Nat} {s : Nat → Int} {T U : Nat → Prop} {R : Nat → Int} {h : Int → Int} (H : St12 n s T U R h) {j : Nat} (hj : j < n) (ht : T j) (hn : ¬ In12 n R j) (i : Nat) : In12 n (pR12 R h s j) i ↔ i = j ∨ In12 n R i := by
  obtain ⟨P, eP, hP1, hP2, hP3, hPn, hPe⟩ := H.place hj ht hn
  constructor
  · rintro ⟨q, hq, e⟩
    rw [pR12_at eP] at e
    by_cases eq : q = P
    · rw [if_pos eq] at e; left; omega
    · rw [if_neg eq] at e; right; exact ⟨q, hq, e⟩
  · rintro (rfl | ⟨q, hq, e⟩)
    · exact ⟨P, hPn, by rw [pR12_at eP, if_pos rfl]⟩
    · refine ⟨q, hq, ?_⟩
      rw [pR12_at eP, if_neg]
      · exact e
      · intro eq; rw [eq, hPe] at e; omega
/-- An empty row. -/
theorem st12_nil (n : Nat) (s : Nat → Int) (T : Nat → Prop) : St12 n s T (fun _ => False) (fun _ => -1) (h12 n s) where
  ok := fun q hq => Or.inl rfl
  inj := fun q q' _ _ _ h => by omega
  hd := fun i hi => by
    unfold h12
    rw [cn12_none (P := fun j => T j ∧ s j = s i ∧ In12 n (fun _ => -1) j)]
    · simp
    · rintro j _ ⟨_, _, q, _, e⟩; simp only at e; omega
  lo := fun q j _ _ e _ => by omega
  hi := fun q j _ _ e _ => by omega
  fl := fun i q hi hq e1 e2 => by exfalso; unfold h12 at e2; omega
  oth := fun j hj ht => ⟨by rintro ⟨q, _, e⟩; simp only at e; omega, False.elim⟩
/-- Pass 1. -/
theorem ps12_st {n : Nat} {S : Nat → Int} {sm : Nat → Bool} : ∀ (o : List Nat), o.Nodup → (∀ j ∈ o, j < n ∧ sm j = true) → St12 n (ng12 S) (fun i => sm i = true) (fun _ => False) (ps12 n S o).1 (ps12 n S o).2 ∧ ∀ j, In12 n (ps12 n S o).1 j ↔ j ∈ o
  | [], _, _ => ⟨st12_nil _ _ _, fun j => ⟨by rintro ⟨q, _, e⟩; simp only [ps12] at e; omega, by simp⟩⟩
  | j :: r, hn, hm => by
    obtain ⟨h1, h2⟩ := ps12_st (S := S) r (List.nodup_cons.1 hn).2 (fun k hk => hm k (by simp [hk]))
    have hj := hm j (by simp)
    have hno : ¬ In12 n (ps12 n S r).1 j := fun k => (List.nodup_cons.1 hn).1 ((h2 j).1 k)
    refine ⟨h1.put hj.1 hj.2 hno, fun i => ?_⟩
    show In12 n (pR12 _ _ _ _) i ↔ _
    rw [h1.in_put hj.1 hj.2 hno, h2 i, List.mem_cons]
theorem ps12_so {n : Nat} {S : Nat → Int} {sm : Nat → Bool} {le : Nat → Nat → Prop} (l1 : ∀ i j, i < n → j < n → S i < S j → le i j) (l2 : ∀ i j, i < n → j < n → S i = S j → sm i = false → sm j = true → le i j) : ∀ (o : List Nat), o.Nodup → (∀ j ∈ o, j < n ∧ sm j = true) → o.Pairwise (fun i j => S i = S j → le i j) →
    ∀ q q' i j : Nat, q < q' → q' < n → i < n → j < n → (ps12 n S o).1 q = (i : Int) → (ps12 n S o).1 q' = (j : Int) → le j i
  | [], _, _, _ => fun q q' i j _ _ _ _ e _ => by simp only [ps12] at e; omega
  | k :: r, hn, hm, hp => by
    obtain ⟨h1, h2⟩ := ps12_st (S := S) r (List.nodup_cons.1 hn).2 (fun k hk => hm k (by simp [hk]))
    have hj := hm k (by simp)
    have hno : ¬ In12 n (ps12 n S r).1 k := fun h => (List.nodup_cons.1 hn).1 ((h2 k).1 h)
    refine St12.so_put (le := fun i j => le j i) (fun i j hi hj e => l1 j i hj hi (by unfold ng12 at e; omega)) (fun i j hi hj e t1 t2 => l2 j i hj hi (by unfold ng12 at e; omega) (by simpa using t2) t1) h1 (ps12_so l1 l2 r (List.nodup_cons.1 hn).2 (fun k hk => hm k (by simp [hk])) (List.pairwise_cons.1 hp).2) hj.1 hj.2 hno ?_
    intro i hi hti ev hin
    exact (List.pairwise_cons.1 hp).1 i ((h2 i).1 hin) (by unfold ng12 at ev; omega)
structure Or12 (n : Nat) (sm : Nat → Bool) (o : List Nat) : Prop where
  nd : o.Nodup
  mem : ∀ j, j ∈ o ↔ j < n ∧ tn12 sm j
theorem Or12.small {n : Nat} {sm : Nat → Bool} {o : List Nat} (h : Or12 n sm o) : ∀ j ∈ o, j < n ∧ sm j = true := fun j hj => ⟨((h.mem j).1 hj).1, ((h.mem j).1 hj).2.2.1⟩
theorem mir12_in {n : Nat} {R : Nat → Int} (j : Nat) : In12 n (mir12 n R) j ↔ In12 n R j := by
  constructor
  · rintro ⟨q, hq, e⟩; exact ⟨n - 1 - q, by omega, e⟩
  · rintro ⟨q, hq, e⟩; exact ⟨n - 1 - q, by omega, by unfold mir12; rw [show n - 1 - (n - 1 - q) = q by omega]; exact e⟩
/-- The row ahead of pass 2. -/
theorem ss12_st {n : Nat} {S : Nat → Int} {sm : Nat → Bool} {o : List Nat} (ho : Or12 n sm o) : St12 n S (fun i => sm i = false) (tn12 sm) (ss12 n S o).1 (ss12 n S o).2 ∧ ∀ j, j < n → sm j = false → ¬ In12 n (ss12 n S o).1 j := by
  obtain ⟨h1, h2⟩ := ps12_st (S := S) o ho.nd ho.small
  have hno : ∀ j, j < n → sm j = false → ¬ In12 n (ss12 n S o).1 j := by
    intro j hj ht hin
    have := (ho.small j ((h2 j).1 ((mir12_in j).1 hin))).2
    rw [ht] at this; cases this
  refine ⟨⟨fun q hq => ?_, fun q q' hq hq' e e0 => ?_, fun i hi => ?_, fun q j hq hj e ht => ?_, fun q j hq hj e ht => ?_, fun i q hi hq e1 e2 => ?_, fun j hj ht => ?_⟩, hno⟩
  · rcases h1.ok (n - 1 - q) (by omega) with h0 | ⟨j, hj, e, a, b⟩
    · exact Or.inl h0
    · refine Or.inr ⟨j, hj, e, ?_, ?_⟩
      · have := bk12_ng n S (S j - 1)
        rw [show -(S j - 1) = ng12 S j + 1 by unfold ng12; omega, show S j - 1 + 1 = S j by omega] at this
        omega
      · have := bk12_ng n S (S j)
        rw [show -(S j) = ng12 S j from rfl] at this
        omega
  · have := h1.inj (n - 1 - q) (n - 1 - q') (by omega) (by omega) e e0
    omega
  · show h12 n S (S i) = _
    rw [cn12_none (P := fun j => sm j = false ∧ S j = S i ∧ In12 n (ss12 n S o).1 j)]
    · rfl
    · rintro j hj ⟨a, _, b⟩; exact hno j hj a b
  · exact absurd ⟨q, hq, e⟩ (hno j hj ht)
  · have ht' : sm j = true := by simpa using ht
    have a := h1.lo (n - 1 - q) j (by omega) hj e ht'
    rw [h1.hd j hj] at a
    have hle : cn12 (fun i => sm i = true ∧ ng12 S i = ng12 S j ∧ In12 n (ps12 n S o).1 i) n ≤ tc12 n (ng12 S) (fun i => sm i = true) (ng12 S j) := cn12_le (fun i _ h => ⟨h.1, h.2.1⟩)
    have b1 := bk12_ng n S (S j)
    have b2 := tc12_ng n S (fun i => sm i = true) (S j)
    rw [show -(S j) = ng12 S j from rfl] at b1 b2
    have b3 := bk12_succ n S (fun i => sm i = false) (S j)
    have b4 : tc12 n S (fun i => ¬ sm i = false) (S j) = tc12 n S (fun i => sm i = true) (S j) := cn12_congr (fun i _ => by simp)
    omega
  · have : h12 n S (S i) = ((bk12 n S (S i) : Nat) : Int) := rfl
    have e2 : (q : Int) < h12 n S (S i) := e2
    omega
  · show In12 n (mir12 n _) j ↔ _
    rw [mir12_in, h2 j, ho.mem j]
    exact ⟨fun h => h.2, fun h => ⟨hj, h⟩⟩
/-- A step of a pass. -/
theorem ru12_pg {n : Nat} {s : Nat → Int} {sm : Nat → Bool} {t : Bool} {U D : Nat → Prop} {le : Nat → Nat → Prop} {x : Rw12} (F : Fr12 n s (fun i => sm i = t) U D le) (H : Pg12 n s (fun i => sm i = t) U D le 0 x.1 x.2) : ∀ p, p ≤ n → Pg12 n s (fun i => sm i = t) U D le p (ru12 s t sm x p).1 (ru12 s t sm x p).2
  | 0, _ => H
  | p + 1, hp => by
    have ih := ru12_pg F H p (by omega)
    show Pg12 _ _ _ _ _ _ (p + 1) (go12 s t sm (ru12 s t sm x p) p).1 (go12 s t sm (ru12 s t sm x p) p).2
    unfold go12
    generalize ru12 s t sm x p = y at ih
    by_cases hc : 0 < y.1 p ∧ sm (y.1 p - 1).toNat = t
    · rw [if_pos hc]
      have hjn : (y.1 p - 1).toNat < n := by
        rcases ih.st.ok p (by omega) with h0 | ⟨k, hk, hk1, _⟩ <;> omega
      exact (ih.step F (by omega) hjn (by omega) hc.2).2
    · rw [if_neg hc]
      refine ih.skip fun j e hj ht => hc ⟨by omega, ?_⟩
      rw [show (y.1 p - 1).toNat = j by omega]; exact ht
/-- Pass 2. -/
theorem st2_pg {n : Nat} {S : Nat → Int} {sm : Nat → Bool} {o : List Nat} {le : Nat → Nat → Prop} (H : Ty12 n S sm) (F : Fr12 n S (fun i => sm i = false) (tn12 sm) (D12 n) le) (ho : Or12 n sm o) (hp : o.Pairwise (fun i j => S i = S j → le i j)) (p : Nat) (hpn : p ≤ n) :
    Pg12 n S (fun i => sm i = false) (tn12 sm) (D12 n) le p (st2_12 n S sm o p).1 (st2_12 n S sm o p).2 := by
  refine ru12_pg F ?_ p hpn
  obtain ⟨h1, h2⟩ := ss12_st (S := S) ho
  have so := ps12_so F.l1 (fun i j hi hj e t1 t2 => F.l2 i j hi hj e t1 (by simp [t2])) o ho.nd ho.small hp
  have so' : ∀ q q' i j : Nat, q < q' → q' < n → i < n → j < n → (ss12 n S o).1 q = (i : Int) → (ss12 n S o).1 q' = (j : Int) → le i j :=
    fun q q' i j a b hi hj e1 e2 => so (n - 1 - q') (n - 1 - q) j i (by omega) (by omega) hj hi e2 e1
  unfold s2i12
  by_cases hn : 0 < n
  · rw [if_pos hn]
    refine Pg12.first F h1 h2 (by omega) (H.last _ (by omega)) (fun i hi ht => ?_) so'
    unfold D12; omega
  · rw [if_neg hn]
    exact Pg12.none h1 h2 (fun i hi => by omega) so'
theorem st2_t {n : Nat} {S : Nat → Int} {sm : Nat → Bool} {o : List Nat} (H : Ty12 n S sm) (ho : Or12 n sm o) (p : Nat) (hpn : p ≤ n) :
    Pg12 n S (fun i => sm i = false) (tn12 sm) (D12 n) (fun _ _ => True) p (st2_12 n S sm o p).1 (st2_12 n S sm o p).2 := st2_pg H H.frt2 ho (List.pairwise_of_forall (fun _ _ _ => trivial)) p hpn
/-- The row ahead of pass 3. -/
theorem s3i12_st {n : Nat} {S : Nat → Int} {sm : Nat → Bool} {o : List Nat} (H : Ty12 n S sm) (ho : Or12 n sm o) : St12 n (ng12 S) (fun i => sm i = true) (fun i => sm i = false) (s3i12 n S sm o).1 (s3i12 n S sm o).2 ∧ ∀ j, j < n → sm j = true → ¬ In12 n (s3i12 n S sm o).1 j := by
  have h2 := st2_t (S := S) H ho n (Nat.le_refl n)
  have tk : ∀ q j : Nat, j < n → ((tak12 sm (st2_12 n S sm o n).1) q = (j : Int) ↔ (st2_12 n S sm o n).1 q = (j : Int) ∧ sm j = false) := by
    intro q j hj
    unfold tak12
    by_cases hc : 0 ≤ (st2_12 n S sm o n).1 q ∧ sm ((st2_12 n S sm o n).1 q).toNat = true
    · rw [if_pos hc]
      constructor
      · intro e; omega
      · rintro ⟨e, k⟩; rw [e] at hc; simp [k] at hc
    · rw [if_neg hc]
      constructor
      · intro e; refine ⟨e, ?_⟩; rw [e] at hc; simp at hc; exact hc
      · exact fun e => e.1
  have hno : ∀ j, j < n → sm j = true → ¬ In12 n (s3i12 n S sm o).1 j := by
    rintro j hj ht ⟨q, hq, e⟩
    have := ((tk (n - 1 - q) j hj).1 e).2
    rw [ht] at this; cases this
  refine ⟨⟨fun q hq => ?_, fun q q' hq hq' e e0 => ?_, fun i hi => ?_, fun q j hq hj e ht => ?_, fun q j hq hj e ht => ?_, fun i q hi hq e1 e2 => ?_, fun j hj ht => ?_⟩, hno⟩
  · show tak12 sm (st2_12 n S sm o n).1 (n - 1 - q) = -1 ∨ _
    rcases h2.st.ok (n - 1 - q) (by omega) with h0 | ⟨j, hj, e, a, b⟩
    · left; unfold tak12; rw [h0]; simp
    · by_cases ht : sm j = true
      · left; unfold tak12; rw [e]; simp [ht]
      · right
        refine ⟨j, hj, (tk _ j hj).2 ⟨e, by simpa using ht⟩, ?_, ?_⟩
        · have := bk12_ng n S (S j)
          rw [show -(S j) = ng12 S j from rfl] at this
          omega
        · have := bk12_ng n S (S j - 1)
          rw [show -(S j - 1) = ng12 S j + 1 by unfold ng12; omega, show S j - 1 + 1 = S j by omega] at this
          omega
  · have e : tak12 sm (st2_12 n S sm o n).1 (n - 1 - q) = tak12 sm (st2_12 n S sm o n).1 (n - 1 - q') := e
    have e0 : 0 ≤ tak12 sm (st2_12 n S sm o n).1 (n - 1 - q) := e0
    have g : ∀ r : Nat, 0 ≤ tak12 sm (st2_12 n S sm o n).1 r → tak12 sm (st2_12 n S sm o n).1 r = (st2_12 n S sm o n).1 r := by
      intro r hr
      unfold tak12 at hr ⊢
      by_cases hc : 0 ≤ (st2_12 n S sm o n).1 r ∧ sm ((st2_12 n S sm o n).1 r).toNat = true
      · rw [if_pos hc] at hr; omega
      · rw [if_neg hc]
    have e1 := g _ e0
    have e2 := g (n - 1 - q') (by omega)
    have := h2.st.inj (n - 1 - q) (n - 1 - q') (by omega) (by omega) (by omega) (by omega)
    omega
  · show h12 n (ng12 S) (ng12 S i) = _
    rw [cn12_none (P := fun j => sm j = true ∧ ng12 S j = ng12 S i ∧ In12 n (s3i12 n S sm o).1 j)]
    · rfl
    · rintro j hj ⟨a, _, b⟩; exact hno j hj a b
  · exact absurd ⟨q, hq, e⟩ (hno j hj ht)
  · have ht' : sm j = false := by simpa using ht
    have a := h2.st.lo (n - 1 - q) j (by omega) hj ((tk _ j hj).1 e).1 ht'
    rw [h2.full H.frt2 hj] at a
    have b1 := bk12_ng n S (S j)
    have b2 := tc12_ng n S (fun i => sm i = true) (S j)
    rw [show -(S j) = ng12 S j from rfl] at b1 b2
    have b3 := bk12_succ n S (fun i => sm i = false) (S j)
    have b4 : tc12 n S (fun i => ¬ sm i = false) (S j) = tc12 n S (fun i => sm i = true) (S j) := cn12_congr (fun i _ => by simp)
    omega
  · have e2 : (q : Int) < h12 n (ng12 S) (ng12 S i) := e2
    have : h12 n (ng12 S) (ng12 S i) = ((bk12 n (ng12 S) (ng12 S i) : Nat) : Int) := rfl
    omega
  · have ht' : sm j = false := by simpa using ht
    refine ⟨fun _ => ht', fun _ => ?_⟩
    obtain ⟨q, hq, e⟩ := h2.all H.frt2 (n - j) j hj (by omega) ht'
    exact (mir12_in j).2 ⟨q, hq, (tk q j hj).2 ⟨e, ht'⟩⟩
/-- Pass 3. -/
theorem st3_pg {n : Nat} {S : Nat → Int} {sm : Nat → Bool} {o : List Nat} {le2 le3 : Nat → Nat → Prop} (H : Ty12 n S sm) (F2 : Fr12 n S (fun i => sm i = false) (tn12 sm) (D12 n) le2) (F3 : Fr12 n (ng12 S) (fun i => sm i = true) (fun i => sm i = false) (fun _ => False) (fun i j => le3 j i)) (hl : ∀ i j, i < n → j < n → sm i = false → sm j = false → le2 i j → le3 i j) (ho : Or12 n sm o) (hp : o.Pairwise (fun i j => S i = S j → le2 i j)) (p : Nat) (hpn : p ≤ n) :
    Pg12 n (ng12 S) (fun i => sm i = true) (fun i => sm i = false) (fun _ => False) (fun i j => le3 j i) p (st3_12 n S sm o p).1 (st3_12 n S sm o p).2 := by
  refine ru12_pg F3 ?_ p hpn
  obtain ⟨h1, h2⟩ := s3i12_st (S := S) H ho
  have h3 := st2_pg (S := S) H F2 ho hp n (Nat.le_refl n)
  have g : ∀ (r j : Nat), j < n → tak12 sm (st2_12 n S sm o n).1 r = (j : Int) → (st2_12 n S sm o n).1 r = (j : Int) ∧ sm j = false := by
    intro r j hj e
    unfold tak12 at e
    by_cases hc : 0 ≤ (st2_12 n S sm o n).1 r ∧ sm ((st2_12 n S sm o n).1 r).toNat = true
    · rw [if_pos hc] at e; omega
    · rw [if_neg hc] at e; refine ⟨e, ?_⟩; rw [e] at hc; simp at hc; exact hc
  refine Pg12.none h1 h2 (fun i hi _ k => k) ?_
  intro q q' i j a b hi hj e1 e2
  obtain ⟨f1, f2⟩ := g (n - 1 - q) i hi e1
  obtain ⟨f3, f4⟩ := g (n - 1 - q') j hj e2
  exact hl j i hj hi f4 f2 (h3.so (n - 1 - q') (n - 1 - q) j i (by omega) (by omega) hj hi f3 f1)
theorem st3_t {n : Nat} {S : Nat → Int} {sm : Nat → Bool} {o : List Nat} (H : Ty12 n S sm) (ho : Or12 n sm o) (p : Nat) (hpn : p ≤ n) :
    Pg12 n (ng12 S) (fun i => sm i = true) (fun i => sm i = false) (fun _ => False) (fun _ _ => True) p (st3_12 n S sm o p).1 (st3_12 n S sm o p).2 := st3_pg (le3 := fun _ _ => True) H H.frt2 H.frt3 (fun _ _ _ _ _ _ _ => trivial) ho (List.pairwise_of_forall (fun _ _ _ => trivial)) p hpn
/-- Places that are taken by all are all taken. -/
theorem fill12 {n : Nat} {R : Nat → Int} (h : ∀ j, j < n → In12 n R j) : ∀ q, q < n → ∃ j, j < n ∧ R q = (j : Int) := by
  have hc : ∀ m, m ≤ n → m ≤ cn12 (fun q => ∃ j, j < m ∧ R q = (j : Int)) n := by
    intro m
    induction m with
    | zero => intro _; omega
    | succ m ih =>
      intro hm
      obtain ⟨q, hq, e⟩ := h m (by omega)
      have := cn12_lt (P := fun q => ∃ j, j < m ∧ R q = (j : Int)) (Q := fun q => ∃ j, j < m + 1 ∧ R q = (j : Int)) (n := n) (j := q) (fun i _ ⟨j, a, b⟩ => ⟨j, by omega, b⟩) hq (by rintro ⟨j, a, b⟩; omega) ⟨m, by omega, e⟩
      have := ih (by omega)
      omega
  intro q hq
  rcases Classical.em (∃ j, j < n ∧ R q = (j : Int)) with k | k
  · exact k
  · exfalso
    have h1 := hc n (Nat.le_refl n)
    have h2 := cn12_lt (P := fun q => ∃ j, j < n ∧ R q = (j : Int)) (Q := fun _ => True) (n := n) (j := q) (fun _ _ _ => trivial) hq k trivial
    rw [cn12_all (P := fun _ => True) (fun _ _ => trivial)] at h2
    omega
structure Pm12 (n : Nat) (R : Nat → Int) : Prop where
  all : ∀ j, j < n → In12 n R j
  fill : ∀ q, q < n → ∃ j, j < n ∧ R q = (j : Int)
  inj : ∀ q q', q < n → q' < n → R q = R q' → q = q'
theorem ind12_pm {n : Nat} {S : Nat → Int} {sm : Nat → Bool} {o : List Nat} (H : Ty12 n S sm) (ho : Or12 n sm o) : Pm12 n (ind12 n S sm o) := by
  have h3 := st3_t (S := S) H ho n (Nat.le_refl n)
  have hall : ∀ j, j < n → In12 n (ind12 n S sm o) j := by
    intro j hj
    refine (mir12_in j).2 ?_
    by_cases ht : sm j = true
    · exact h3.all H.frt3 (n - j) j hj (by omega) ht
    · exact (h3.st.oth j hj ht).2 (by simpa using ht)
  have hf := fill12 hall
  refine ⟨hall, hf, fun q q' hq hq' e => ?_⟩
  obtain ⟨j, _, ej⟩ := hf q hq
  have := h3.st.inj (n - 1 - q) (n - 1 - q') (by omega) (by omega) e (by show 0 ≤ ind12 n S sm o q; omega)
  omega
theorem ind12_so {n : Nat} {S : Nat → Int} {sm : Nat → Bool} {o : List Nat} {le2 le3 : Nat → Nat → Prop} (H : Ty12 n S sm) (F2 : Fr12 n S (fun i => sm i = false) (tn12 sm) (D12 n) le2) (F3 : Fr12 n (ng12 S) (fun i => sm i = true) (fun i => sm i = false) (fun _ => False) (fun i j => le3 j i)) (hl : ∀ i j, i < n → j < n → sm i = false → sm j = false → le2 i j → le3 i j) (ho : Or12 n sm o) (hp : o.Pairwise (fun i j => S i = S j → le2 i j)) :
    ∀ q q' i j : Nat, q < q' → q' < n → i < n → j < n → ind12 n S sm o q = (i : Int) → ind12 n S sm o q' = (j : Int) → le3 i j := by
  intro q q' i j a b hi hj e1 e2
  exact (st3_pg H F2 F3 hl ho hp n (Nat.le_refl n)).so (n - 1 - q') (n - 1 - q) j i (by omega) (by omega) hj hi e2 e1
/-- P12.6. -/
theorem ind12_less {n : Nat} {S : Nat → Int} {sm : Nat → Bool} {o : List Nat} (H : Ty12 n S sm) (ho : Or12 n sm o) (hp : o.Pairwise (Ls12 n S)) :
    ∀ q q' i j : Nat, q < q' → q' < n → i < n → j < n → ind12 n S sm o q = (i : Int) → ind12 n S sm o q' = (j : Int) → Ls12 n S i j :=
  ind12_so H H.frs2 H.frs3 (fun i j _ _ _ _ h => h) ho (List.Pairwise.imp (S := fun i j => S i = S j → Ls12 n S i j) (fun h _ => h) hp)
/-- P12.7. -/
theorem ind12_key {n : Nat} {S : Nat → Int} {sm : Nat → Bool} {o : List Nat} (H : Ty12 n S sm) (ho : Or12 n sm o) :
    ∀ q q' i j : Nat, q < q' → q' < n → i < n → j < n → ind12 n S sm o q = (i : Int) → ind12 n S sm o q' = (j : Int) → LE12 (key12 n S sm i) (key12 n S sm j) := by
  refine ind12_so H H.frk2 H.frk3 (fun i j hi hj h1 h2 h => ?_) ho ?_
  · rw [tkey12_on hi (not_turn12 h1), tkey12_on hj (not_turn12 h2)] at h
    exact h
  · have := ho.mem
    refine List.Pairwise.imp_of_mem (R := fun _ _ => True) (fun {i j} hi hj _ e => ?_) (List.pairwise_of_forall (fun _ _ => trivial))
    have a := (ho.mem i).1 hi
    have b := (ho.mem j).1 hj
    rw [tkey12_turn a.1 a.2, tkey12_turn b.1 b.2, cd12_eq.2 ⟨e, a.2.2.1.trans b.2.2.1.symm⟩]
    exact Or.inl rfl
end Go.Proofs.YtmfpdchfofffeaaGreatDoor
