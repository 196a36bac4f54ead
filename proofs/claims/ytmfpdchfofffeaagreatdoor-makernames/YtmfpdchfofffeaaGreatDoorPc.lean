import Derived.Test.YtmfpdchfofffeaaGreatDoorPb
import Derived.Test.YtmfpdchfofffeaaGreatDoorPa
namespace Go.Proofs.YtmfpdchfofffeaaGreatDoor
set_option linter.unusedVariables false
abbrev Rw12 := (Nat → Int) × (Int → Int)
def put12 (s : Nat → Int) (x : Rw12) (j : Nat) : Rw12 := (pR12 x.1 x.2 s j, pH12 x.2 s j)
def ng12 (S : Nat → Int) : Nat → Int := fun i => - S i
noncomputable def h12 (n : Nat) (s : Nat → Int) : Int → Int := fun v => ((bk12 n s v : Nat) : Int)
/-- The turns, from the last of the order on; seen from the right. -/
noncomputable def ps12 (n : Nat) (S : Nat → Int) : List Nat → Rw12
  | [] => (fun _ => -1, h12 n (ng12 S))
  | j :: r => put12 (ng12 S) (ps12 n S r) j
def mir12 (n : Nat) (R : Nat → Int) : Nat → Int := fun q => R (n - 1 - q)
def go12 (s : Nat → Int) (t : Bool) (sm : Nat → Bool) (x : Rw12) (p : Nat) : Rw12 := if 0 < x.1 p ∧ sm (x.1 p - 1).toNat = t then put12 s x (x.1 p - 1).toNat else x
def ru12 (s : Nat → Int) (t : Bool) (sm : Nat → Bool) (x : Rw12) : Nat → Rw12
  | 0 => x
  | p + 1 => go12 s t sm (ru12 s t sm x p) p
noncomputable def ss12 (n : Nat) (S : Nat → Int) (o : List Nat) : Rw12 := (mir12 n (ps12 n S o).1, h12 n S)
noncomputable def s2i12 (n : Nat) (S : Nat → Int) (o : List Nat) : Rw12 := if 0 < n then put12 S (ss12 n S o) (n - 1) else ss12 n S o
noncomputable def st2_12 (n : Nat) (S : Nat → Int) (sm : Nat → Bool) (o : List Nat) (p : Nat) : Rw12 := ru12 S false sm (s2i12 n S o) p
def tak12 (sm : Nat → Bool) (R : Nat → Int) : Nat → Int := fun q => if 0 ≤ R q ∧ sm (R q).toNat = true then -1 else R q
noncomputable def s3i12 (n : Nat) (S : Nat → Int) (sm : Nat → Bool) (o : List Nat) : Rw12 := (mir12 n (tak12 sm (st2_12 n S sm o n).1), h12 n (ng12 S))
noncomputable def st3_12 (n : Nat) (S : Nat → Int) (sm : Nat → Bool) (o : List Nat) (p : Nat) : Rw12 := ru12 (ng12 S) true sm (s3i12 n S sm o) p
noncomputable def ind12 (n : Nat) (S : Nat → Int) (sm : Nat → Bool) (o : List Nat) : Nat → Int := mir12 n (st3_12 n S sm o n).1

theorem bk12_ng (n : Nat) (S : Nat → Int) (v : Int) : bk12 n (ng12 S) (-v) + bk12 n S (v + 1) = n := by
  have h1 : cn12 (fun _ => True) n = cn12 (fun i => ng12 S i < -v) n + cn12 (fun i => S i < v + 1) n := cn12_or (fun i _ => by unfold ng12; simp; omega) (fun i _ => by unfold ng12; omega)
  rw [cn12_all (P := fun _ => True) (fun _ _ => trivial)] at h1
  unfold bk12
  omega
theorem tc12_ng (n : Nat) (S : Nat → Int) (T : Nat → Prop) (v : Int) : tc12 n (ng12 S) T (-v) = tc12 n S T v := cn12_congr fun i _ => by unfold ng12; constructor <;> rintro ⟨a, b⟩ <;> exact ⟨a, by omega⟩
theorem pR12_at {R : Nat → Int} {h : Int → Int} {s : Nat → Int} {j P : Nat} (e : h (s j) = (P : Int)) (q : Nat) : pR12 R h s j q = if q = P then (j : Int) else R q := by
  unfold pR12; rw [e]
  by_cases k : q = P
  · simp [k]
  · have : ¬ (q : Int) = (P : Int) := by omega
    simp [k, this]
theorem St12.in_put {n : Nat} {s : Nat → Int} {T U : Nat → Prop} {R : Nat → Int} {h : Int → Int} (H : St12 n s T U R h) {j : Nat} (hj : j < n) (ht : T j) (hn : ¬ In12 n R j) (i : Nat) : In12 n (pR12 R h s j) i ↔ i = j ∨ In12 n R i := by
  obtain ⟨P, eP, hP1, hP2, hP3, hPn, hPe⟩ := H.place hj ht hn
  constructor
  · rintro ⟨q, hq, e⟩
    rw [pR12_at eP] at e
    by_cases eq : q = P
    · rw [if_pos eq] at e; left; omega
    · rw [if_neg eq] at e; right; exact ⟨q, hq, e⟩
  · rintro (rfl | ⟨q, hq, e⟩)
    · exact ⟨P, hPn, by rw [pR12_at eP, if_pos rfl]⟩
    · refine ⟨q, hq, ?_⟩
      rw [pR12_at eP, if_neg]
      · exact e
      · intro eq; rw [eq, hPe] at e; omega
/-- An empty row. -/
theorem st12_nil (n : Nat) (s : Nat → Int) (T : Nat → Prop) : St12 n s T (fun _ => False) (fun _ => -1) (h12 n s) where
  ok := fun q hq => Or.inl rfl
  inj := fun q q' _ _ _ h => by omega
  hd := fun i hi => by
    unfold h12
    rw [cn12_none (P := fun j => T j ∧ s j = s i ∧ In12 n (fun _ => -1) j)]
    · simp
    · rintro j _ ⟨_, _, q, _, e⟩; simp only at e; omega
  lo := fun q j _ _ e _ => by omega
  hi := fun q j _ _ e _ => by omega
  fl := fun i q hi hq e1 e2 => by exfalso; unfold h12 at e2; omega
  oth := fun j hj ht => ⟨by rintro ⟨q, _, e⟩; simp only at e; omega, False.elim⟩
/-- Pass 1. -/
theorem ps12_st {n : Nat} {S : Nat → Int} {sm : Nat → Bool} : ∀ (o : List Nat), o.Nodup → (∀ j ∈ o, j < n ∧ sm j = true) → St12 n (ng12 S) (fun i => sm i = true) (fun _ => False) (ps12 n S o).1 (ps12 n S o).2 ∧ ∀ j, In12 n (ps12 n S o).1 j ↔ j ∈ o
  | [], _, _ => ⟨st12_nil _ _ _, fun j => ⟨by rintro ⟨q, _, e⟩; simp only [ps12] at e; omega, by simp⟩⟩
  | j :: r, hn, hm => by
    obtain ⟨h1, h2⟩ := ps12_st (S := S) r (List.nodup_cons.1 hn).2 (fun k hk => hm k (by simp [hk]))
    have hj := hm j (by simp)
    have hno : ¬ In12 n (ps12 n S r).1 j := fun k => (List.nodup_cons.1 hn).1 ((h2 j).1 k)
    refine ⟨h1.put hj.1 hj.2 hno, fun i => ?_⟩
    show In12 n (pR12 _ _ _ _) i ↔ _
    rw [h1.in_put hj.1 hj.2 hno, h2 i, List.mem_cons]
theorem ps12_so {n : Nat} {S : Nat → Int} {sm : Nat → Bool} {le : Nat → Nat → Prop} (l1 : ∀ i j, i < n → j < n → S i < S j → le i j) (l2 : ∀ i j, i < n → j < n → S i = S j → sm i = false → sm j = true → le i j) : ∀ (o : List Nat), o.Nodup → (∀ j ∈ o, j < n ∧ sm j = true) → o.Pairwise (fun i j => S i = S j → le i j) →
    ∀ q q' i j : Nat, q < q' → q' < n → i < n → j < n → (ps12 n S o).1 q = (i : Int) → (ps12 n S o).1 q' = (j : Int) → le j i
  | [], _, _, _ => fun q q' i j _ _ _ _ e _ => by simp only [ps12] at e; omega
  | k :: r, hn, hm, hp => by
    obtain ⟨h1, h2⟩ := ps12_st (S := S) r (List.nodup_cons.1 hn).2 (fun k hk => hm k (by simp [hk]))
    have hj := hm k (by simp)
    have hno : ¬ In12 n (ps12 n S r).1 k := fun h => (List.nodup_cons.1 hn).1 ((h2 k).1 h)
    refine St12.so_put (le := fun i j => le j i) (fun i j hi hj e => l1 j i hj hi (by unfold ng12 at e; omega)) (fun i j hi hj e t1 t2 => l2 j i hj hi (by unfold ng12 at e; omega) (by simpa using t2) t1) h1 (ps12_so l1 l2 r (List.nodup_cons.1 hn).2 (fun k hk => hm k (by simp [hk])) (List.pairwise_cons.1 hp).2) hj.1 hj.2 hno ?_
    intro i hi hti ev hin
    exact (List.pairwise_cons.1 hp).1 i ((h2 i).1 hin) (by unfold ng12 at ev; omega)
structure Or12 (n : Nat) (sm : Nat → Bool) (o : List Nat) : Prop where
  nd : o.Nodup
  mem : ∀ j, j ∈ o ↔ j < n ∧ tn12 sm j
theorem Or12.small {n : Nat} {sm : Nat → Bool} {o : List Nat} (h : Or12 n sm o) : ∀ j ∈ o, j < n ∧ sm j = true := fun j hj => ⟨((h.mem j).1 hj).1, ((h.mem j).1 hj).2.2.1⟩
theorem mir12_in {n : Nat} {R : Nat → Int} (j : Nat) : In12 n (mir12 n R) j ↔ In12 n R j := by
  constructor
  · rintro ⟨q, hq, e⟩; exact ⟨n - 1 - q, by omega, e⟩
  · rintro ⟨q, hq, e⟩; exact ⟨n - 1 - q, by omega, by unfold mir12; rw [show n - 1 - (n - 1 - q) = q by omega]; exact e⟩
/-- The row ahead of pass 2. -/
theorem ss12_st {n : Nat} {S : Nat → Int} {sm : Nat → Bool} {o : List Nat} (ho : Or12 n sm o) : St12 n S (fun i => sm i = false) (tn12 sm) (ss12 n S o).1 (ss12 n S o).2 ∧ ∀ j, j < n → sm j = false → ¬ In12 n (ss12 n S o).1 j := by
  obtain ⟨h1, h2⟩ := ps12_st (S := S) o ho.nd ho.small
  have hno : ∀ j, j < n → sm j = false → ¬ In12 n (ss12 n S o).1 j := by
    intro j hj ht hin
    have := (ho.small j ((h2 j).1 ((mir12_in j).1 hin))).2
    rw [ht] at this; cases this
  refine ⟨⟨fun q hq => ?_, fun q q' hq hq' e e0 => ?_, fun i hi => ?_, fun q j hq hj e ht => ?_, fun q j hq hj e ht => ?_, fun i q hi hq e1 e2 => ?_, fun j hj ht => ?_⟩, hno⟩
  · rcases h1.ok (n - 1 - q) (by omega) with h0 | ⟨j, hj, e, a, b⟩
    · exact Or.inl h0
    · refine Or.inr ⟨j, hj, e, ?_, ?_⟩
      · have := bk12_ng n S (S j - 1)
        rw [show -(S j - 1) = ng12 S j + 1 by unfold ng12; omega, show S j - 1 + 1 = S j by omega] at this
        omega
      · have := bk12_ng n S (S j)
        rw [show -(S j) = ng12 S j from rfl] at this
        omega
  · have := h1.inj (n - 1 - q) (n - 1 - q') (by omega) (by omega) e e0
    omega
  · show h12 n S (S i) = _
    rw [cn12_none (P := fun j => sm j = false ∧ S j = S i ∧ In12 n (ss12 n S o).1 j)]
    · rfl
    · rintro j hj ⟨a, _, b⟩; exact hno j hj a b
  · exact absurd ⟨q, hq, e⟩ (hno j hj ht)
  · have ht' : sm j = true := by simpa using ht
    have a := h1.lo (n - 1 - q) j (by omega) hj e ht'
    rw [h1.hd j hj] at a
    have hle : cn12 (fun i => sm i = true ∧ ng12 S i = ng12 S j ∧ In12 n (ps12 n S o).1 i) n ≤ tc12 n (ng12 S) (fun i => sm i = true) (ng12 S j) := cn12_le (fun i _ h => ⟨h.1, h.2.1⟩)
    have b1 := bk12_ng n S (S j)
    have b2 := tc12_ng n S (fun i => sm i = true) (S j)
    rw [show -(S j) = ng12 S j from rfl] at b1 b2
    have b3 := bk12_succ n S (fun i => sm i = false) (S j)
    have b4 : tc12 n S (fun i => ¬ sm i = false) (S j) = tc12 n S (fun i => sm i = true) (S j) := cn12_congr (fun i _ => by simp)
    omega
  · have : h12 n S (S i) = ((bk12 n S (S i) : Nat) : Int) := rfl
    have e2 : (q : Int) < h12 n S (S i) := e2
    omega
  · show In12 n (mir12 n _) j ↔ _
    rw [mir12_in, h2 j, ho.mem j]
    exact ⟨fun h => h.2, fun h => ⟨hj, h⟩⟩
/-- A step of a pass. -/
theorem ru12_pg {n : Nat} {s : Nat → Int} {sm : Nat → Bool} {t : Bool} {U D : Nat → Prop} {le : Nat → Nat → Prop} {x : Rw12} (F : Fr12 n s (fun i => sm i = t) U D le) (H : Pg12 n s (fun i => sm i = t) U D le 0 x.1 x.2) : ∀ p, p ≤ n → Pg12 n s (fun i => sm i = t) U D le p (ru12 s t sm x p).1 (ru12 s t sm x p).2
  | 0, _ => H
  | p + 1, hp => by
    have ih := ru12_pg F H p (by omega)
    show Pg12 _ _ _ _ _ _ (p + 1) (go12 s t sm (ru12 s t sm x p) p).1 (go12 s t sm (ru12 s t sm x p) p).2
    unfold go12
    generalize ru12 s t sm x p = y at ih
    by_cases hc : 0 < y.1 p ∧ sm (y.1 p - 1).toNat = t
    · rw [if_pos hc]
      have hjn : (y.1 p - 1).toNat < n := by
        rcases ih.st.ok p (by omega) with h0 | ⟨k, hk, hk1, _⟩ <;> omega
      exact (ih.step F (by omega) hjn (by omega) hc.2).2
    · rw [if_neg hc]
      refine ih.skip fun j e hj ht => hc ⟨by omega, ?_⟩
      rw [show (y.1 p - 1).toNat = j by omega]; exact ht
/-- Pass 2. -/
theorem st2_pg {n : Nat} {S : Nat → Int} {sm : Nat → Bool} {o : List Nat} {le : Nat → Nat → Prop} (H : Ty12 n S sm) (F : Fr12 n S (fun i => sm i = false) (tn12 sm) (D12 n) le) (ho : Or12 n sm o) (hp : o.Pairwise (fun i j => S i = S j → le i j)) (p : Nat) (hpn : p ≤ n) :
    Pg12 n S (fun i => sm i = false) (tn12 sm) (D12 n) le p (st2_12 n S sm o p).1 (st2_12 n S sm o p).2 := by
  refine ru12_pg F ?_ p hpn
  obtain ⟨h1, h2⟩ := ss12_st (S := S) ho
  have so := ps12_so F.l1 (fun i j hi hj e t1 t2 => F.l2 i j hi hj e t1 (by simp [t2])) o ho.nd ho.small hp
  have so' : ∀ q q' i j : Nat, q < q' → q' < n → i < n → j < n → (ss12 n S o).1 q = (i : Int) → (ss12 n S o).1 q' = (j : Int) → le i j :=
    fun q q' i j a b hi hj e1 e2 => so (n - 1 - q') (n - 1 - q) j i (by omega) (by omega) hj hi e2 e1
  unfold s2i12
  by_cases hn : 0 < n
  · rw [if_pos hn]
    refine Pg12.first F h1 h2 (by omega) (H.last _ (by omega)) (fun i hi ht => ?_) so'
    unfold D12; omega
  · rw [if_neg hn]
    exact Pg12.none h1 h2 (fun i hi => by omega) so'
theorem st2_t {n : Nat} {S : Nat → Int} {sm : Nat → Bool} {o : List Nat} (H : Ty12 n S sm) (ho : Or12 n sm o) (p : Nat) (hpn : p ≤ n) :
    Pg12 n S (fun i => sm i = false) (tn12 sm) (D12 n) (fun _ _ => True) p (st2_12 n S sm o p).1 (st2_12 n S sm o p).2 := st2_pg H H.frt2 ho (List.pairwise_of_forall (fun _ _ _ => trivial)) p hpn
/-- The row ahead of pass 3. -/
theorem s3i12_st {n : Nat} {S : Nat → Int} {sm : Nat → Bool} {o : List Nat} (H : Ty12 n S sm) (ho : Or12 n sm o) : St12 n (ng12 S) (fun i => sm i = true) (fun i => sm i = false) (s3i12 n S sm o).1 (s3i12 n S sm o).2 ∧ ∀ j, j < n → sm j = true → ¬ In12 n (s3i12 n S sm o).1 j := by
  have h2 := st2_t (S := S) H ho n (Nat.le_refl n)
  have tk : ∀ q j : Nat, j < n → ((tak12 sm (st2_12 n S sm o n).1) q = (j : Int) ↔ (st2_12 n S sm o n).1 q = (j : Int) ∧ sm j = false) := by
    intro q j hj
    unfold tak12
    by_cases hc : 0 ≤ (st2_12 n S sm o n).1 q ∧ sm ((st2_12 n S sm o n).1 q).toNat = true
    · rw [if_pos hc]
      constructor
      · intro e; omega
      · rintro ⟨e, k⟩; rw [e] at hc; simp [k] at hc
    · rw [if_neg hc]
      constructor
      · intro e; refine ⟨e, ?_⟩; rw [e] at hc; simp at hc; exact hc
      · exact fun e => e.1
  have hno : ∀ j, j < n → sm j = true → ¬ In12 n (s3i12 n S sm o).1 j := by
    rintro j hj ht ⟨q, hq, e⟩
    have := ((tk (n - 1 - q) j hj).1 e).2
    rw [ht] at this; cases this
  refine ⟨⟨fun q hq => ?_, fun q q' hq hq' e e0 => ?_, fun i hi => ?_, fun q j hq hj e ht => ?_, fun q j hq hj e ht => ?_, fun i q hi hq e1 e2 => ?_, fun j hj ht => ?_⟩, hno⟩
  · show tak12 sm (st2_12 n S sm o n).1 (n - 1 - q) = -1 ∨ _
    rcases h2.st.ok (n - 1 - q) (by omega) with h0 | ⟨j, hj, e, a, b⟩
    · left; unfold tak12; rw [h0]; simp
    · by_cases ht : sm j = true
      · left; unfold tak12; rw [e]; simp [ht]
      · right
        refine ⟨j, hj, (tk _ j hj).2 ⟨e, by simpa using ht⟩, ?_, ?_⟩
        · have := bk12_ng n S (S j)
          rw [show -(S j) = ng12 S j from rfl] at this
          omega
        · have := bk12_ng n S (S j - 1)
          rw [show -(S j - 1) = ng12 S j + 1 by unfold ng12; omega, show S j - 1 + 1 = S j by omega] at this
          omega
  · have e : tak12 sm (st2_12 n S sm o n).1 (n - 1 - q) = tak12 sm (st2_12 n S sm o n).1 (n - 1 - q') := e
    have e0 : 0 ≤ tak12 sm (st2_12 n S sm o n).1 (n - 1 - q) := e0
    have g : ∀ r : Nat, 0 ≤ tak12 sm (st2_12 n S sm o n).1 r → tak12 sm (st2_12 n S sm o n).1 r = (st2_12 n S sm o n).1 r := by
      intro r hr
      unfold tak12 at hr ⊢
      by_cases hc : 0 ≤ (st2_12 n S sm o n).1 r ∧ sm ((st2_12 n S sm o n).1 r).toNat = true
      · rw [if_pos hc] at hr; omega
      · rw [if_neg hc]
    have e1 := g _ e0
    have e2 := g (n - 1 - q') (by omega)
    have := h2.st.inj (n - 1 - q) (n - 1 - q') (by omega) (by omega) (by omega) (by omega)
    omega
  · show h12 n (ng12 S) (ng12 S i) = _
    rw [cn12_none (P := fun j => sm j = true ∧ ng12 S j = ng12 S i ∧ In12 n (s3i12 n S sm o).1 j)]
    · rfl
    · rintro j hj ⟨a, _, b⟩; exact hno j hj a b
  · exact absurd ⟨q, hq, e⟩ (hno j hj ht)
  · have ht' : sm j = false := by simpa using ht
    have a := h2.st.lo (n - 1 - q) j (by omega) hj ((tk _ j hj).1 e).1 ht'
    rw [h2.full H.frt2 hj] at a
    have b1 := bk12_ng n S (S j)
    have b2 := tc12_ng n S (fun i => sm i = true) (S j)
    rw [show -(S j) = ng12 S j from rfl] at b1 b2
    have b3 := bk12_succ n S (fun i => sm i = false) (S j)
    have b4 : tc12 n S (fun i => ¬ sm i = false) (S j) = tc12 n S (fun i => sm i = true) (S j) := cn12_congr (fun i _ => by simp)
    omega
  · have e2 : (q : Int) < h12 n (ng12 S) (ng12 S i) := e2
    have : h12 n (ng12 S) (ng12 S i) = ((bk12 n (ng12 S) (ng12 S i) : Nat) : Int) := rfl
    omega
  · have ht' : sm j = false := by simpa using ht
    refine ⟨fun _ => ht', fun _ => ?_⟩
    obtain ⟨q, hq, e⟩ := h2.all H.frt2 (n - j) j hj (by omega) ht'
    exact (mir12_in j).2 ⟨q, hq, (tk q j hj).2 ⟨e, ht'⟩⟩
/-- Pass 3. -/
theorem st3_pg {n : Nat} {S : Nat → Int} {sm : Nat → Bool} {o : List Nat} {le2 le3 : Nat → Nat → Prop} (H : Ty12 n S sm) (F2 : Fr12 n S (fun i => sm i = false) (tn12 sm) (D12 n) le2) (F3 : Fr12 n (ng12 S) (fun i => sm i = true) (fun i => sm i = false) (fun _ => False) (fun i j => le3 j i)) (hl : ∀ i j, i < n → j < n → sm i = false → sm j = false → le2 i j → le3 i j) (ho : Or12 n sm o) (hp : o.Pairwise (fun i j => S i = S j → le2 i j)) (p : Nat) (hpn : p ≤ n) :
    Pg12 n (ng12 S) (fun i => sm i = true) (fun i => sm i = false) (fun _ => False) (fun i j => le3 j i) p (st3_12 n S sm o p).1 (st3_12 n S sm o p).2 := by
  refine ru12_pg F3 ?_ p hpn
  obtain ⟨h1, h2⟩ := s3i12_st (S := S) H ho
  have h3 := st2_pg (S := S) H F2 ho hp n (Nat.le_refl n)
  have g : ∀ (r j : Nat), j < n → tak12 sm (st2_12 n S sm o n).1 r = (j : Int) → (st2_12 n S sm o n).1 r = (j : Int) ∧ sm j = false := by
    intro r j hj e
    unfold tak12 at e
    by_cases hc : 0 ≤ (st2_12 n S sm o n).1 r ∧ sm ((st2_12 n S sm o n).1 r).toNat = true
    · rw [if_pos hc] at e; omega
    · rw [if_neg hc] at e; refine ⟨e, ?_⟩; rw [e] at hc; simp at hc; exact hc
  refine Pg12.none h1 h2 (fun i hi _ k => k) ?_
  intro q q' i j a b hi hj e1 e2
  obtain ⟨f1, f2⟩ := g (n - 1 - q) i hi e1
  obtain ⟨f3, f4⟩ := g (n - 1 - q') j hj e2
  exact hl j i hj hi f4 f2 (h3.so (n - 1 - q') (n - 1 - q) j i (by omega) (by omega) hj hi f3 f1)
theorem st3_t {n : Nat} {S : Nat → Int} {sm : Nat → Bool} {o : List Nat} (H : Ty12 n S sm) (ho : Or12 n sm o) (p : Nat) (hpn : p ≤ n) :
    Pg12 n (ng12 S) (fun i => sm i = true) (fun i => sm i = false) (fun _ => False) (fun _ _ => True) p (st3_12 n S sm o p).1 (st3_12 n S sm o p).2 := st3_pg (le3 := fun _ _ => True) H H.frt2 H.frt3 (fun _ _ _ _ _ _ _ => trivial) ho (List.pairwise_of_forall (fun _ _ _ => trivial)) p hpn
/-- Places that are taken by all are all taken. -/
theorem fill12 {n : Nat} {R : Nat → Int} (h : ∀ j, j < n → In12 n R j) : ∀ q, q < n → ∃ j, j < n ∧ R q = (j : Int) := by
  have hc : ∀ m, m ≤ n → m ≤ cn12 (fun q => ∃ j, j < m ∧ R q = (j : Int)) n := by
    intro m
    induction m with
    | zero => intro _; omega
    | succ m ih =>
      intro hm
      obtain ⟨q, hq, e⟩ := h m (by omega)
      have := cn12_lt (P := fun q => ∃ j, j < m ∧ R q = (j : Int)) (Q := fun q => ∃ j, j < m + 1 ∧ R q = (j : Int)) (n := n) (j := q) (fun i _ ⟨j, a, b⟩ => ⟨j, by omega, b⟩) hq (by rintro ⟨j, a, b⟩; omega) ⟨m, by omega, e⟩
      have := ih (by omega)
      omega
  intro q hq
  rcases Classical.em (∃ j, j < n ∧ R q = (j : Int)) with k | k
  · exact k
  · exfalso
    have h1 := hc n (Nat.le_refl n)
    have h2 := cn12_lt (P := fun q => ∃ j, j < n ∧ R q = (j : Int)) (Q := fun _ => True) (n := n) (j := q) (fun _ _ _ => trivial) hq k trivial
    rw [cn12_all (P := fun _ => True) (fun _ _ => trivial)] at h2
    omega
structure Pm12 (n : Nat) (R : Nat → Int) : Prop where
  all : ∀ j, j < n → In12 n R j
  fill : ∀ q, q < n → ∃ j, j < n ∧ R q = (j : Int)
  inj : ∀ q q', q < n → q' < n → R q = R q' → q = q'
theorem ind12_pm {n : Nat} {S : Nat → Int} {sm : Nat → Bool} {o : List Nat} (H : Ty12 n S sm) (ho : Or12 n sm o) : Pm12 n (ind12 n S sm o) := by
  have h3 := st3_t (S := S) H ho n (Nat.le_refl n)
  have hall : ∀ j, j < n → In12 n (ind12 n S sm o) j := by
    intro j hj
    refine (mir12_in j).2 ?_
    by_cases ht : sm j = true
    · exact h3.all H.frt3 (n - j) j hj (by omega) ht
    · exact (h3.st.oth j hj ht).2 (by simpa using ht)
  have hf := fill12 hall
  refine ⟨hall, hf, fun q q' hq hq' e => ?_⟩
  obtain ⟨j, _, ej⟩ := hf q hq
  have := h3.st.inj (n - 1 - q) (n - 1 - q') (by omega) (by omega) e (by show 0 ≤ ind12 n S sm o q; omega)
  omega
theorem ind12_so {n : Nat} {S : Nat → Int} {sm : Nat → Bool} {o : List Nat} {le2 le3 : Nat → Nat → Prop} (H : Ty12 n S sm) (F2 : Fr12 n S (fun i => sm i = false) (tn12 sm) (D12 n) le2) (F3 : Fr12 n (ng12 S) (fun i => sm i = true) (fun i => sm i = false) (fun _ => False) (fun i j => le3 j i)) (hl : ∀ i j, i < n → j < n → sm i = false → sm j = false → le2 i j → le3 i j) (ho : Or12 n sm o) (hp : o.Pairwise (fun i j => S i = S j → le2 i j)) :
    ∀ q q' i j : Nat, q < q' → q' < n → i < n → j < n → ind12 n S sm o q = (i : Int) → ind12 n S sm o q' = (j : Int) → le3 i j := by
  intro q q' i j a b hi hj e1 e2
  exact (st3_pg H F2 F3 hl ho hp n (Nat.le_refl n)).so (n - 1 - q') (n - 1 - q) j i (by omega) (by omega) hj hi e2 e1
/-- P12.6. -/
theorem ind12_less {n : Nat} {S : Nat → Int} {sm : Nat → Bool} {o : List Nat} (H : Ty12 n S sm) (ho : Or12 n sm o) (hp : o.Pairwise (Ls12 n S)) :
    ∀ q q' i j : Nat, q < q' → q' < n → i < n → j < n → ind12 n S sm o q = (i : Int) → ind12 n S sm o q' = (j : Int) → Ls12 n S i j :=
  ind12_so H H.frs2 H.frs3 (fun i j _ _ _ _ h => h) ho (List.Pairwise.imp (S := fun i j => S i = S j → Ls12 n S i j) (fun h _ => h) hp)
/-- P12.7. -/
theorem ind12_key {n : Nat} {S : Nat → Int} {sm : Nat → Bool} {o : List Nat} (H : Ty12 n S sm) (ho : Or12 n sm o) :
    ∀ q q' i j : Nat, q < q' → q' < n → i < n → j < n → ind12 n S sm o q = (i : Int) → ind12 n S sm o q' = (j : Int) → LE12 (key12 n S sm i) (key12 n S sm j) := by
  refine ind12_so H H.frk2 H.frk3 (fun i j hi hj h1 h2 h => ?_) ho ?_
  · rw [tkey12_on hi (not_turn12 h1), tkey12_on hj (not_turn12 h2)] at h
    exact h
  · have := ho.mem
    refine List.Pairwise.imp_of_mem (R := fun _ _ => True) (fun {i j} hi hj _ e => ?_) (List.pairwise_of_forall (fun _ _ => trivial))
    have a := (ho.mem i).1 hi
    have b := (ho.mem j).1 hj
    rw [tkey12_turn a.1 a.2, tkey12_turn b.1 b.2, cd12_eq.2 ⟨e, a.2.2.1.trans b.2.2.1.symm⟩]
    exact Or.inl rfl
end Go.Proofs.YtmfpdchfofffeaaGreatDoor

namespace Go.Proofs.YtmfpdchfofffeaaGreatDoor
set_option linter.unusedVariables false
def S12 (s : List Int) (i : Nat) : Int := s.getD i 0
def sf12 (n : Nat) (S : Nat → Int) : Nat → Nat → Bool
  | 0, _ => false
  | f + 1, i => if i + 1 < n then (decide (S i < S (i + 1)) || (decide (S i = S (i + 1)) && sf12 n S f (i + 1))) else false
theorem sf12_more {n : Nat} {S : Nat → Int} : ∀ (f g i : Nat), n ≤ i + f → n ≤ i + g → sf12 n S f i = sf12 n S g i
  | 0, 0, i, _, _ => rfl
  | 0, g + 1, i, h, _ => by unfold sf12; rw [if_neg (by omega)]
  | f + 1, 0, i, _, h => by unfold sf12; rw [if_neg (by omega)]
  | f + 1, g + 1, i, h, k => by unfold sf12; rw [sf12_more f g (i + 1) (by omega) (by omega)]
def sm12 (s : List Int) (i : Nat) : Bool := sf12 s.length (S12 s) s.length i
theorem ty12 (s : List Int) : Ty12 s.length (S12 s) (sm12 s) := by
  refine ⟨fun i hi => ?_, fun i hi => ?_⟩
  · unfold sm12
    rw [sf12_more s.length (s.length - 1) (i + 1) (by omega) (by omega)]
    generalize hn : s.length = n at *
    cases n with
    | zero => omega
    | succ m => rw [sf12, if_pos hi]; rfl
  · unfold sm12
    generalize hn : s.length = n at *
    cases n with
    | zero => rfl
    | succ m => rw [sf12, if_neg hi]
def typ12 (s : List Int) : List Bool := (List.range s.length).map (sm12 s)
theorem typ12_len (s : List Int) : (typ12 s).length = s.length := by simp [typ12]
theorem typ12_get (s : List Int) (i : Nat) : (typ12 s).getD i false = sm12 s i := by
  by_cases h : i < s.length
  · simp [typ12, List.getD, h]
  · rw [(ty12 s).last i (by omega)]
    simp [typ12, List.getD, h]
def tb12 (sm : Nat → Bool) (i : Nat) : Bool := decide (0 < i) && sm i && !sm (i - 1)
theorem tb12_iff {sm : Nat → Bool} {i : Nat} : tb12 sm i = true ↔ tn12 sm i := by
  unfold tb12 tn12
  simp only [Bool.and_eq_true, decide_eq_true_eq, Bool.not_eq_true', and_assoc]
def tns12 (s : List Int) : List Nat := (List.range s.length).filter (tb12 (sm12 s))
theorem tns12_or (s : List Int) : Or12 s.length (sm12 s) (tns12 s) :=
  ⟨List.Pairwise.filter _ List.nodup_range, fun j => by unfold tns12; rw [List.mem_filter, List.mem_range, tb12_iff]⟩
theorem tns12_lt (s : List Int) : (tns12 s).Pairwise (· < ·) := List.Pairwise.filter _ List.pairwise_lt_range
theorem tn12_lt {n : Nat} {S : Nat → Int} {sm : Nat → Bool} (H : Ty12 n S sm) {i : Nat} (h : tn12 sm i) : i + 1 < n := (H.small h.2.1).1
theorem tn12_two {sm : Nat → Bool} {i j : Nat} (hi : tn12 sm i) (hj : tn12 sm j) (h : i / 2 = j / 2) : i = j := by
  rcases Nat.lt_trichotomy i j with k | k | k
  · have : j = i + 1 := by omega
    subst this
    exact absurd hj (not_turn12' hi.2.1)
  · exact k
  · have : i = j + 1 := by omega
    subst this
    exact absurd hi (not_turn12' hj.2.1)
structure Ar12 (n : Nat) (S : Nat → Int) (A : List Nat) : Prop where
  len : A.length = n
  lt : ∀ j ∈ A, j < n
  all : ∀ j, j < n → j ∈ A
  so : A.Pairwise (Ls12 n S)
def row12 (n : Nat) (R : Nat → Int) : List Nat := (List.range n).map (fun q => (R q).toNat)
theorem row12_mem {n : Nat} {R : Nat → Int} (h : Pm12 n R) (j : Nat) : j ∈ row12 n R ↔ j < n := by
  unfold row12
  rw [List.mem_map]
  constructor
  · rintro ⟨q, hq, e⟩
    obtain ⟨k, hk, e2⟩ := h.fill q (List.mem_range.1 hq)
    omega
  · intro hj
    obtain ⟨q, hq, e⟩ := h.all j hj
    exact ⟨q, List.mem_range.2 hq, by omega⟩
theorem row12_pair {n : Nat} {R : Nat → Int} (h : Pm12 n R) {r : Nat → Nat → Prop} (hr : ∀ q q' i j : Nat, q < q' → q' < n → i < n → j < n → R q = (i : Int) → R q' = (j : Int) → r i j) : (row12 n R).Pairwise r := by
  unfold row12
  rw [List.pairwise_map]
  refine List.Pairwise.imp_of_mem (R := fun a b => a < b) (fun {q q'} hq hq' k => ?_) List.pairwise_lt_range
  obtain ⟨i, hi, e1⟩ := h.fill q (List.mem_range.1 hq)
  obtain ⟨j, hj, e2⟩ := h.fill q' (List.mem_range.1 hq')
  rw [e1, e2]
  exact hr q q' i j k (List.mem_range.1 hq') hi hj e1 e2
theorem row12_ints {n : Nat} {R : Nat → Int} (h : Pm12 n R) : (row12 n R).map (fun j : Nat => (j : Int)) = (List.range n).map R := by
  unfold row12
  rw [List.map_map]
  refine List.map_congr_left fun q hq => ?_
  obtain ⟨i, hi, e1⟩ := h.fill q (List.mem_range.1 hq)
  simp only [Function.comp]
  omega
/-- P12.6. -/
theorem ar12_ind {n : Nat} {S : Nat → Int} {sm : Nat → Bool} {o : List Nat} (H : Ty12 n S sm) (ho : Or12 n sm o) (hp : o.Pairwise (Ls12 n S)) : Ar12 n S (row12 n (ind12 n S sm o)) := by
  have hm := ind12_pm (S := S) H ho
  exact ⟨by simp [row12], fun j hj => (row12_mem hm j).1 hj, fun j hj => (row12_mem hm j).2 hj, row12_pair hm (ind12_less H ho hp)⟩
/-- The turns of a row. -/
def by12 (sm : Nat → Bool) (A : List Nat) : List Nat := A.filter (tb12 sm)
theorem by12_or {n : Nat} {S : Nat → Int} {sm : Nat → Bool} {o : List Nat} (H : Ty12 n S sm) (ho : Or12 n sm o) : Or12 n sm (by12 sm (row12 n (ind12 n S sm o))) := by
  have hm := ind12_pm (S := S) H ho
  refine ⟨List.Pairwise.filter _ ?_, fun j => ?_⟩
  · refine (row12_pair hm (r := (· ≠ ·)) fun q q' i j a b hi hj e1 e2 e => ?_)
    have := hm.inj q q' (by omega) b (by rw [e1, e2, e])
    omega
  · unfold by12
    rw [List.mem_filter, row12_mem hm, tb12_iff]
theorem by12_key {n : Nat} {S : Nat → Int} {sm : Nat → Bool} {o : List Nat} (H : Ty12 n S sm) (ho : Or12 n sm o) : (by12 sm (row12 n (ind12 n S sm o))).Pairwise (fun i j => LE12 (key12 n S sm i) (key12 n S sm j)) :=
  List.Pairwise.filter _ (row12_pair (ind12_pm H ho) (ind12_key H ho))
open Classical in
noncomputable def cr12 (K : Nat → List Int) (b : List Nat) : Nat → Nat
  | 0 => 0
  | r + 1 => cr12 K b r + (if r = 0 ∨ K (b.getD (r - 1) 0) ≠ K (b.getD r 0) then 1 else 0)
theorem cr12_step {K : Nat → List Int} {b : List Nat} (r : Nat) : cr12 K b r ≤ cr12 K b (r + 1) ∧ cr12 K b (r + 1) ≤ cr12 K b r + 1 := by
  rw [cr12]; split <;> omega
theorem cr12_mono {K : Nat → List Int} {b : List Nat} (r : Nat) : ∀ d, cr12 K b r ≤ cr12 K b (r + d)
  | 0 => Nat.le_refl _
  | d + 1 => by have := cr12_mono (K := K) (b := b) r d; have := (cr12_step (K := K) (b := b) (r + d)).1; rw [← Nat.add_assoc]; omega
theorem cr12_pos {K : Nat → List Int} {b : List Nat} (r : Nat) : 1 ≤ cr12 K b (r + 1) := by
  have h : cr12 K b 1 = 1 := by simp [cr12]
  have := cr12_mono (K := K) (b := b) 1 r
  rw [Nat.add_comm] at this; omega
theorem cr12_le {K : Nat → List Int} {b : List Nat} : ∀ r, cr12 K b r ≤ r
  | 0 => Nat.le_refl _
  | r + 1 => by have := cr12_le (K := K) (b := b) r; have := (cr12_step (K := K) (b := b) r).2; omega
theorem cr12_stay {K : Nat → List Int} {b : List Nat} (r : Nat) : ∀ d, cr12 K b (r + d + 1) = cr12 K b (r + 1) → K (b.getD (r + d) 0) = K (b.getD r 0)
  | 0, _ => rfl
  | d + 1, h => by
    have h1 := cr12_mono (K := K) (b := b) (r + 1) d
    rw [show r + 1 + d = r + d + 1 by omega] at h1
    have h2 := cr12_step (K := K) (b := b) (r + d + 1)
    rw [show r + (d + 1) + 1 = r + d + 1 + 1 by omega] at h
    have h3 := cr12_stay (K := K) (b := b) r d (by omega)
    rw [cr12] at h
    by_cases hc : r + d + 1 = 0 ∨ K (b.getD (r + d + 1 - 1) 0) ≠ K (b.getD (r + d + 1) 0)
    · rw [if_pos hc] at h; omega
    · have hc2 : ¬ K (b.getD (r + d) 0) ≠ K (b.getD (r + d + 1) 0) := fun k => hc (Or.inr k)
      have := Classical.not_not.1 hc2
      rw [← Nat.add_assoc, ← this, h3]
theorem cr12_same {K : Nat → List Int} {b : List Nat} (hb : b.Pairwise (fun i j => LE12 (K i) (K j))) (r : Nat) : ∀ d, r + d < b.length → K (b.getD (r + d) 0) = K (b.getD r 0) → cr12 K b (r + d + 1) = cr12 K b (r + 1)
  | 0, _, _ => rfl
  | d + 1, hd, e => by
    have hp := List.pairwise_iff_getElem.1 hb
    have g : ∀ k (hk : k < b.length), b.getD k 0 = b[k] := fun k hk => by simp [List.getD, hk]
    have h1 : LE12 (K (b.getD (r + d) 0)) (K (b.getD (r + d + 1) 0)) := by rw [g _ (by omega), g _ (by omega)]; exact hp (r + d) (r + d + 1) (by omega) (by omega) (by omega)
    have h2 : LE12 (K (b.getD r 0)) (K (b.getD (r + d) 0)) := by
      by_cases hd0 : d = 0
      · subst hd0; exact Or.inl rfl
      · rw [g _ (by omega), g _ (by omega)]; exact hp r (r + d) (by omega) (by omega) (by omega)
    rw [← Nat.add_assoc] at e
    have e2 : K (b.getD (r + d) 0) = K (b.getD r 0) := by
      rcases h2 with h2 | h2
      · exact h2.symm
      · exfalso
        rw [e] at h1
        rcases h1 with h1 | h1
        · rw [h1] at h2; exact h2.irrefl
        · exact h2.asymm h1
    have ih := cr12_same hb r d (by omega) e2
    have hno : ¬ (r + d + 1 = 0 ∨ K (b.getD (r + d + 1 - 1) 0) ≠ K (b.getD (r + d + 1) 0)) := by
      rintro (k | k)
      · omega
      · exact k (by rw [show r + d + 1 - 1 = r + d by omega, e, e2])
    rw [show r + (d + 1) + 1 = r + d + 1 + 1 by omega, cr12, if_neg hno, ih, Nat.add_zero]
/-- Names tell the pieces' order. -/
theorem cr12_lt {K : Nat → List Int} {b : List Nat} (hb : b.Pairwise (fun i j => LE12 (K i) (K j))) {r r' : Nat} (hr : r < b.length) (hr' : r' < b.length) :
    (cr12 K b (r + 1) < cr12 K b (r' + 1) → LL12 (K (b.getD r 0)) (K (b.getD r' 0))) ∧ (cr12 K b (r + 1) = cr12 K b (r' + 1) ↔ K (b.getD r 0) = K (b.getD r' 0)) := by
  have hp := List.pairwise_iff_getElem.1 hb
  have g : ∀ k (hk : k < b.length), b.getD k 0 = b[k] := fun k hk => by simp [List.getD, hk]
  rcases Nat.le_total r r' with h | h
  · obtain ⟨d, rfl⟩ : ∃ d, r' = r + d := ⟨r' - r, by omega⟩
    have h2 : LE12 (K (b.getD r 0)) (K (b.getD (r + d) 0)) := by
      by_cases hd0 : d = 0
      · subst hd0; exact Or.inl rfl
      · rw [g _ (by omega), g _ (by omega)]; exact hp r (r + d) (by omega) (by omega) (by omega)
    refine ⟨fun k => ?_, fun k => (cr12_stay r d k.symm).symm, fun k => (cr12_same hb r d hr' k.symm).symm⟩
    rcases h2 with h2 | h2
    · rw [cr12_same hb r d hr' h2.symm] at k; omega
    · exact h2
  · obtain ⟨d, rfl⟩ : ∃ d, r = r' + d := ⟨r - r', by omega⟩
    have := cr12_mono (K := K) (b := b) (r' + 1) d
    rw [show r' + 1 + d = r' + d + 1 by omega] at this
    exact ⟨fun k => by omega, fun k => cr12_stay r' d k, fun k => cr12_same hb r' d hr k⟩
/-- As many names as turns: no two pieces are alike. -/
theorem cr12_full {K : Nat → List Int} {b : List Nat} (hb : b.Pairwise (fun i j => LE12 (K i) (K j))) (hc : cr12 K b b.length = b.length) : b.Pairwise (fun i j => LL12 (K i) (K j)) := by
  have hall : ∀ d r, r + d = b.length → cr12 K b r = r := by
    intro d
    induction d with
    | zero => intro r h; rw [show r = b.length by omega]; exact hc
    | succ d ih =>
      intro r h
      have h1 := ih (r + 1) (by omega)
      have h2 := cr12_step (K := K) (b := b) r
      have h3 := cr12_le (K := K) (b := b) r
      omega
  have g : ∀ k (hk : k < b.length), b.getD k 0 = b[k] := fun k hk => by simp [List.getD, hk]
  refine List.pairwise_iff_getElem.2 fun i j hi hj k => ?_
  have e1 := hall (b.length - (i + 1)) (i + 1) (by omega)
  have e2 := hall (b.length - (j + 1)) (j + 1) (by omega)
  have := (cr12_lt hb hi hj).1 (by omega)
  rw [g i hi, g j hj] at this
  exact this
structure Nm12 (n : Nat) (S : Nat → Int) (sm : Nat → Bool) (t : List Nat) (N : List Int) : Prop where
  len : N.length = t.length
  lt : ∀ a a', a < t.length → a' < t.length → N.getD a 0 < N.getD a' 0 → LL12 (key12 n S sm (t.getD a n)) (key12 n S sm (t.getD a' n))
  eq : ∀ a a', a < t.length → a' < t.length → N.getD a 0 = N.getD a' 0 → key12 n S sm (t.getD a n) = key12 n S sm (t.getD a' n)
theorem next12 {n : Nat} {sm : Nat → Bool} {t : List Nat} (ho : Or12 n sm t) (hl : t.Pairwise (· < ·)) {a : Nat} (ha : a < t.length) {u : Nat} (h1 : t.getD a n < u) (h2 : u < n) (h3 : tn12 sm u) (h4 : ∀ k, t.getD a n < k → k < u → ¬ tn12 sm k) : t.getD (a + 1) n = u := by
  have g : ∀ k (hk : k < t.length), t.getD k n = t[k] := fun k hk => by simp [List.getD, hk]
  have hp := List.pairwise_iff_getElem.1 hl
  obtain ⟨c, hc, e⟩ := List.mem_iff_getElem.1 ((ho.mem u).2 ⟨h2, h3⟩)
  rw [g a ha] at h1 h4
  have hac : a < c := by
    rcases Nat.lt_trichotomy a c with k | k | k
    · exact k
    · subst k; omega
    · have := hp c a hc ha k; omega
  by_cases hc1 : c = a + 1
  · subst hc1; rw [g (a + 1) hc]; exact e
  · exfalso
    have q1 := hp a (a + 1) ha (by omega) (by omega)
    have q2 := hp (a + 1) c (by omega) hc (by omega)
    exact h4 t[a + 1] q1 (by omega) ((ho.mem _).1 (List.getElem_mem _)).2
theorem Nm12.less {n : Nat} {S : Nat → Int} {sm : Nat → Bool} {t : List Nat} {N : List Int} (H : Ty12 n S sm) (ho : Or12 n sm t) (hl : t.Pairwise (· < ·)) (hN : Nm12 n S sm t N) {a a' : Nat} (h : Ls12 N.length (S12 N) a a') : Ls12 n S (t.getD a n) (t.getD a' n) := by
  have g : ∀ k (hk : k < t.length), t.getD k n < n ∧ tn12 sm (t.getD k n) := fun k hk => by
    have : t.getD k n = t[k] := by simp [List.getD, hk]
    rw [this]
    exact (ho.mem _).1 (List.getElem_mem _)
  rw [hN.len] at h
  induction h with
  | @fin a a' h1 h2 =>
    have e : t.getD a n = n := by simp [List.getD, List.getElem?_eq_none (Nat.not_lt.1 h1)]
    rw [e]
    exact .fin (by omega) (g a' h2).1
  | @lt a a' h1 h2 h3 => exact H.key_less (g a h1).1 (g a' h2).1 (hN.lt a a' h1 h2 h3)
  | @eq a a' h1 h2 h3 h4 ih =>
    have hk := hN.eq a a' h1 h2 h3
    have gi := g a h1
    have gj := g a' h2
    have hne : t.getD a n ≠ t.getD a' n := by
      intro e
      have hp := List.pairwise_iff_getElem.1 hl
      have e1 : t.getD a n = t[a] := by simp [List.getD, h1]
      have e2 : t.getD a' n = t[a'] := by simp [List.getD, h2]
      rcases Nat.lt_trichotomy a a' with k | k | k
      · have := hp a a' h1 h2 k; omega
      · subst k; exact h4.irrefl
      · have := hp a' a h2 h1 k; omega
    have na := @next12 n sm t ho hl a h1
    have na' := @next12 n sm t ho hl a' h2
    generalize t.getD a n = i at *
    generalize t.getD a' n = j at *
    unfold key12 at hk
    obtain ⟨e1, e2⟩ := List.cons.inj hk
    obtain ⟨f1, f2⟩ := cd12_eq.1 e1
    obtain ⟨m, a1, a2, a3, a4, a5⟩ := tkey12_same n (i + 1) (j + 1) (by omega) (by omega) (by omega) (by omega) (fun e3 => by unfold tn12; simp [e3, f2]) e2
    have q1 := na (u := i + 1 + m) (by omega) a1 a3 (fun k k1 k2 => by have := (a5 (k - (i + 1)) (by omega)).2.2.2.1; rw [show i + 1 + (k - (i + 1)) = k by omega] at this; exact this)
    have q2 := na' (u := j + 1 + m) (by omega) a2 a4 (fun k k1 k2 => by have := (a5 (k - (j + 1)) (by omega)).2.2.2.2; rw [show j + 1 + (k - (j + 1)) = k by omega] at this; exact this)
    rw [q1, q2] at ih
    refine .eq gi.1 gj.1 f1 ?_
    exact (Ls12.skip (d := m) (fun k hk => ⟨(a5 k hk).1, (a5 k hk).2.1, (a5 k hk).2.2.1⟩)).1 ih
/-- The turns in the order of the suffixes of their names. -/
theorem Nm12.order {n : Nat} {S : Nat → Int} {sm : Nat → Bool} {t : List Nat} {N : List Int} (H : Ty12 n S sm) (ho : Or12 n sm t) (hl : t.Pairwise (· < ·)) (hN : Nm12 n S sm t N) {A : List Nat} (hA : Ar12 N.length (S12 N) A) : Or12 n sm (A.map (fun a => t.getD a n)) ∧ (A.map (fun a => t.getD a n)).Pairwise (Ls12 n S) := by
  have hp : (A.map (fun a => t.getD a n)).Pairwise (Ls12 n S) := by
    rw [List.pairwise_map]
    exact hA.so.imp (fun h => hN.less H ho hl h)
  refine ⟨⟨hp.imp (fun {a b} h e => by subst e; exact h.irrefl), fun j => ?_⟩, hp⟩
  rw [List.mem_map, ← ho.mem j]
  constructor
  · rintro ⟨a, ha, rfl⟩
    have : a < t.length := by rw [← hN.len]; exact hA.lt a ha
    simp [List.getD, this]
  · intro hj
    obtain ⟨c, hc, e⟩ := List.mem_iff_getElem.1 hj
    exact ⟨c, hA.all c (by rw [hN.len]; exact hc), by simp [List.getD, hc, e]⟩
end Go.Proofs.YtmfpdchfofffeaaGreatDoor

namespace Go.Proofs.YtmfpdchfofffeaaGreatDoor
open Go.RowKit
set_option linter.unusedVariables false
set_option maxRecDepth 100000 in
set_option maxHeartbeats 400000 in
theorem pist12 (a : Option Addr) (L : List Bool) (n cap i : Nat) (w : World) (hs : SegB w a L) (hn : Hid (L.length = n)) (hi : i < n) (hb : n ≤ 9223372036854775807) :
    Calls Tryz.prog 226 #[.slice a n cap, .int .i64 (i : Int)] w fun e w' => e = .returned (.bool (tb12 (gb12 L) i)) ∧ Below w.heap.size w w' := by
  have HT : Hid (tb12 (gb12 L) i = (decide (0 < i) && L.getD i false && !L.getD (i - 1) false)) := rfl
  by_cases h0 : i = 0
  · subst h0
    rw [HT.out]
    go_enter Tryz.func226, Tryz.ntmps226
    go_wp2
    go_ret
    exact ⟨by simp, Below.refl _ _⟩
  · obtain ⟨b, off, rfl, c1⟩ := hs.at_ i (by rw [hn.out]; exact hi)
    have c2 : w.cell? ⟨b, off + (i - 1), none⟩ = some (.bool (L.getD (i - 1) false)) := by
      obtain ⟨b', off', ha, c⟩ := hs.at_ (i - 1) (by rw [hn.out]; omega)
      cases ha
      exact c
    obtain ⟨p, rfl⟩ : ∃ p, i = p + 1 := ⟨i - 1, by omega⟩
    simp only [Nat.add_sub_cancel] at c2 HT
    have i1 : (p : Int) + 1 < (n : Int) := by omega
    have i2 : (p : Int) < (n : Int) := by omega
    have i0 : (0 : Int) < (p : Int) + 1 := by omega
    generalize L.getD (p + 1) false = x at *
    generalize L.getD p false = y at *
    rw [HT.out]
    cases x
    · go_enter Tryz.func226, Tryz.ntmps226
      go_wp2
      go_ret
      exact ⟨by simp, Below.refl _ _⟩
    · go_enter Tryz.func226, Tryz.ntmps226
      go_wp2
      go_ret
      exact ⟨by cases y <;> simp, Below.refl _ _⟩
end Go.Proofs.YtmfpdchfofffeaaGreatDoor

namespace Go.Proofs.YtmfpdchfofffeaaGreatDoor
open Go.RowKit
set_option linter.unusedVariables false
def tl12 (s : List Int) (k : Nat) : List Bool := (List.range s.length).map (fun j => decide (s.length ≤ j + 1 + k) && sm12 s j)
theorem tl12_len (s : List Int) (k : Nat) : (tl12 s k).length = s.length := by simp [tl12]
theorem tl12_get (s : List Int) (k j : Nat) (h : j < s.length) : (tl12 s k).getD j false = (decide (s.length ≤ j + 1 + k) && sm12 s j) := by simp [tl12, List.getD, h]
theorem tl12_zero (s : List Int) : tl12 s 0 = List.replicate s.length false := by
  refine ext12 (d := false) (by simp [tl12]) fun i hi => ?_
  rw [tl12_len] at hi
  rw [tl12_get s 0 i hi]
  by_cases h : s.length ≤ i + 1 + 0
  · rw [(ty12 s).last i (by omega)]
    simp [List.getD, hi]
  · simp [List.getD, hi, h]
theorem tl12_all (s : List Int) (k : Nat) (h : s.length ≤ k + 1) : tl12 s k = typ12 s := by
  refine ext12 (d := false) (by simp [tl12, typ12]) fun i hi => ?_
  rw [tl12_len] at hi
  rw [tl12_get s k i hi, typ12_get]
  simp
  intro h2; omega
theorem tl12_set (s : List Int) (k i : Nat) (h : s.length = i + 2 + k) : (tl12 s k).set i (sm12 s i) = tl12 s (k + 1) := by
  refine ext12 (d := false) (by simp [tl12]) fun j hj => ?_
  rw [List.length_set, tl12_len] at hj
  rw [getD_set12 _ _ _ _ (by rw [tl12_len]; omega), tl12_get s k j hj, tl12_get s (k + 1) j hj]
  by_cases e : j = i
  · subst e
    rw [if_pos rfl]
    have : s.length ≤ j + 1 + (k + 1) := by omega
    simp [this]
  · rw [if_neg e]
    by_cases h2 : s.length ≤ j + 1 + k
    · have : s.length ≤ j + 1 + (k + 1) := by omega
      simp [h2, this]
    · have : ¬ s.length ≤ j + 1 + (k + 1) := by omega
      simp [h2, this]
set_option maxRecDepth 100000 in
set_option maxHeartbeats 1000000 in
theorem ptyp12 (a : Option Addr) (s : List Int) (n cap : Nat) (w : World) (hs : SegZ w a s) (hn : Hid (s.length = n)) (hb : n ≤ 140737488355328) :
    Calls Tryz.prog 191 #[.slice a n cap] w fun e w' => e = .returned (.slice (some ⟨w.heap.size, 0, none⟩) n n) ∧ Rb12 w' w.heap.size (typ12 s) ∧ Below w.heap.size w w' := by
  have HM := run_make_b12 n hb
  have HA : Hid (typ12 s = tl12 s (n - 1)) := (tl12_all s (n - 1) (by rw [hn.out]; omega)).symm
  have HZ : Hid (List.replicate n false = tl12 s 0) := by show _ = _; rw [tl12_zero, hn.out]
  have hal : Below w.heap.size w (w.alloc (.cells (vb12 (List.replicate n false)) 4)) := (Below.refl _ _).alloc (Nat.le_refl _) _
  have hr0 := Rb12.new w (List.replicate n false)
  rw [HZ.out] at hal hr0 HM
  generalize hg : w.heap.size = g at *
  generalize hw1 : w.alloc (.cells (vb12 (tl12 s 0)) 4) = w1 at *
  have HM1 : (Instr.makeSlice 281 (.int .i64 (n : Int)) (.int .i64 (n : Int))).run Tryz.prog w = .ok (.slice (some ⟨g, 0, none⟩) n n) w1 := by rw [HM w, hg, hw1]
  have HG : Hid (g ≤ w1.heap.size ∧ w.heap.size = g) := ⟨by have := hal.size; omega, hg⟩
  clear HM hw1 hg
  go_enter Tryz.func191, Tryz.ntmps191
  go_wp2
  go_loopw [12] (fun ti wr => ∃ k : Nat, (k = 0 ∨ k + 1 ≤ n) ∧ ti = .int .i64 k ∧ Rb12 wr g (tl12 s k) ∧ Below g w wr) (fun ti _ => n - (intOf ti).toNat)
  case atStart => exact ⟨0, Or.inl rfl, rfl, hr0, hal⟩
  case round =>
    obtain ⟨k, hk, rfl, hr, hb2⟩ := hrel
    by_cases h1 : k + 1 < n
    · have h1i : (k : Int) < (n : Int) - 1 := by omega
      obtain ⟨i, hi⟩ : ∃ i, n = i + 2 + k := ⟨n - 2 - k, by omega⟩
      have hsg : SegZ wr a s := hs.old (by rw [HG.out.2]; exact hb2)
      obtain ⟨b, off, rfl, c1⟩ := hsg.at_ i (by rw [hn.out]; omega)
      have c2 : wr.cell? ⟨b, off + (i + 1), none⟩ = some (.int .i64 (s.getD (i + 1) 0)) := by
        obtain ⟨b', off', ha, c⟩ := hsg.at_ (i + 1) (by rw [hn.out]; omega)
        cases ha
        exact c
      have bd1 := hsg.bd i
      have bd2 := hsg.bd (i + 1)
      have c3 : wr.cell? ⟨g, i + 1, none⟩ = some (.bool (sm12 s (i + 1))) := by
        rw [hr.cell (by rw [tl12_len, hn.out]; omega), tl12_get s k (i + 1) (by rw [hn.out]; omega)]
        have : s.length ≤ i + 1 + 1 + k := by rw [hn.out]; omega
        simp [this]
      have c4 : wr.cell? ⟨g, i, none⟩ = some (.bool ((tl12 s k).getD i false)) := hr.cell (by rw [tl12_len, hn.out]; omega)
      have f4 := hr.free i
      have HR : Hid (sm12 s i = (decide (s.getD i 0 < s.getD (i + 1) 0) || (decide (s.getD i 0 = s.getD (i + 1) 0) && sm12 s (i + 1)))) := (ty12 s).rc i (by rw [hn.out]; omega)
      have HS : Hid (∀ x, x = sm12 s i → Rb12 (wr.setCell ⟨g, i, none⟩ (.bool x)) g (tl12 s (k + 1))) := by
        intro x hx
        have := hr.set i x
        rw [hx, tl12_set s k i (by rw [hn.out]; omega)] at this
        rw [hx]; exact this
      have HB : Hid (∀ x, Below g w (wr.setCell ⟨g, i, none⟩ x)) := by
        intro x
        exact hb2.trans ((Kp.set (S := fun j => j = g) rfl x).below (fun j h => by omega) (by have := hb2.size; have := HG.out; omega))
      have ei : (n : Int) - 2 - (k : Int) = (i : Int) := by omega
      have in1 : (i : Int) < (n : Int) := by omega
      have in2 : (i : Int) + 1 < (n : Int) := by omega
      have kn : (k : Int) < 140737488355328 := by omega
      generalize s.getD i 0 = x at *
      generalize s.getD (i + 1) 0 = y at *
      generalize sm12 s (i + 1) = z at *
      generalize (tl12 s k).getD i false = u at *
      clear hi hk hr hsg
      rcases Int.lt_trichotomy x y with hx | hx | hx
      · go_wp2
        go_region
        go_wp2
        go_roundw
        case rel => exact ⟨k + 1, Or.inr (by omega), by go_num, (HS.out _ (by rw [HR.out]; simp [hx])).drew, (HB.out _).drew⟩
        case measure => simp [intOf]; omega
      · subst hx
        go_wp2
        go_region
        go_wp2
        go_roundw
        case rel => exact ⟨k + 1, Or.inr (by omega), by go_num, (HS.out _ (by rw [HR.out]; simp)).drew, (HB.out _).drew⟩
        case measure => simp [intOf]; omega
      · have hx1 : ¬ x < y := by omega
        have hx2 : ¬ x = y := by omega
        have hx3 : (x == y) = false := by simp [hx2]
        have hx4 : decide (x = y) = false := by simp [hx2]
        have hx5 : decide (x < y) = false := by simp [hx1]
        clear hx
        go_wp2
        go_region
        go_wp2
        go_roundw
        case rel => exact ⟨k + 1, Or.inr (by omega), by go_num, (HS.out _ (by rw [HR.out]; simp [hx1, hx2])).drew, (HB.out _).drew⟩
        case measure => simp [intOf]; omega
    · have h1i : ¬ (k : Int) < (n : Int) - 1 := by omega
      go_wp2
      go_ret
      refine ⟨rfl, ?_, hb2⟩
      rw [HA.out]
      rcases hk with rfl | hk
      · rw [show n - 1 = 0 by omega]; exact hr
      · rw [show n - 1 = k by omega]; exact hr
end Go.Proofs.YtmfpdchfofffeaaGreatDoor

namespace Go.Proofs.YtmfpdchfofffeaaGreatDoor
open Go.RowKit
set_option linter.unusedVariables false
def nz12 (l : List Nat) : List Int := l.map (fun j : Nat => (j : Int))
theorem nz12_len (l : List Nat) : (nz12 l).length = l.length := by simp [nz12]
theorem nz12_get (l : List Nat) (i d : Nat) (h : i < l.length) : (nz12 l).getD i 0 = ((l.getD i d : Nat) : Int) := by simp [nz12, List.getD, h]
def tu12 (f : Nat → Bool) (k : Nat) : List Nat := (List.range k).filter (tb12 f)
theorem tu12_succ (f : Nat → Bool) (k : Nat) : tu12 f (k + 1) = if tb12 f k = true then tu12 f k ++ [k] else tu12 f k := by
  unfold tu12
  rw [List.range_succ, List.filter_append]
  by_cases h : tb12 f k = true
  · simp [h]
  · simp [h]
theorem tu12_le (f : Nat → Bool) (k : Nat) : (tu12 f k).length ≤ k := by
  have := List.length_filter_le (tb12 f) (List.range k)
  simpa [tu12] using this
/-- A row of numbers that a call has made and answers. -/
def AnsZ12 (w : World) (A : List Int) (e : Ending) (w' : World) : Prop := ∃ ra rc, e = .returned (.slice ra A.length rc) ∧ w'.ownsRow w.heap.size 3 1 (.slice ra A.length rc) A.length (A.map (Value.int .i64)) ∧ Below w.heap.size w w'
set_option maxRecDepth 100000 in
set_option maxHeartbeats 1000000 in
theorem ptns12 (a : Option Addr) (L : List Bool) (n cap : Nat) (w : World) (hs : SegB w a L) (hn : Hid (L.length = n)) (hb : n ≤ 17592186044416) :
    Calls Tryz.prog 197 #[.slice a n cap] w (AnsZ12 w (nz12 (tu12 (gb12 L) n))) := by
  obtain ⟨i0, hi, hz0, hz1, hz2⟩ := info_parts info_i12
  go_enter Tryz.func197, Tryz.ntmps197
  go_wp2
  go_loopw [3, 7] (fun to ti wr => ∃ (k m rc : Nat) (ra : Option Addr), k ≤ n ∧ ti = .int .i64 k ∧ to = .slice ra m rc ∧ Hid ((tu12 (gb12 L) k).length = m) ∧ wr.ownsRow w.heap.size 3 1 (.slice ra m rc) m ((nz12 (tu12 (gb12 L) k)).map (Value.int .i64)) ∧ Below w.heap.size w wr) (fun _ ti _ => n - (intOf ti).toNat)
  case atStart => exact ⟨0, 0, 0, none, Nat.zero_le _, rfl, rfl, (by simp [tu12] : _ = _), World.ownsRow_nil _ _ _ _, Below.refl _ _⟩
  case round =>
    obtain ⟨k, m, rc, ra, hk, rfl, rfl, HM, hown, hb2⟩ := hrel
    have hsz : w.heap.size ≤ wr.heap.size := hb2.size
    have hmk : m ≤ k := by rw [← HM.out]; exact tu12_le _ _
    by_cases h1 : k < n
    · have h1i : (k : Int) < (n : Int) := by omega
      have HC := pist12 a L n cap k wr (hs.old hb2) hn h1 (by omega)
      have HS : Hid (tu12 (gb12 L) (k + 1) = if tb12 (gb12 L) k = true then tu12 (gb12 L) k ++ [k] else tu12 (gb12 L) k) := tu12_succ _ k
      generalize tb12 (gb12 L) k = t at *
      generalize tu12 (gb12 L) k = T at *
      cases t
      · go_wp2_with (first | (go_at_call 226; refine HC.mono ?_; rintro e1 w1 ⟨rfl, B1⟩))
        go_roundw
        case rel => exact ⟨k + 1, m, rc, ra, by omega, by go_num, rfl, (by rw [HS.out]; exact HM.out : _ = _), by rw [HS.out]; exact own_below hown B1, hb2.trans (B1.mono hsz)⟩
        case measure => simp [intOf]; omega
      · have hown2 : ∀ w1, Below wr.heap.size wr w1 → w1.ownsRow w.heap.size 3 1 (.slice ra m rc) m ((nz12 T).map (Value.int .i64)) := fun w1 B1 => own_below hown B1
        go_wp2_with (first
          | (go_at_call 226; refine HC.mono ?_; rintro e1 w1 ⟨rfl, B1⟩; have OX := hown2 w1 B1; have hsz1 : w.heap.size ≤ w1.heap.size := Nat.le_trans hsz B1.size)
          | (at_builtin; refine wpList_ap12 rfl (.tmp 13) (.tmp 15) 95 rfl w.heap.size 3 i0 (.int .i64 0) 8 Tryz.underlying95 hi hz0 hz1 hz2 rfl w1 _ OX rfl rfl (by omega) (by omega) hsz1 ?_; intro ga gc w3 own3 hk3 hat3))
        have B3 : Below w.heap.size w w3 := (hb2.trans (B1.mono hsz)).trans (hk3.below (fun q e => (OX.lt q e).1) hsz1)
        go_roundw
        case rel => exact ⟨k + 1, m + 1, gc, some ⟨ga, 0, none⟩, by omega, by go_num, rfl, (by rw [HS.out]; simp [HM.out] : _ = _), by rw [HS.out]; simpa [nz12] using own3, B3⟩
        case measure => simp [intOf]; omega
    · have h1i : ¬ (k : Int) < (n : Int) := by omega
      obtain rfl : k = n := by omega
      go_wp2
      go_ret
      refine ⟨ra, rc, ?_, ?_, hb2⟩
      · (try rw [nz12_len]); rw [HM.out]; rfl
      · (try rw [nz12_len]); rw [HM.out]; exact hown
end Go.Proofs.YtmfpdchfofffeaaGreatDoor
