import Derived.Test.YtmfpdchfofffeaaGreatDoorSa6
namespace Go.Proofs.YtmfpdchfofffeaaGreatDoor
open Go.RowKit
set_option linter.unusedVariables false
theorem cnt12_bk (s : List Int) (v : Int) : cnt12 s v = bk12 s.length (S12 s) v := by
  have h : ∀ k, k ≤ s.length → (s.take k).countP (fun x => decide (x < v)) = cn12 (fun i => S12 s i < v) k := by
    intro k
    induction k with
    | zero => intro _; simp [cn12]
    | succ k ih =>
      intro hk
      rw [take_snocZ (by omega), List.countP_append, ih (by omega)]
      rw [show cn12 (fun i => S12 s i < v) (k + 1) = cn12 (fun i => S12 s i < v) k + (if S12 s k < v then 1 else 0) from by rw [cn12]; congr]
      by_cases hx : s.getD k 0 < v
      · have hx2 : S12 s k < v := hx
        rw [if_pos hx2]
        simp only [List.countP_cons, List.countP_nil, hx, decide_true, if_true]
      · have hx2 : ¬ S12 s k < v := hx
        rw [if_neg hx2]
        simp only [List.countP_cons, List.countP_nil, hx, decide_false]
        simp
  have := h s.length (Nat.le_refl _)
  rw [List.take_length] at this
  exact this
structure Lk12 (n : Nat) (s : List Int) (R nx : List Int) (x : Rw12) : Prop where
  row : ∀ q, q < n → R.getD q 0 = x.1 q
  nxt : ∀ i, i < n → nx.getD (S12 s i).toNat 0 = x.2 (S12 s i)
structure Lm12 (n : Nat) (s : List Int) (R nx : List Int) (x : Rw12) : Prop where
  row : ∀ q, q < n → R.getD (n - 1 - q) 0 = x.1 q
  nxt : ∀ i, i < n → nx.getD (S12 s i).toNat 0 = (n : Int) - x.2 (ng12 (S12 s) i)
theorem Wf12.nat {s : List Int} {n K : Nat} (h : Wf12 s n K) {i : Nat} (hi : i < n) : s.getD i 0 = (((S12 s i).toNat : Nat) : Int) ∧ (S12 s i).toNat < K := by
  have := h.val i hi
  have e : S12 s i = s.getD i 0 := rfl
  rw [e]
  omega
theorem Lk12.put {n K : Nat} {s R nx : List Int} {x : Rw12} (h : Lk12 n s R nx x) (hW : Wf12 s n K) (hR : R.length = n) (hN : nx.length = K) {i P : Nat} (hi : i < n) (hP : x.2 (S12 s i) = (P : Int)) (hPn : P < n) : Lk12 n s (R.set P (i : Int)) (nx.set (S12 s i).toNat ((P : Int) + 1)) (put12 (S12 s) x i) := by
  refine ⟨fun q hq => ?_, fun j hj => ?_⟩
  · rw [getD_set12 _ _ _ _ (by omega)]
    show _ = pR12 x.1 x.2 (S12 s) i q
    rw [pR12_at hP, h.row q hq]
  · have h1 := hW.nat hi
    have h2 := hW.nat hj
    rw [getD_set12 _ _ _ _ (by omega)]
    show _ = pH12 x.2 (S12 s) i (S12 s j)
    unfold pH12
    have e1 : S12 s i = s.getD i 0 := rfl
    have e2 : S12 s j = s.getD j 0 := rfl
    by_cases e : S12 s j = S12 s i
    · rw [e, if_pos rfl, if_pos rfl, hP]
    · rw [if_neg (by omega), if_neg e, h.nxt j hj]
theorem Lm12.put {n K : Nat} {s R nx : List Int} {x : Rw12} (h : Lm12 n s R nx x) (hW : Wf12 s n K) (hR : R.length = n) (hN : nx.length = K) {i P : Nat} (hi : i < n) (hP : x.2 (ng12 (S12 s) i) = (P : Int)) (hPn : P < n) : Lm12 n s (R.set (n - 1 - P) (i : Int)) (nx.set (S12 s i).toNat ((n - 1 - P : Nat) : Int)) (put12 (ng12 (S12 s)) x i) := by
  refine ⟨fun q hq => ?_, fun j hj => ?_⟩
  · rw [getD_set12 _ _ _ _ (by omega)]
    show _ = pR12 x.1 x.2 (ng12 (S12 s)) i q
    rw [pR12_at hP, h.row q hq]
    by_cases e : q = P
    · subst e; rw [if_pos rfl, if_pos rfl]
    · rw [if_neg (by omega), if_neg e]
  · have h1 := hW.nat hi
    have h2 := hW.nat hj
    rw [getD_set12 _ _ _ _ (by omega)]
    show _ = (n : Int) - pH12 x.2 (ng12 (S12 s)) i (ng12 (S12 s) j)
    unfold pH12
    have e1 : S12 s i = s.getD i 0 := rfl
    have e2 : S12 s j = s.getD j 0 := rfl
    by_cases e : S12 s j = S12 s i
    · rw [e, if_pos rfl, if_pos (by unfold ng12; omega), show ng12 (S12 s) j = ng12 (S12 s) i by unfold ng12; omega, hP]
      omega
    · rw [if_neg (by omega), if_neg (by unfold ng12; omega), h.nxt j hj]
theorem bnd12_ends {s : List Int} {n K : Nat} (hW : Wf12 s n K) (i : Nat) (hi : i < n) : ((bnd12 K s).drop 1).getD (S12 s i).toNat 0 = (n : Int) - h12 n (ng12 (S12 s)) (ng12 (S12 s) i) := by
  have h1 := hW.nat hi
  have h2 := bk12_ng n (S12 s) (S12 s i)
  have e : ((bnd12 K s).drop 1).getD (S12 s i).toNat 0 = (bnd12 K s).getD ((S12 s i).toNat + 1) 0 := by
    simp only [List.getD, List.getElem?_drop]
    rw [Nat.add_comm]
  have e1 : S12 s i = s.getD i 0 := rfl
  rw [e, bnd12_get K s _ (by omega), cnt12_bk, hW.len, show ((((S12 s i).toNat + 1 : Nat)) : Int) = S12 s i + 1 by omega]
  unfold h12
  rw [show ng12 (S12 s) i = -(S12 s i) from rfl]
  omega
theorem bnd12_heads {s : List Int} {n K : Nat} (hW : Wf12 s n K) (i : Nat) (hi : i < n) : ((bnd12 K s).take K).getD (S12 s i).toNat 0 = h12 n (S12 s) (S12 s i) := by
  have h1 := hW.nat hi
  have e : ((bnd12 K s).take K).getD (S12 s i).toNat 0 = (bnd12 K s).getD (S12 s i).toNat 0 := by
    simp only [List.getD, List.getElem?_take]
    rw [if_pos h1.2]
  have e1 : S12 s i = s.getD i 0 := rfl
  rw [e, bnd12_get K s _ (by omega), cnt12_bk, hW.len, show ((((S12 s i).toNat : Nat)) : Int) = S12 s i by omega]
  rfl
theorem bnd12_bd {s : List Int} {n K : Nat} (hW : Wf12 s n K) : ∀ z ∈ bnd12 K s, -9223372036854775808 ≤ z ∧ z ≤ 9223372036854775807 := by
  intro z hz
  unfold bnd12 at hz
  rw [List.mem_map] at hz
  obtain ⟨u, _, rfl⟩ := hz
  have := cnt12_le s (u : Int)
  have := hW.len
  have := hW.n24
  omega
theorem SegZ.dropZ {w : World} {b off : Nat} {zs : List Int} (h : SegZ w (some ⟨b, off, none⟩) zs) (m : Nat) : SegZ w (some ⟨b, off + m, none⟩) (zs.drop m) := by
  refine ⟨fun i hi => ?_, getD_bdz fun z hz => h.mem z (List.mem_of_mem_drop hz)⟩
  simp at hi
  obtain ⟨b', off', ha, hc⟩ := h.at_ (m + i) (by omega)
  cases ha
  refine ⟨b, off + m, rfl, ?_⟩
  rw [Nat.add_assoc, hc]
  simp [List.getD]
theorem drop_cons12 (o : List Nat) (i d : Nat) (h : i < o.length) : o.drop i = o.getD i d :: o.drop (i + 1) := by
  rw [List.drop_eq_getElem_cons h]
  simp [List.getD, h]
/-- The pass's place for an order's turn. -/
theorem ps12_at {n K : Nat} {s : List Int} {o : List Nat} (hW : Wf12 s n K) (ho : Or12 n (sm12 s) o) {i : Nat} (hi : i < o.length) : o.getD i 0 < n ∧ ∃ P : Nat, P < n ∧ (ps12 n (S12 s) (o.drop (i + 1))).2 (ng12 (S12 s) (o.getD i 0)) = (P : Int) ∧ ps12 n (S12 s) (o.drop i) = put12 (ng12 (S12 s)) (ps12 n (S12 s) (o.drop (i + 1))) (o.getD i 0) := by
  have hm : o.getD i 0 ∈ o := by simp [List.getD, hi]
  have hs := ho.small _ hm
  have hnd : (o.drop i).Nodup := List.Sublist.nodup (List.drop_sublist _ _) ho.nd
  rw [drop_cons12 o i 0 hi] at hnd
  obtain ⟨h1, h2⟩ := ps12_st (n := n) (S := S12 s) (sm := sm12 s) (o.drop (i + 1)) (List.nodup_cons.1 hnd).2 (fun j hj => ho.small j (List.mem_of_mem_drop hj))
  obtain ⟨P, eP, _, _, _, hPn, _⟩ := h1.place hs.1 hs.2 (fun k => (List.nodup_cons.1 hnd).1 ((h2 _).1 k))
  exact ⟨hs.1, P, hPn, eP, by rw [drop_cons12 o i 0 hi]; rfl⟩
end Go.Proofs.YtmfpdchfofffeaaGreatDoor
