import Derived.Test.YtcifalelnfeggaaGreatDoorPi
import Derived.WalkLawsBesides
import Derived.WalkKit
import Derived.Laws.MakeOwn
import Derived.Deep.RegionLaw
import Derived.Deep.AppendLies
namespace Go.Proofs.YtcifalelnfeggaaGreatDoor
open Go.RowKit
set_option linter.unusedVariables false

/-- Items that lie somewhere, behind a row of the call's own. -/
theorem wpList_app4 {P : Program} {ops : Array Oper} {rest : List Oper} {o : Oper} {a : Act} {Q : Exit → Act → World → Prop} (hgd : o.guard = none) (s x : Operand) (t : TypeId)
    (ho : o.op = .call { callee := .builtin .append, args := #[s, x], argTypes := #[t, t] })
    (base : Nat) (e : TypeId) (i : TypeInfo) (z : Value) (bytes : Nat) (ht : P.underlying t = some (.slice e)) (hi : P.info? e = some i) (hz : i.zero = some z)
    (hsize : i.size = 4) (hby : i.bytes = bytes) (hzs : z.cells.size = 4)
    {w : World} {ra : Option Addr} {n rc : Nat} {l : List Im} (hown : w.ownsRow base e 4 (.slice ra n rc) n (flatI l)) {ad : Addr} {m cap : Nat} {r : List Im} (hl : r.length = m) (hnews : ∀ j u, (flatI r)[j]? = some u → w.cell? (ad.add j) = some u)
    (hs : a.eval s = .slice ra n rc) (hx : a.eval x = .slice (some ad) m cap)
    (h63 : n + m ≤ 140737488355328) (hbytes : (n + m) * bytes ≤ 140737488355328) (hbase : base ≤ w.heap.size)
    (h : ∀ (b : Option Addr) (c : Nat) (w' : World), w'.ownsRow base e 4 (.slice b (n + m) c) (n + m) (flatI (l ++ r)) → w.grownBy w' (Value.slice ra n rc).ownBlock → Below base w w' → wpList P ops Q rest (a.put o.dst (.slice b (n + m) c)) w') : wpList P ops Q (o :: rest) a w := by
  refine wpList_append_own _ hgd s x t ho base e i z 4 bytes ht hi hz hsize hby hzs (by decide) _ n (flatI l) hs hown ad m cap (flatI r) hx (by rw [flatI_len, hl]) hnews (flatI_one r) (by unfold maxLen; omega) hbytes hbase ?_
  intro v' w' h1 h2 _
  obtain ⟨b, c, rfl⟩ : ∃ b c, v' = .slice b (n + m) c := by
    rcases h1.2 with ⟨rfl, h0⟩ | ⟨g, cp, cur, rfl, _⟩
    · exact ⟨none, 0, by rw [h0]⟩
    · exact ⟨_, _, rfl⟩
  exact h b c w' (by rw [flatI_app]; exact h1) h2 ((Below.refl _ _).grown h2 hbase (fun k hk => (hown.lt k hk).1))
theorem own_shape4 {w : World} {base n : Nat} {e : TypeId} {v : Value} {xs : List Value} (h : w.ownsRow base e 4 v n xs) (hn : 0 < n) : ∃ g cap, v = .slice (some ⟨g, 0, none⟩) n cap ∧ n ≤ cap ∧ base ≤ g ∧ g < w.heap.size := by
  rcases h.2 with ⟨_, h0⟩ | ⟨g, cap, cur, rfl, hg, hh, hc, _⟩
  · omega
  · exact ⟨g, cap, rfl, hc, hg, (Array.getElem?_eq_some_iff.1 hh).1⟩
theorem new_cells (w : World) (x : Im) : ∀ j u, (flatI [x])[j]? = some u → (w.alloc (.cells #[.int .i64 x.wt, .int .i64 x.sy, .pointer x.fs, .pointer x.sn] 158)).cell? ((⟨w.heap.size, 0, none⟩ : Addr).add j) = some u := by
  intro j u hu
  have hadd : (⟨w.heap.size, 0, none⟩ : Addr).add j = ⟨w.heap.size, j, none⟩ := by unfold Addr.add; split <;> simp_all
  rw [hadd]
  have hh := heap_alloc_new w (.cells #[.int .i64 x.wt, .int .i64 x.sy, .pointer x.fs, .pointer x.sn] 158)
  simp only [World.cell?, hh]
  simp only [flatI, Im.cells, List.flatMap_cons, List.flatMap_nil, List.append_nil] at hu
  simpa using hu
/-- What comes of the leaves: a row in order, of all the symbols in use. -/
structure Lf (w : World) (a : Option Addr) (m cap B : Nat) (zs : List Int) (Y : Nat → Im) : Prop where
  len : m = (leafL zs zs.length).length
  pm : (lst Y 0 m).Perm (leafL zs zs.length)
  ord : so Y 0 m
  nil : m = 0 → a = none ∧ cap = 0
  row : 0 < m → ∃ g, a = some ⟨g, 0, none⟩ ∧ Sr w g m Y ∧ B ≤ g ∧ g < w.heap.size ∧ m ≤ cap

theorem leaf_sy {zs : List Int} {k i j : Nat} (h : i < j) (hj : j < (leafL zs k).length) : ((leafL zs k).getD i ⟨0, 0, none, none⟩).sy < ((leafL zs k).getD j ⟨0, 0, none, none⟩).sy := by
  have hp : (leafL zs k).Pairwise (fun x y => x.sy < y.sy) := by
    unfold leafL
    rw [List.pairwise_map]
    refine (List.pairwise_lt_range.filter _).imp ?_
    intro a b hab
    show (a : Int) < (b : Int)
    omega
  have hi : i < (leafL zs k).length := by omega
  have := List.pairwise_iff_getElem.1 hp i j hi hj h
  simpa [List.getD, hi, hj] using this
theorem lst_getD (l : List Im) (d : Im) : lst (fun k => l.getD k d) 0 l.length = l := by
  unfold lst
  apply List.ext_getElem?
  intro k
  rw [List.getElem?_map]
  by_cases h : k < l.length
  · simp [h, List.getD]
  · simp [h]

set_option maxRecDepth 100000 in
set_option maxHeartbeats 2000000 in
theorem leaves_any (a : Option Addr) (zs : List Int) (n cap : Nat) (hn : Hid (zs.length = n)) (w : World) (hs : SegZ w a zs) (hl : n ≤ 288) :
    Calls Tryz.prog 93 #[.slice a n cap] w fun e w' => ∃ b m c Y, e = .returned (.slice b m c) ∧ Lf w' b m c w.heap.size zs Y ∧ Below w.heap.size w w' := by
  obtain ⟨i0, hi, hz0, hz1, hz2⟩ := info_parts info_item
  go_enter Tryz.func93, Tryz.ntmps93
  go_wp2_with fail
  go_loopw [3, 8] (fun to ti wr => ∃ (k : Nat) (b : Option Addr) (c : Nat) (L : List Im), k ≤ n ∧ ti = .int .i64 (k : Int) ∧ to = .slice b L.length c ∧ L.length ≤ k ∧ (L.length = 0 → b = none ∧ c = 0) ∧ wr.ownsRow w.heap.size 158 4 (.slice b L.length c) L.length (flatI L) ∧ Below w.heap.size w wr ∧ Hid (L = leafL zs k)) (fun _ ti _ => n - (intOf ti).toNat)
  case atStart => exact ⟨0, none, 0, [], Nat.zero_le _, rfl, rfl, Nat.le_refl _, (fun _ => ⟨rfl, rfl⟩), ⟨rfl, .inl ⟨rfl, rfl⟩⟩, Below.refl _ _, (rfl : _ = _)⟩
  case round =>
    obtain ⟨k, b, c, L, hk, rfl, rfl, hLk, hL0, OR, BR, HL⟩ := hrel
    have HL0 : Hid (L.length = 0 → b = none ∧ c = 0) := hL0
    clear hL0
    have hs := hs.old BR
    by_cases h1 : k < n
    · have h1i : (k : Int) < (n : Int) := by omega
      obtain ⟨b1, o1, rfl, c1⟩ := hs.at_ k (by have := hn.out; omega)
      have HU : Hid (leafL zs (k + 1) = leafL zs k ++ (if zs.getD k 0 = 0 then [] else [⟨zs.getD k 0, k, none, none⟩])) := leafL_snoc zs k
      have db := hs.bd k
      generalize zs.getD k 0 = z at *
      by_cases hz : z = 0
      · subst hz
        go_wp2
        go_roundw
        case rel => exact ⟨k + 1, b, c, L, by omega, by go_num, rfl, by omega, HL0.out, OR, BR, (by show _ = _; rw [HU.out, HL.out]; simp)⟩
        case measure => simp [intOf]; omega
      · have hzb : (z != 0) = true := by simpa using hz
        have hbs := BR.size
        go_wp2_with (at_builtin; refine wpList_app4 rfl (.tmp 15) (.tmp 19) 154 rfl w.heap.size 158 i0 _ 32 Tryz.underlying154 hi hz0 hz1 hz2 rfl (OR.alloc _) (m := 1) (r := [⟨z, k, none, none⟩]) rfl (new_cells wr ⟨z, k, none, none⟩) rfl rfl (by omega) (by omega) (by simp; omega) ?_; intro b2 c2 w2 OR2 hg2 B2)
        have B3 : Below w.heap.size w w2 := BR.trans (((Below.refl _ _).alloc hbs _).trans B2)
        have e1 : (L ++ [(⟨z, k, none, none⟩ : Im)]).length = L.length + 1 := by simp
        rw [← e1] at OR2
        clear hg2 B2 OR
        go_roundw
        case rel => exact ⟨k + 1, b2, c2, L ++ [⟨z, k, none, none⟩], by omega, by go_num, by rw [e1], by omega, (fun h => by omega), OR2, B3, (by show _ = _; rw [HU.out, HL.out, if_neg hz])⟩
        case measure => simp [intOf]; omega
    · obtain rfl : k = n := by omega
      have HL2 : Hid (L = leafL zs zs.length) := by show _ = _; rw [HL.out, hn.out]
      by_cases hL0 : L.length = 0
      · obtain ⟨rfl, rfl⟩ := HL0.out hL0
        have hLnil : L = [] := List.eq_nil_of_length_eq_zero hL0
        rw [hL0]
        go_wp2_with fail
        refine (sortStable_nil _ _).mono ?_
        rintro e w' ⟨rfl, hw'⟩
        subst w'
        go_wp2
        go_ret
        have hz : leafL zs zs.length = [] := by rw [← HL2.out]; exact hLnil
        exact ⟨none, 0, 0, fun k => L.getD k ⟨0, 0, none, none⟩, rfl, ⟨by rw [hz]; rfl, by rw [hz]; exact List.Perm.refl _, fun i j _ _ h => by omega, fun _ => ⟨rfl, rfl⟩, fun h => by omega⟩, BR⟩
      · obtain ⟨g, c', hv, hcap, hgb, hgs⟩ := own_shape4 OR (by omega)
        simp only [Value.slice.injEq] at hv
        obtain ⟨rfl, _, rfl⟩ := hv
        have S1 := own_row4 OR rfl
        have HSY : Hid (∀ i j, i < j → j < L.length → ((fun k => L.getD k ⟨0, 0, none, none⟩) i).sy < ((fun k => L.getD k ⟨0, 0, none, none⟩) j).sy) := by
          intro i j h2 h3
          have e := HL2.out
          simp only [e] at h3 ⊢
          exact leaf_sy h2 h3
        have HPL : Hid (lst (fun k => L.getD k ⟨0, 0, none, none⟩) 0 L.length = L) := lst_getD L _
        have CS := sortStable_any g c L.length (fun k => L.getD k ⟨0, 0, none, none⟩) wr S1 hgs (by omega) HSY.out
        obtain ⟨m, hm⟩ : ∃ m, m = L.length := ⟨_, rfl⟩
        have HM : Hid (m = L.length) := hm
        rw [← hm] at CS hcap ⊢
        have hm0 : 0 < m := by omega
        clear hm S1 OR hL0 hLk
        go_wp2_with fail
        refine CS.mono ?_
        rintro e w2 ⟨rfl, Y, S2, G2, P2, so2⟩
        go_wp2
        go_ret
        have B2 : Below w.heap.size w w2 := BR.trans ((Below.refl _ _).grown G2 BR.size (by intro k e; cases e; exact hgb))
        refine ⟨some ⟨g, 0, none⟩, m, c, Y, rfl, ⟨by rw [HM.out, HL2.out], ?_, so2, fun h => by omega, fun _ => ⟨g, rfl, S2, hgb, Nat.lt_of_lt_of_le hgs G2.size, hcap⟩⟩, B2⟩
        have h3 := P2.1
        rw [HM.out] at h3 ⊢
        rw [HPL.out] at h3
        exact h3.trans (by rw [HL2.out])
end Go.Proofs.YtcifalelnfeggaaGreatDoor

namespace Go.Proofs.YtcifalelnfeggaaGreatDoor
set_option linter.unusedVariables false

/-! Package-merge, by weights alone: no lengths within the limit cost less. -/
theorem sum_le_of_sorted : ∀ (m : Nat) (S T R : List Nat), S.Pairwise (· ≤ ·) → (T ++ R).Perm S → T.length = m → (S.take m).sum ≤ T.sum
  | 0, S, T, R, _, _, h => by simp
  | m + 1, S, T, R, hs, hp, h => by
    cases S with
    | nil => simp
    | cons x S' =>
      have hx : ∀ y ∈ S', x ≤ y := (List.pairwise_cons.1 hs).1
      have hs' := (List.pairwise_cons.1 hs).2
      have hmem : x ∈ T ++ R := hp.symm.subset (by simp)
      rw [List.take_succ_cons, List.sum_cons]
      by_cases hxT : x ∈ T
      · have hT := List.perm_cons_erase hxT
        have hl : (T.erase x).length = m := by rw [List.length_erase_of_mem hxT]; omega
        have hp' : ((T.erase x) ++ R).Perm S' := by
          have h1 : (x :: ((T.erase x) ++ R)).Perm (x :: S') := (List.Perm.append_right R hT).symm.trans hp
          exact List.Perm.cons_inv h1
        have ih := sum_le_of_sorted m S' (T.erase x) R hs' hp' hl
        have := hT.sum_nat
        rw [List.sum_cons] at this
        omega
      · have hxR : x ∈ R := by
          rcases List.mem_append.1 hmem with h | h
          · exact absurd h hxT
          · exact h
        cases T with
        | nil => simp at h
        | cons t T' =>
          have hR := List.perm_cons_erase hxR
          have htS : t ∈ x :: S' := hp.subset (by simp)
          have htx : x ≤ t := by
            rcases List.mem_cons.1 htS with e | e
            · omega
            · exact hx t e
          have h1 : (x :: (T' ++ (t :: R.erase x))).Perm (x :: S') := by
            refine List.Perm.trans ?_ hp
            have e1 : (x :: (T' ++ (t :: R.erase x))).Perm (t :: (T' ++ (x :: R.erase x))) := by
              have a1 : (T' ++ (t :: R.erase x)).Perm (t :: (T' ++ R.erase x)) := List.perm_middle
              have a2 : (T' ++ (x :: R.erase x)).Perm (x :: (T' ++ R.erase x)) := List.perm_middle
              exact ((a1.cons x).trans (List.Perm.swap t x _)).trans (a2.symm.cons t)
            refine e1.trans ?_
            rw [List.cons_append]
            exact List.Perm.cons t (List.Perm.append_left T' hR.symm)
          have ih := sum_le_of_sorted m S' T' (t :: R.erase x) hs' (List.Perm.cons_inv h1) (by simpa using h)
          rw [List.sum_cons]
          omega

/-- Packed two by two. -/
def pkw : List Nat → List Nat
  | a :: b :: r => (a + b) :: pkw r
  | _ => []
theorem pkw_len : ∀ l : List Nat, (pkw l).length = l.length / 2
  | [] => rfl
  | [_] => by simp [pkw]
  | a :: b :: r => by
    have := pkw_len r
    simp only [pkw, List.length_cons, this]
    omega
theorem pkw_take : ∀ (l : List Nat) (m : Nat), ((pkw l).take (m / 2)).sum ≤ (l.take m).sum
  | [], m => by simp [pkw]
  | [a], m => by simp [pkw]
  | a :: b :: r, m => by
    match m with
    | 0 => simp
    | 1 => simp
    | m + 2 =>
      have ih := pkw_take r m
      rw [show (m + 2) / 2 = m / 2 + 1 by omega]
      simp only [pkw, List.take_succ_cons, List.sum_cons]
      omega
theorem pkw_sorted : ∀ l : List Nat, l.Pairwise (· ≤ ·) → (pkw l).Pairwise (· ≤ ·) ∧ ∀ x ∈ pkw l, ∀ a ∈ l.head?, a ≤ x
  | [], _ => by simp [pkw]
  | [a], _ => by simp [pkw]
  | a :: b :: r, h => by
    have h1 := List.pairwise_cons.1 h
    have h2 := List.pairwise_cons.1 h1.2
    have ih := pkw_sorted r h2.2
    have key : ∀ x ∈ pkw r, a + b ≤ x := by
      intro x hx
      cases r with
      | nil => simp [pkw] at hx
      | cons c r' =>
        cases r' with
        | nil => simp [pkw] at hx
        | cons d r'' =>
          simp only [pkw, List.mem_cons] at hx
          have hc := h1.1 c (by simp)
          have hd := h2.1 d (by simp)
          rcases hx with rfl | hx
          · omega
          · have h3 := List.pairwise_cons.1 h2.2
            have hp := (pkw_sorted (c :: d :: r'') h2.2).1
            simp only [pkw, List.pairwise_cons] at hp
            have := hp.1 x hx
            omega
    refine ⟨?_, ?_⟩
    · simp only [pkw, List.pairwise_cons]
      exact ⟨key, ih.1⟩
    · intro x hx y hy
      simp only [List.head?_cons, Option.mem_def, Option.some.injEq] at hy
      subst hy
      simp only [pkw, List.mem_cons] at hx
      rcases hx with rfl | hx
      · omega
      · have := key x hx
        omega

/-- The rows, by their weights. -/
def rww (F : List Nat) : Nat → List Nat
  | 0 => F
  | k + 1 => List.merge F (pkw (rww F k)) (fun a b => decide (a ≤ b))
theorem rww_sorted (F : List Nat) (h : F.Pairwise (· ≤ ·)) (k : Nat) : (rww F k).Pairwise (· ≤ ·) := by
  induction k with
  | zero => exact h
  | succ k ih =>
    have := List.pairwise_merge (le := fun a b : Nat => decide (a ≤ b)) (by intro a b c; simp; omega) (by intro a b; simp; omega) F (pkw (rww F k)) (by simpa using h) (by simpa using (pkw_sorted _ ih).1)
    simpa [rww] using this
theorem rww_len (F : List Nat) (k : Nat) : (rww F (k + 1)).length = F.length + (rww F k).length / 2 := by
  simp only [rww]
  rw [(List.merge_perm_append _).length_eq, List.length_append, pkw_len]

/-- Weights with lengths: those that are as deep as d. -/
def deep (X : List (Nat × Nat)) (d : Nat) : List Nat := (X.filter fun x => decide (d ≤ x.2)).map (·.1)
/-- How many items are needed, from the deepest of the L levels up. -/
def need (X : List (Nat × Nat)) (L : Nat) : Nat → Nat
  | 0 => (deep X L).length
  | k + 1 => (deep X (L - (k + 1))).length + need X L k / 2
def paid (X : List (Nat × Nat)) (L : Nat) : Nat → Nat
  | 0 => (deep X L).sum
  | k + 1 => (deep X (L - (k + 1))).sum + paid X L k

theorem deep_perm (X : List (Nat × Nat)) (d : Nat) : (deep X d ++ ((X.filter fun x => !decide (d ≤ x.2)).map (·.1))).Perm (X.map (·.1)) := by
  unfold deep
  rw [← List.map_append]
  exact (List.filter_append_perm _ X).map _
theorem deep_le (X : List (Nat × Nat)) (d : Nat) : (deep X d).length ≤ X.length := by
  unfold deep
  rw [List.length_map]
  exact List.length_filter_le _ _

theorem need_le (X : List (Nat × Nat)) (F : List Nat) (hF : F.Perm (X.map (·.1))) (L k : Nat) : need X L k ≤ (rww F k).length := by
  have hn : F.length = X.length := by rw [hF.length_eq, List.length_map]
  induction k with
  | zero =>
    have := deep_le X L
    simp only [need, rww]
    omega
  | succ k ih =>
    have := deep_le X (L - (k + 1))
    rw [rww_len]
    simp only [need]
    omega

/-- No choice is cheaper than the first items of the row. -/
theorem row_least (X : List (Nat × Nat)) (F : List Nat) (hF : F.Perm (X.map (·.1))) (hs : F.Pairwise (· ≤ ·)) (L k : Nat) : ((rww F k).take (need X L k)).sum ≤ paid X L k := by
  induction k with
  | zero => exact sum_le_of_sorted _ F (deep X L) _ hs ((deep_perm X L).trans hF.symm) rfl
  | succ k ih =>
    have hle := need_le X F hF L k
    have hq : ((pkw (rww F k)).take (need X L k / 2)).length = need X L k / 2 := by rw [List.length_take, pkw_len]; omega
    have h1 := sum_le_of_sorted (need X L (k + 1)) (rww F (k + 1)) (deep X (L - (k + 1)) ++ (pkw (rww F k)).take (need X L k / 2))
      (((X.filter fun x => !decide (L - (k + 1) ≤ x.2)).map (·.1)) ++ (pkw (rww F k)).drop (need X L k / 2)) (rww_sorted F hs (k + 1)) ?_ ?_
    · have h2 := pkw_take (rww F k) (need X L k)
      rw [List.sum_append] at h1
      simp only [paid]
      omega
    · have hm : (rww F (k + 1)).Perm (F ++ pkw (rww F k)) := by simp only [rww]; exact List.merge_perm_append _
      refine List.Perm.trans ?_ hm.symm
      have hd := (deep_perm X (L - (k + 1))).trans hF.symm
      generalize deep X (L - (k + 1)) = A at *
      generalize ((X.filter fun x => !decide (L - (k + 1) ≤ x.2)).map (·.1)) = A' at *
      have e1 : (A ++ (pkw (rww F k)).take (need X L k / 2) ++ (A' ++ (pkw (rww F k)).drop (need X L k / 2))).Perm ((A ++ A') ++ ((pkw (rww F k)).take (need X L k / 2) ++ (pkw (rww F k)).drop (need X L k / 2))) := by
        simp only [List.append_assoc]
        refine List.Perm.append_left A ?_
        rw [← List.append_assoc, ← List.append_assoc]
        exact List.Perm.append_right _ List.perm_append_comm
      rw [List.take_append_drop] at e1
      exact e1.trans (List.Perm.append_right _ hd)
    · rw [List.length_append, hq]; rfl

/-! How many are needed: by Kraft's sum. -/
def exact' (X : List (Nat × Nat)) (d : Nat) : Nat := X.countP fun x => decide (x.2 = d)
def kraft (X : List (Nat × Nat)) (L d : Nat) : Nat := ((X.filter fun x => decide (d ≤ x.2)).map fun x => 2 ^ (L - x.2)).sum
theorem deep_step (X : List (Nat × Nat)) (d : Nat) : (deep X d).length = exact' X d + (deep X (d + 1)).length := by
  unfold deep exact'
  simp only [List.length_map]
  induction X with
  | nil => rfl
  | cons x r ih =>
    simp only [List.filter_cons, List.countP_cons]
    by_cases h1 : d ≤ x.2
    · by_cases h2 : d + 1 ≤ x.2
      · have h3 : ¬ x.2 = d := by omega
        simp [h1, h2, h3]; omega
      · have h3 : x.2 = d := by omega
        have h4 : ¬ d + 1 ≤ d := by omega
        simp [h3, h4]; omega
    · have h2 : ¬ d + 1 ≤ x.2 := by omega
      have h3 : ¬ x.2 = d := by omega
      simp [h1, h2, h3]; omega
theorem kraft_step (X : List (Nat × Nat)) (L d : Nat) : kraft X L d = exact' X d * 2 ^ (L - d) + kraft X L (d + 1) := by
  unfold kraft exact'
  induction X with
  | nil => simp
  | cons x r ih =>
    simp only [List.filter_cons, List.countP_cons]
    by_cases h1 : d ≤ x.2
    · by_cases h2 : d + 1 ≤ x.2
      · have h3 : ¬ x.2 = d := by omega
        simp [h1, h2, h3]; omega
      · have h3 : x.2 = d := by omega
        have h4 : ¬ d + 1 ≤ d := by omega
        simp [h3, h4, Nat.add_mul]; omega
    · have h2 : ¬ d + 1 ≤ x.2 := by omega
      have h3 : ¬ x.2 = d := by omega
      simp [h1, h2, h3]; omega
/-- Nodes of a code, from the deepest level up, rounded up. -/
def nodes (X : List (Nat × Nat)) (L : Nat) : Nat → Nat
  | 0 => exact' X L
  | k + 1 => exact' X (L - (k + 1)) + (nodes X L k + 1) / 2
theorem deep_none (X : List (Nat × Nat)) (L : Nat) (h : ∀ x ∈ X, x.2 ≤ L) : (deep X (L + 1)).length = 0 := by
  unfold deep
  rw [List.length_map, List.length_eq_zero_iff, List.filter_eq_nil_iff]
  intro x hx
  have := h x hx
  simp; omega
theorem kraft_none (X : List (Nat × Nat)) (L : Nat) (h : ∀ x ∈ X, x.2 ≤ L) : kraft X L (L + 1) = 0 := by
  unfold kraft
  have : (X.filter fun x => decide (L + 1 ≤ x.2)) = [] := by
    rw [List.filter_eq_nil_iff]
    intro x hx
    have := h x hx
    simp; omega
  rw [this]
  rfl
theorem need_nodes (X : List (Nat × Nat)) (L : Nat) (h : ∀ x ∈ X, x.2 ≤ L) (k : Nat) (hk : k ≤ L) : need X L k + nodes X L k = 2 * (deep X (L - k)).length := by
  induction k with
  | zero =>
    have h1 := deep_step X L
    have h2 := deep_none X L h
    simp only [need, nodes, Nat.sub_zero]
    omega
  | succ k ih =>
    have ih := ih (by omega)
    have h1 := deep_step X (L - (k + 1))
    rw [show L - (k + 1) + 1 = L - k by omega] at h1
    simp only [need, nodes]
    omega
theorem nodes_kraft (X : List (Nat × Nat)) (L : Nat) (h : ∀ x ∈ X, x.2 ≤ L) (k : Nat) (hk : k ≤ L) : nodes X L k * 2 ^ k < kraft X L (L - k) + 2 ^ k := by
  induction k with
  | zero =>
    have h1 := kraft_step X L L
    have h2 := kraft_none X L h
    rw [Nat.sub_self] at h1
    simp only [nodes, Nat.sub_zero, Nat.pow_zero] at h1 ⊢
    omega
  | succ k ih =>
    have ih := ih (by omega)
    have h1 := kraft_step X L (L - (k + 1))
    rw [show L - (k + 1) + 1 = L - k by omega, show L - (L - (k + 1)) = k + 1 by omega] at h1
    simp only [nodes]
    rw [h1, Nat.add_mul]
    have h2 : (nodes X L k + 1) / 2 * 2 ^ (k + 1) ≤ (nodes X L k + 1) * 2 ^ k := by
      rw [Nat.pow_succ, Nat.mul_comm (2 ^ k) 2, ← Nat.mul_assoc]
      exact Nat.mul_le_mul_right _ (Nat.div_mul_le_self _ _)
    rw [Nat.add_mul, Nat.one_mul] at h2
    have h3 : 2 ^ (k + 1) = 2 ^ k + 2 ^ k := by rw [Nat.pow_succ]; omega
    omega
/-- Lengths from 1 to L that take at most the whole space need 2n - 2 items. -/
theorem need_all (X : List (Nat × Nat)) (L : Nat) (hL : 1 ≤ L) (h : ∀ x ∈ X, 1 ≤ x.2 ∧ x.2 ≤ L) (hk : kraft X L 1 ≤ 2 ^ L) : 2 * X.length - 2 ≤ need X L (L - 1) := by
  have h1 := need_nodes X L (fun x hx => (h x hx).2) (L - 1) (by omega)
  have h2 := nodes_kraft X L (fun x hx => (h x hx).2) (L - 1) (by omega)
  rw [show L - (L - 1) = 1 by omega] at h1 h2
  have h3 : (deep X 1).length = X.length := by
    unfold deep
    rw [List.length_map]
    congr 1
    rw [List.filter_eq_self]
    intro x hx
    have := (h x hx).1
    simp; omega
  have h4 : nodes X L (L - 1) ≤ 2 := by
    rcases Nat.lt_or_ge 2 (nodes X L (L - 1)) with h5 | h5
    · exfalso
      have h6 : 3 * 2 ^ (L - 1) ≤ nodes X L (L - 1) * 2 ^ (L - 1) := Nat.mul_le_mul_right _ h5
      have h7 : 2 ^ L = 2 ^ (L - 1) + 2 ^ (L - 1) := by
        have : 2 ^ L = 2 ^ (L - 1 + 1) := by rw [Nat.sub_add_cancel hL]
        rw [this, Nat.pow_succ]; omega
      omega
    · exact h5
  omega

/-- The cost, level by level. -/
theorem deep_sum (X : List (Nat × Nat)) (d : Nat) : (deep X d).sum + (X.map fun x => x.1 * (x.2 + 1 - (d + 1))).sum = (X.map fun x => x.1 * (x.2 + 1 - d)).sum := by
  unfold deep
  induction X with
  | nil => rfl
  | cons x r ih =>
    simp only [List.filter_cons, List.map_cons, List.sum_cons]
    by_cases h1 : d ≤ x.2
    · have e : x.1 * (x.2 + 1 - d) = x.1 + x.1 * (x.2 + 1 - (d + 1)) := by
        rw [show x.2 + 1 - d = 1 + (x.2 + 1 - (d + 1)) by omega, Nat.mul_add, Nat.mul_one]
      simp only [h1, decide_true, if_true, List.map_cons, List.sum_cons]
      omega
    · have e1 : x.2 + 1 - d = 0 := by omega
      have e2 : x.2 + 1 - (d + 1) = 0 := by omega
      simp only [h1, decide_false, Bool.false_eq_true, if_false, e1, e2, Nat.mul_zero]
      omega
theorem paid_eq (X : List (Nat × Nat)) (L : Nat) (h : ∀ x ∈ X, x.2 ≤ L) (k : Nat) (hk : k ≤ L) : paid X L k = (X.map fun x => x.1 * (x.2 + 1 - (L - k))).sum := by
  induction k with
  | zero =>
    have h1 := deep_sum X L
    have h2 : (X.map fun x => x.1 * (x.2 + 1 - (L + 1))).sum = 0 := by
      have : X.map (fun x => x.1 * (x.2 + 1 - (L + 1))) = X.map (fun _ => 0) := by
        apply List.map_congr_left
        intro x hx
        have := h x hx
        rw [show x.2 + 1 - (L + 1) = 0 by omega, Nat.mul_zero]
      rw [this]
      clear this h1 h
      induction X with
      | nil => rfl
      | cons x r ih => simpa using ih
    simp only [paid, Nat.sub_zero]
    omega
  | succ k ih =>
    have ih := ih (by omega)
    have h1 := deep_sum X (L - (k + 1))
    rw [show L - (k + 1) + 1 = L - k by omega] at h1
    simp only [paid]
    omega
def costX (X : List (Nat × Nat)) : Nat := (X.map fun x => x.1 * x.2).sum
theorem paid_cost (X : List (Nat × Nat)) (L : Nat) (hL : 1 ≤ L) (h : ∀ x ∈ X, x.2 ≤ L) : paid X L (L - 1) = costX X := by
  rw [paid_eq X L h (L - 1) (by omega)]
  unfold costX
  rw [show L - (L - 1) = 1 by omega]
  rfl
theorem take_mono (l : List Nat) (m n : Nat) (h : m ≤ n) : (l.take m).sum ≤ (l.take n).sum := by
  obtain ⟨k, rfl⟩ := Nat.exists_eq_add_of_le h
  rw [List.take_add, List.sum_append]
  omega
/-- THE BOUND: lengths from 1 to L within the space cost at least what the first 2n - 2 items of the last row weigh. -/
theorem pm_least (X : List (Nat × Nat)) (F : List Nat) (hF : F.Perm (X.map (·.1))) (hs : F.Pairwise (· ≤ ·)) (L : Nat) (hL : 1 ≤ L) (h : ∀ x ∈ X, 1 ≤ x.2 ∧ x.2 ≤ L) (hk : kraft X L 1 ≤ 2 ^ L) :
    ((rww F (L - 1)).take (2 * X.length - 2)).sum ≤ costX X := by
  have h1 := row_least X F hF hs L (L - 1)
  rw [paid_cost X L hL (fun x hx => (h x hx).2)] at h1
  exact Nat.le_trans (take_mono _ _ _ (need_all X L hL h hk)) h1
end Go.Proofs.YtcifalelnfeggaaGreatDoor

namespace Go.Proofs.YtcifalelnfeggaaGreatDoor
set_option linter.unusedVariables false

/-! Package-merge with what its items hold. -/
abbrev It : Type := Nat × List Nat
abbrev leI : It → It → Bool := fun a b => decide (a.1 ≤ b.1)
def pk : List It → List It
  | a :: b :: r => (a.1 + b.1, a.2 ++ b.2) :: pk r
  | _ => []
def row (F : List It) : Nat → List It
  | 0 => F
  | k + 1 => List.merge F (pk (row F k)) leI
theorem pk_fst : ∀ l : List It, (pk l).map (·.1) = pkw (l.map (·.1))
  | [] => rfl
  | [_] => by simp [pk, pkw]
  | a :: b :: r => by
    have := pk_fst r
    simp only [pk, List.map_cons, pkw, this]
theorem row_fst (F : List It) (k : Nat) : (row F k).map (·.1) = rww (F.map (·.1)) k := by
  induction k with
  | zero => rfl
  | succ k ih =>
    simp only [row, rww]
    rw [List.map_merge (s := fun a b => decide (a ≤ b)) (fun a _ b _ => rfl), pk_fst, ih]
theorem pk_len : ∀ l : List It, (pk l).length = l.length / 2
  | [] => rfl
  | [_] => by simp [pk]
  | a :: b :: r => by
    have := pk_len r
    simp only [pk, List.length_cons, this]
    omega
theorem row_len (F : List It) (k : Nat) : (row F (k + 1)).length = F.length + (row F k).length / 2 := by
  simp only [row]
  rw [(List.merge_perm_append _).length_eq, List.length_append, pk_len]
/-- The first packages hold what the first items twice as many hold. -/
theorem pk_take : ∀ (l : List It) (q : Nat), 2 * q ≤ l.length → ((pk l).take q).flatMap (·.2) = (l.take (2 * q)).flatMap (·.2)
  | l, 0, _ => by simp
  | [], q + 1, h => by simp at h
  | [_], q + 1, h => by simp at h; omega
  | a :: b :: r, q + 1, h => by
    have ih := pk_take r q (by simp at h; omega)
    rw [show 2 * (q + 1) = 2 * q + 1 + 1 by omega]
    simp only [pk, List.take_succ_cons, List.flatMap_cons, ih, List.append_assoc]
theorem pk_take_sum : ∀ (l : List It) (q : Nat), 2 * q ≤ l.length → (((pk l).take q).map (·.1)).sum = ((l.take (2 * q)).map (·.1)).sum
  | l, 0, _ => by simp
  | [], q + 1, h => by simp at h
  | [_], q + 1, h => by simp at h; omega
  | a :: b :: r, q + 1, h => by
    have ih := pk_take_sum r q (by simp at h; omega)
    rw [show 2 * (q + 1) = 2 * q + 1 + 1 by omega]
    simp only [pk, List.take_succ_cons, List.map_cons, List.sum_cons, ih]
    omega
/-- A package outweighs each of its two. -/
theorem pk_get : ∀ (l : List It) (j : Nat), 2 * (j / 2) + 1 < l.length → (∀ x ∈ l, 0 < x.1) → ∃ y, (pk l)[j / 2]? = some y ∧ ∀ z, l[j]? = some z → z.1 < y.1
  | [], j, h, _ => by simp at h
  | [_], j, h, _ => by simp at h
  | a :: b :: r, 0, h, hp => by
    have h1 := hp a (by simp)
    have h2 := hp b (by simp)
    exact ⟨(a.1 + b.1, a.2 ++ b.2), rfl, fun z hz => by simp at hz; subst hz; simp; omega⟩
  | a :: b :: r, 1, h, hp => by
    have h1 := hp a (by simp)
    have h2 := hp b (by simp)
    exact ⟨(a.1 + b.1, a.2 ++ b.2), rfl, fun z hz => by simp at hz; subst hz; simp; omega⟩
  | a :: b :: r, j + 2, h, hp => by
    obtain ⟨y, h1, h2⟩ := pk_get r j (by simp at h; omega) (fun x hx => hp x (by simp [hx]))
    refine ⟨y, ?_, ?_⟩
    · rw [show (j + 2) / 2 = j / 2 + 1 by omega]
      simpa [pk] using h1
    · intro z hz
      exact h2 z (by simpa using hz)
theorem pk_pos : ∀ l : List It, (∀ x ∈ l, 0 < x.1) → ∀ x ∈ pk l, 0 < x.1
  | [], _ => by simp [pk]
  | [_], _ => by simp [pk]
  | a :: b :: r, hp => by
    intro x hx
    simp only [pk, List.mem_cons] at hx
    rcases hx with rfl | hx
    · have := hp a (by simp); simp; omega
    · exact pk_pos r (fun y hy => hp y (by simp [hy])) x hx
theorem row_pos (F : List It) (hp : ∀ x ∈ F, 0 < x.1) (k : Nat) : ∀ x ∈ row F k, 0 < x.1 := by
  induction k with
  | zero => exact hp
  | succ k ih =>
    intro x hx
    simp only [row] at hx
    have := (List.merge_perm_append leI).subset hx
    rcases List.mem_append.1 this with h | h
    · exact hp x h
    · exact pk_pos _ ih x h

/-- The first items of a merging: so many leaves, so many packages; no leaf is left that is no heavier than a package that was taken. -/
theorem merge_take : ∀ (m : Nat) (F P : List It), F.Pairwise (fun a b => a.1 ≤ b.1) → m ≤ F.length + P.length →
    ∃ a q, a + q = m ∧ a ≤ F.length ∧ q ≤ P.length ∧ ((List.merge F P leI).take m).Perm (F.take a ++ P.take q) ∧ ∀ i r x y, a ≤ i → F[i]? = some x → r < q → P[r]? = some y → y.1 < x.1
  | 0, F, P, _, _ => ⟨0, 0, rfl, Nat.zero_le _, Nat.zero_le _, by simp, fun i r x y _ _ h => by omega⟩
  | m + 1, [], P, _, h => ⟨0, m + 1, by omega, Nat.le_refl _, by simpa using h, by simp, fun i r x y _ hx => by simp at hx⟩
  | m + 1, F, [], _, h => ⟨m + 1, 0, rfl, by simpa using h, Nat.le_refl _, by simp, fun i r x y _ _ h => by omega⟩
  | m + 1, x :: F, y :: P, hs, h => by
    have hs1 := List.pairwise_cons.1 hs
    rw [List.cons_merge_cons]
    by_cases hxy : x.1 ≤ y.1
    · obtain ⟨a, q, h1, h2, h3, h4, h5⟩ := merge_take m F (y :: P) hs1.2 (by simp at h ⊢; omega)
      refine ⟨a + 1, q, by omega, by simp; omega, h3, ?_, ?_⟩
      · rw [if_pos (by simpa [leI] using hxy)]
        simp only [List.take_succ_cons, List.cons_append]
        exact h4.cons x
      · intro i r u v hi hu hr hv
        match i, hi with
        | i + 1, hi => exact h5 i r u v (by omega) (by simpa using hu) hr hv
    · obtain ⟨a, q, h1, h2, h3, h4, h5⟩ := merge_take m (x :: F) P hs (by simp at h ⊢; omega)
      refine ⟨a, q + 1, by omega, h2, by simp; omega, ?_, ?_⟩
      · rw [if_neg (by simpa [leI] using hxy)]
        simp only [List.take_succ_cons]
        refine (h4.cons y).trans ?_
        exact List.perm_middle.symm
      · intro i r u v hi hu hr hv
        match r with
        | 0 =>
          simp at hv
          subst hv
          have hxu : x.1 ≤ u.1 := by
            match i with
            | 0 => simp at hu; subst hu; exact Nat.le_refl _
            | i + 1 => exact hs1.1 u (List.mem_of_getElem? (by simpa using hu))
          omega
        | r + 1 => exact h5 i r u v hi hu (by omega) (by simpa using hv)

/-- How many items each level takes. -/
def Chain : Nat → List Nat → Prop
  | m, [] => False
  | m, [a] => a = m
  | m, a :: A => a ≤ m ∧ Chain (2 * (m - a)) A

/-- What the first m items of a row hold: beginnings of the leaves, one for each level, each within the one above it. -/
theorem row_levels (F : List It) (hs : F.Pairwise (fun a b => a.1 ≤ b.1)) (hp : ∀ x ∈ F, 0 < x.1) : ∀ (k m : Nat), m ≤ (row F k).length →
    ∃ a A, A.length = k ∧ Chain m (a :: A) ∧ (a :: A).Pairwise (· ≥ ·) ∧ a ≤ F.length ∧ (((row F k).take m).flatMap (·.2)).Perm ((a :: A).flatMap fun a => (F.take a).flatMap (·.2)) ∧ (∀ x ∈ F.take a, x ∈ (row F k).take m) ∧ (((row F k).take m).map (·.1)).sum = ((a :: A).map fun a => ((F.take a).map (·.1)).sum).sum
  | 0, m, hm => ⟨m, [], rfl, rfl, by simp, hm, by simp [row], fun x hx => hx, by simp [row]⟩
  | k + 1, m, hm => by
    obtain ⟨a, q, h1, h2, h3, h4, h5⟩ := merge_take m F (pk (row F k)) hs (by rw [row_len] at hm; rw [pk_len]; exact hm)
    rw [pk_len] at h3
    obtain ⟨a', A', e1, e2, e3, e4, e5, e6, e7⟩ := row_levels F hs hp k (2 * q) (by omega)
    have hle : a' ≤ a := by
      rcases Nat.lt_or_ge a a' with hlt | hge
      · exfalso
        have hx : a < F.length := by omega
        have hmem : F[a] ∈ F.take a' := by
          rw [List.mem_take_iff_getElem]
          exact ⟨a, by omega, rfl⟩
        obtain ⟨j, hj, hje⟩ := List.mem_iff_getElem.1 (e6 _ hmem)
        rw [List.length_take] at hj
        rw [List.getElem_take] at hje
        obtain ⟨y, hy1, hy2⟩ := pk_get (row F k) j (by omega) (row_pos F hp k)
        have h6 := h5 a (j / 2) F[a] y (Nat.le_refl _) (by simp [hx]) (by omega) hy1
        have h7 := hy2 (row F k)[j] (by simp)
        rw [hje] at h7
        omega
      · exact hge
    refine ⟨a, a' :: A', by simp [e1], ?_, ?_, h2, ?_, ?_, ?_⟩
    · refine ⟨by omega, ?_⟩
      rw [show m - a = q by omega]
      exact e2
    · refine List.pairwise_cons.2 ⟨?_, e3⟩
      intro b hb
      rcases List.mem_cons.1 hb with rfl | hb
      · exact hle
      · have := (List.pairwise_cons.1 e3).1 b hb
        omega
    · have h6 := h4.flatMap_right (·.2)
      rw [List.flatMap_append, pk_take _ _ (by omega)] at h6
      refine h6.trans ?_
      rw [List.flatMap_cons (f := fun a => (F.take a).flatMap (·.2))]
      exact List.Perm.append_left _ e5
    · intro x hx
      exact h4.symm.subset (List.mem_append_left _ hx)
    · have h6 := (h4.map (·.1)).sum_nat
      rw [List.map_append, List.sum_append, pk_take_sum _ _ (by omega), e7] at h6
      rw [List.map_cons, List.sum_cons]
      exact h6

/-! The lengths: how many levels a leaf is in. -/
def lenA (A : List Nat) (i : Nat) : Nat := A.countP fun a => decide (i < a)
theorem lenA_le (A : List Nat) (i : Nat) : lenA A i ≤ A.length := List.countP_le_length
theorem lenA_anti (A : List Nat) (i j : Nat) (h : i ≤ j) : lenA A j ≤ lenA A i := by
  unfold lenA
  apply List.countP_mono_left
  intro a _ ha
  simp at ha ⊢
  omega
def kraftA (A : List Nat) (n : Nat) : Nat := ((List.range n).map fun i => 2 ^ (A.length - lenA A i)).sum
theorem sum_const (f : Nat → Nat) (c a b : Nat) (hab : a ≤ b) (h : ∀ i, a ≤ i → i < b → f i = c) : ((List.range b).map f).sum = ((List.range a).map f).sum + (b - a) * c := by
  induction b with
  | zero => obtain rfl : a = 0 := by omega
            simp
  | succ b ih =>
    by_cases hb : a ≤ b
    · rw [List.range_succ, List.map_append, List.sum_append, ih hb (fun i h1 h2 => h i h1 (by omega))]
      simp only [List.map_cons, List.map_nil, List.sum_cons, List.sum_nil]
      rw [h b hb (by omega), show b + 1 - a = b - a + 1 by omega, Nat.add_mul]
      omega
    · obtain rfl : a = b + 1 := by omega
      simp
theorem chain_kraft : ∀ (A : List Nat) (m a : Nat), Chain m (a :: A) → (a :: A).Pairwise (· ≥ ·) → kraftA (a :: A) a + m * 2 ^ A.length = 2 * a * 2 ^ A.length
  | [], m, a, hc, _ => by
    have hc : a = m := hc
    subst hc
    unfold kraftA lenA
    rw [sum_const (fun i => 2 ^ ([a].length - [a].countP fun x => decide (i < x))) 1 0 a (Nat.zero_le _) (fun i _ hi => by simp [hi])]
    simp
    omega
  | a' :: A, m, a, hc, hp => by
    have hc : a ≤ m ∧ Chain (2 * (m - a)) (a' :: A) := hc
    have hp1 := List.pairwise_cons.1 hp
    have hle : a' ≤ a := hp1.1 a' (by simp)
    have ih := chain_kraft A (2 * (m - a)) a' hc.2 hp1.2
    have hs := sum_const (fun i => 2 ^ ((a :: a' :: A).length - lenA (a :: a' :: A) i)) (2 ^ (A.length + 1)) a' a hle (fun i h1 h2 => by
      have h0 : lenA (a' :: A) i = 0 := by
        unfold lenA
        rw [List.countP_eq_zero]
        intro b hb
        have hb' : b ≤ a' := by
          rcases List.mem_cons.1 hb with rfl | hb
          · exact Nat.le_refl _
          · exact (List.pairwise_cons.1 hp1.2).1 b hb
        simp; omega
      have h3 : lenA (a :: a' :: A) i = lenA (a' :: A) i + 1 := by
        unfold lenA
        rw [List.countP_cons]
        simp [h2]
      rw [h3, h0]
      simp)
    have hin : ((List.range a').map fun i => 2 ^ ((a :: a' :: A).length - lenA (a :: a' :: A) i)) = (List.range a').map fun i => 2 ^ ((a' :: A).length - lenA (a' :: A) i) := by
      apply List.map_congr_left
      intro i hi
      have hi := List.mem_range.1 hi
      have h3 : lenA (a :: a' :: A) i = lenA (a' :: A) i + 1 := by
        unfold lenA
        rw [List.countP_cons]
        have : i < a := by omega
        simp [this]
      rw [h3]
      congr 1
      simp only [List.length_cons]
      omega
    unfold kraftA at ih ⊢
    rw [hs, hin]
    simp only [List.length_cons]
    rw [Nat.pow_succ]
    generalize 2 ^ A.length = X at *
    generalize ((List.range a').map fun i => 2 ^ ((a' :: A).length - lenA (a' :: A) i)).sum = S at *
    obtain ⟨q, rfl⟩ := Nat.exists_eq_add_of_le hc.1
    obtain ⟨e, rfl⟩ := Nat.exists_eq_add_of_le hle
    rw [Nat.add_sub_cancel_left] at ih ⊢
    have e1 : 2 * q * X = 2 * (q * X) := Nat.mul_assoc _ _ _
    have e2 : 2 * a' * X = 2 * (a' * X) := Nat.mul_assoc _ _ _
    have e3 : e * (X * 2) = 2 * (e * X) := by rw [Nat.mul_comm X 2, ← Nat.mul_assoc, Nat.mul_comm e 2, Nat.mul_assoc]
    have e4 : (a' + e + q) * (X * 2) = 2 * (a' * X) + 2 * (e * X) + 2 * (q * X) := by rw [Nat.add_mul, Nat.add_mul]; have := Nat.mul_comm X 2; rw [this, ← Nat.mul_assoc, ← Nat.mul_assoc, ← Nat.mul_assoc, Nat.mul_comm a' 2, Nat.mul_comm e 2, Nat.mul_comm q 2, Nat.mul_assoc, Nat.mul_assoc, Nat.mul_assoc]
    have e5 : 2 * (a' + e) * (X * 2) = 2 * (2 * (a' * X) + 2 * (e * X)) := by rw [Nat.mul_assoc, Nat.add_mul, Nat.mul_comm X 2, ← Nat.mul_assoc a' 2, ← Nat.mul_assoc e 2, Nat.mul_comm a' 2, Nat.mul_comm e 2, Nat.mul_assoc, Nat.mul_assoc]
    omega
/-- All leaves are among the first 2n - 2 items. -/
theorem chain_top : ∀ (A : List Nat) (m a n : Nat), Chain m (a :: A) → (a :: A).Pairwise (· ≥ ·) → 2 ≤ n → 2 * n - 2 ≤ m → n ≤ a
  | [], m, a, n, hc, _, hn, hm => by
    have hc : a = m := hc
    omega
  | a' :: A, m, a, n, hc, hp, hn, hm => by
    have hc : a ≤ m ∧ Chain (2 * (m - a)) (a' :: A) := hc
    have hp1 := List.pairwise_cons.1 hp
    have hle : a' ≤ a := hp1.1 a' (by simp)
    rcases Nat.lt_or_ge a n with h | h
    · have := chain_top A (2 * (m - a)) a' n hc.2 hp1.2 hn (by omega)
      omega
    · exact h
/-- There are enough items. -/
theorem row_enough (F : List It) (L : Nat) : ∀ k, 2 * F.length ≤ (row F k).length + (F.length + 2 ^ k - 1) / 2 ^ k
  | 0 => by simp [row]; omega
  | k + 1 => by
    have ih := row_enough F L k
    rw [row_len]
    have h2 : 2 ^ (k + 1) = 2 ^ k * 2 := Nat.pow_succ ..
    have hX := Nat.two_pow_pos k
    have e : (F.length + 2 ^ (k + 1) - 1) / 2 ^ (k + 1) = ((F.length + 2 ^ k - 1) / 2 ^ k + 1) / 2 := by
      rw [h2, ← Nat.div_div_eq_div_mul]
      congr 1
      rw [show F.length + 2 ^ k * 2 - 1 = (F.length + 2 ^ k - 1) + 2 ^ k by omega, Nat.add_div_right _ hX]
    rw [e]
    omega
theorem row_has (F : List It) (L : Nat) (hL : 1 ≤ L) (hn : F.length ≤ 2 ^ L) : 2 * F.length - 2 ≤ (row F (L - 1)).length := by
  have h := row_enough F L (L - 1)
  have hX := Nat.two_pow_pos (L - 1)
  have h7 : 2 ^ L = 2 ^ (L - 1) * 2 := by
    have : 2 ^ L = 2 ^ (L - 1 + 1) := by rw [Nat.sub_add_cancel hL]
    rw [this, Nat.pow_succ]
  have : (F.length + 2 ^ (L - 1) - 1) / 2 ^ (L - 1) ≤ 2 := by
    rw [Nat.div_le_iff_le_mul_add_pred hX]
    omega
  omega
end Go.Proofs.YtcifalelnfeggaaGreatDoor

namespace Go.Proofs.YtcifalelnfeggaaGreatDoor
set_option linter.unusedVariables false

/-! The lengths of leaves: pairs of a weight and a symbol. -/
def itF (LF : List (Nat × Nat)) : List It := LF.map fun x => (x.1, [x.2])
def taken (LF : List (Nat × Nat)) (L : Nat) : List Nat := ((row (itF LF) (L - 1)).take (2 * LF.length - 2)).flatMap (·.2)
def lenOf (LF : List (Nat × Nat)) (L s : Nat) : Nat := (taken LF L).count s

theorem itF_take (LF : List (Nat × Nat)) (b : Nat) : ((itF LF).take b).flatMap (·.2) = (LF.take b).map (·.2) := by
  unfold itF
  rw [← List.map_take]
  generalize LF.take b = l
  induction l with
  | nil => rfl
  | cons x r ih => simp only [List.map_cons, List.flatMap_cons, ih, List.singleton_append]
theorem itF_fst (LF : List (Nat × Nat)) : (itF LF).map (·.1) = LF.map (·.1) := by
  unfold itF
  rw [List.map_map]
  rfl
theorem count_take : ∀ (S : List Nat) (i b s : Nat), S.Nodup → S[i]? = some s → (S.take b).count s = if i < b then 1 else 0
  | [], i, b, s, _, h => by simp at h
  | x :: r, i, 0, s, _, h => by simp
  | x :: r, 0, b + 1, s, hd, h => by
    simp at h
    subst h
    have hx := (List.nodup_cons.1 hd).1
    have : (r.take b).count x = 0 := List.count_eq_zero.2 (fun hm => hx (List.mem_of_mem_take hm))
    simp [this]
  | x :: r, i + 1, b + 1, s, hd, h => by
    have hd1 := List.nodup_cons.1 hd
    have ih := count_take r i b s hd1.2 (by simpa using h)
    have hne : x ≠ s := by
      rintro rfl
      exact hd1.1 (List.mem_of_getElem? (by simpa using h))
    rw [List.take_succ_cons, List.count_cons, ih]
    simp [hne]
theorem count_levels (LF : List (Nat × Nat)) (hd : (LF.map (·.2)).Nodup) (i : Nat) (x : Nat × Nat) (hx : LF[i]? = some x) : ∀ A : List Nat, (A.flatMap fun a => ((itF LF).take a).flatMap (·.2)).count x.2 = lenA A i
  | [] => rfl
  | a :: A => by
    have ih := count_levels LF hd i x hx A
    rw [List.flatMap_cons, List.count_append, ih, itF_take]
    have h1 := count_take (LF.map (·.2)) i a x.2 hd (by simp [hx])
    rw [← List.map_take] at h1
    rw [h1]
    unfold lenA
    rw [List.countP_cons]
    by_cases h : i < a <;> simp [h] <;> omega

/-- THE LENGTHS OF PACKAGE-MERGE: levels within one another; the whole space. -/
theorem pm_lens (LF : List (Nat × Nat)) (hs : LF.Pairwise (fun a b => a.1 ≤ b.1)) (hp : ∀ x ∈ LF, 0 < x.1) (hd : (LF.map (·.2)).Nodup) (L : Nat) (hL : 1 ≤ L) (hn : 2 ≤ LF.length) (hn2 : LF.length ≤ 2 ^ L) :
    ∃ A : List Nat, A.length = L ∧ A.Pairwise (· ≥ ·) ∧ (∀ i x, LF[i]? = some x → lenOf LF L x.2 = lenA A i) ∧ (∀ i, i < LF.length → 1 ≤ lenA A i) ∧ kraftA A LF.length = 2 ^ L ∧ (∀ a ∈ A, a ≤ LF.length) ∧
      ((rww (LF.map (·.1)) (L - 1)).take (2 * LF.length - 2)).sum = (A.map fun a => ((LF.take a).map (·.1)).sum).sum := by
  have hlen : (itF LF).length = LF.length := by simp [itF]
  have hsF : (itF LF).Pairwise (fun a b => a.1 ≤ b.1) := by
    unfold itF
    rw [List.pairwise_map]
    exact hs
  have hpF : ∀ x ∈ itF LF, 0 < x.1 := by
    intro x hx
    unfold itF at hx
    obtain ⟨y, hy, rfl⟩ := List.mem_map.1 hx
    exact hp y hy
  have hhas := row_has (itF LF) L hL (by rw [hlen]; exact hn2)
  rw [hlen] at hhas
  obtain ⟨a, A, e1, e2, e3, e4, e5, _, e7⟩ := row_levels (itF LF) hsF hpF (L - 1) (2 * LF.length - 2) hhas
  rw [hlen] at e4
  have htop := chain_top A _ a LF.length e2 e3 hn (Nat.le_refl _)
  have ha : a = LF.length := by omega
  have hk := chain_kraft A _ a e2 e3
  have hAll : ∀ b ∈ a :: A, b ≤ LF.length := by
    intro b hb
    rcases List.mem_cons.1 hb with rfl | hb
    · omega
    · have := (List.pairwise_cons.1 e3).1 b hb; omega
  refine ⟨a :: A, by simp [e1]; omega, e3, ?_, ?_, ?_, hAll, ?_⟩
  · intro i x hx
    unfold lenOf taken
    rw [e5.count_eq]
    exact count_levels LF hd i x hx (a :: A)
  · intro i hi
    unfold lenA
    rw [List.countP_cons]
    have : i < a := by omega
    simp [this]
  · rw [e1, ha] at hk
    rw [← ha] at hk ⊢
    have h7 : 2 ^ L = 2 ^ (L - 1) * 2 := by
      have : 2 ^ L = 2 ^ (L - 1 + 1) := by rw [Nat.sub_add_cancel hL]
      rw [this, Nat.pow_succ]
    rw [h7]
    generalize 2 ^ (L - 1) = X at *
    obtain ⟨c, hc⟩ : ∃ c, a = c + 2 := ⟨a - 2, by omega⟩
    have hm : 2 * LF.length - 2 = 2 * c + 2 := by omega
    rw [ha] at hk
    rw [show 2 * LF.length - 2 = 2 * c + 2 from hm, show LF.length = c + 2 by omega] at hk
    rw [show a = LF.length from ha, show LF.length = c + 2 by omega]
    rw [show A = A from rfl] at hk
    have e8 : (2 * c + 2) * X = 2 * (c * X) + 2 * X := by rw [Nat.add_mul, Nat.mul_assoc]
    have e9 : 2 * (c + 2) * X = 2 * (c * X) + 4 * X := by rw [Nat.mul_assoc, Nat.add_mul]; omega
    omega
  · rw [← itF_fst, ← row_fst, ← List.map_take, e7]
    congr 1
    apply List.map_congr_left
    intro b _
    rw [List.map_take, itF_fst, ← List.map_take]

/-! Its cost, and that none is cheaper. -/
theorem map_idx {α β : Type} (l : List α) (g : α → β) (h : Nat → β) (e : ∀ i x, l[i]? = some x → g x = h i) : l.map g = (List.range l.length).map h := by
  apply List.ext_getElem?
  intro i
  by_cases hi : i < l.length
  · have h1 : l[i]? = some l[i] := by simp [hi]
    simp only [List.getElem?_map, h1, Option.map_some, List.getElem?_range hi]
    rw [e i _ h1]
  · rw [List.getElem?_eq_none (by simpa using hi), List.getElem?_eq_none (by simpa using hi)]
def XP (LF : List (Nat × Nat)) (L : Nat) : List (Nat × Nat) := LF.map fun x => (x.1, lenOf LF L x.2)
theorem take_sum_if (w : Nat → Nat) (n a : Nat) (ha : a ≤ n) : ((List.range n).map fun i => if i < a then w i else 0).sum = ((List.range a).map w).sum := by
  have h1 := sum_const (fun i => if i < a then w i else 0) 0 a n ha (fun i h1 h2 => by simp; omega)
  rw [h1, Nat.mul_zero, Nat.add_zero]
  congr 1
  apply List.map_congr_left
  intro i hi
  simp [List.mem_range.1 hi]
theorem levels_cost (w : Nat → Nat) (n : Nat) : ∀ A : List Nat, (∀ a ∈ A, a ≤ n) → (A.map fun a => ((List.range a).map w).sum).sum = ((List.range n).map fun i => w i * lenA A i).sum
  | [], h => by
    clear h
    simp only [List.map_nil, List.sum_nil, lenA, List.countP_nil, Nat.mul_zero]
    generalize List.range n = l
    induction l with
    | nil => rfl
    | cons x r ih => rw [List.map_cons, List.sum_cons, ← ih, Nat.add_zero]
  | a :: A, h => by
    have ih := levels_cost w n A (fun b hb => h b (by simp [hb]))
    rw [List.map_cons, List.sum_cons, ih, ← take_sum_if w n a (h a (by simp))]
    have hl : ∀ i, lenA (a :: A) i = lenA A i + if i < a then 1 else 0 := by
      intro i
      unfold lenA
      rw [List.countP_cons]
      by_cases hi : i < a <;> simp [hi]
    generalize List.range n = l
    induction l with
    | nil => rfl
    | cons i r ihr =>
      simp only [List.map_cons, List.sum_cons]
      rw [hl i, Nat.mul_add]
      by_cases hi : i < a
      · simp only [hi, if_true, Nat.mul_one]; omega
      · simp only [hi, if_false, Nat.mul_zero]; omega
theorem kraft_all (X : List (Nat × Nat)) (L : Nat) (h : ∀ x ∈ X, 1 ≤ x.2) : kraft X L 1 = (X.map fun x => 2 ^ (L - x.2)).sum := by
  unfold kraft
  rw [List.filter_eq_self.2 (fun x hx => by simpa using h x hx)]

/-- What package-merge answers, in one row: lengths from 1 to L, the whole space, the cost of the first items. -/
theorem pm_all (LF : List (Nat × Nat)) (hs : LF.Pairwise (fun a b => a.1 ≤ b.1)) (hp : ∀ x ∈ LF, 0 < x.1) (hd : (LF.map (·.2)).Nodup) (L : Nat) (hL : 1 ≤ L) (hn : 2 ≤ LF.length) (hn2 : LF.length ≤ 2 ^ L) :
    (∀ x ∈ XP LF L, 1 ≤ x.2 ∧ x.2 ≤ L) ∧ kraft (XP LF L) L 1 = 2 ^ L ∧ costX (XP LF L) = ((rww (LF.map (·.1)) (L - 1)).take (2 * LF.length - 2)).sum ∧
      (∀ (i j : Nat) (x y : Nat × Nat), i ≤ j → LF[i]? = some x → LF[j]? = some y → lenOf LF L y.2 ≤ lenOf LF L x.2) := by
  obtain ⟨A, e1, e2, e3, e4, e5, e6, e7⟩ := pm_lens LF hs hp hd L hL hn hn2
  have hX : XP LF L = (List.range LF.length).map fun i => ((LF.getD i (0, 0)).1, lenA A i) := by
    unfold XP
    apply map_idx
    intro i x hx
    rw [e3 i x hx]
    simp [List.getD, hx]
  have hbd : ∀ x ∈ XP LF L, 1 ≤ x.2 ∧ x.2 ≤ L := by
    intro x hx
    rw [hX] at hx
    obtain ⟨i, hi, rfl⟩ := List.mem_map.1 hx
    have := lenA_le A i
    exact ⟨e4 i (List.mem_range.1 hi), by simp only; omega⟩
  refine ⟨hbd, ?_, ?_, ?_⟩
  · rw [kraft_all _ _ (fun x hx => (hbd x hx).1), hX, List.map_map, ← e5]
    unfold kraftA
    rw [e1]
    rfl
  · rw [e7]
    unfold costX
    rw [hX, List.map_map]
    have h1 := levels_cost (fun i => (LF.getD i (0, 0)).1) LF.length A e6
    have h2 : (A.map fun a => ((LF.take a).map (·.1)).sum) = A.map fun a => ((List.range a).map fun i => (LF.getD i (0, 0)).1).sum := by
      apply List.map_congr_left
      intro a ha
      have hal := e6 a ha
      congr 1
      rw [map_idx (LF.take a) (·.1) (fun i => (LF.getD i (0, 0)).1) (fun i x hx => by
        rw [List.getElem?_take] at hx
        split at hx
        · simp [List.getD, hx]
        · simp at hx)]
      rw [List.length_take, Nat.min_eq_left hal]
    rw [h2, h1]
    rfl
  · intro i j x y hij hx hy
    rw [e3 i x hx, e3 j y hy]
    exact lenA_anti A i j hij

/-- G8: no lengths from 1 to L that take at most the whole space cost less. -/
theorem pm_best (LF : List (Nat × Nat)) (hs : LF.Pairwise (fun a b => a.1 ≤ b.1)) (hp : ∀ x ∈ LF, 0 < x.1) (hd : (LF.map (·.2)).Nodup) (L : Nat) (hL : 1 ≤ L) (hn : 2 ≤ LF.length) (hn2 : LF.length ≤ 2 ^ L)
    (X : List (Nat × Nat)) (hX : (X.map (·.1)).Perm (LF.map (·.1))) (h : ∀ x ∈ X, 1 ≤ x.2 ∧ x.2 ≤ L) (hk : kraft X L 1 ≤ 2 ^ L) : costX (XP LF L) ≤ costX X := by
  rw [(pm_all LF hs hp hd L hL hn hn2).2.2.1]
  have hl : X.length = LF.length := by have := hX.length_eq; simpa using this
  rw [← hl]
  exact pm_least X (LF.map (·.1)) hX.symm (by rw [List.pairwise_map]; exact hs) L hL h hk
end Go.Proofs.YtcifalelnfeggaaGreatDoor

namespace Go.Proofs.YtcifalelnfeggaaGreatDoor
open Go.RowKit
set_option linter.unusedVariables false

def isLeaf (x : Im) (t : It) : Prop := x.fs = none ∧ x.sn = none ∧ 0 ≤ x.wt ∧ 0 ≤ x.sy ∧ t = (x.wt.toNat, [x.sy.toNat])
/-- What an item means: all that it points to lies in blocks of G. -/
def Mn (G : Nat → Prop) (w : World) : Nat → Im → It → Prop
  | 0, x, t => isLeaf x t
  | d + 1, x, t => isLeaf x t ∨ ∃ (b o b' o' : Nat) (y z : Im) (s u : It), x.fs = some ⟨b, o, none⟩ ∧ x.sn = some ⟨b', o', none⟩ ∧ G b ∧ G b' ∧ ItAt w b o y ∧ ItAt w b' o' z ∧ Mn G w d y s ∧ Mn G w d z u ∧ x.wt = ((s.1 + u.1 : Nat) : Int) ∧ t = (s.1 + u.1, s.2 ++ u.2)
theorem Mn.keep {G : Nat → Prop} {w w' : World} (hk : ∀ b, G b → w'.heap[b]? = w.heap[b]?) : ∀ (d : Nat) (x : Im) (t : It), Mn G w d x t → Mn G w' d x t
  | 0, x, t, h => h
  | d + 1, x, t, h => by
    rcases h with h | ⟨b, o, b', o', y, z, s, u, h1, h2, h3, h4, h5, h6, h7, h8, h9⟩
    · exact .inl h
    · exact .inr ⟨b, o, b', o', y, z, s, u, h1, h2, h3, h4, h5.of_block (hk b h3), h6.of_block (hk b' h4), Mn.keep hk d y s h7, Mn.keep hk d z u h8, h9⟩
theorem Mn.mono {G G' : Nat → Prop} {w : World} (hg : ∀ b, G b → G' b) : ∀ (d : Nat) (x : Im) (t : It), Mn G w d x t → Mn G' w d x t
  | 0, x, t, h => h
  | d + 1, x, t, h => by
    rcases h with h | ⟨b, o, b', o', y, z, s, u, h1, h2, h3, h4, h5, h6, h7, h8, h9⟩
    · exact .inl h
    · exact .inr ⟨b, o, b', o', y, z, s, u, h1, h2, hg b h3, hg b' h4, h5, h6, Mn.mono hg d y s h7, Mn.mono hg d z u h8, h9⟩
theorem Mn.leaf {G : Nat → Prop} {w : World} {x : Im} {t : It} (h : isLeaf x t) : ∀ d, Mn G w d x t
  | 0 => h
  | d + 1 => .inl h
theorem Mn.up {G : Nat → Prop} {w : World} : ∀ (d : Nat) (x : Im) (t : It), Mn G w d x t → Mn G w (d + 1) x t
  | 0, x, t, h => .inl h
  | d + 1, x, t, h => by
    rcases h with h | ⟨b, o, b', o', y, z, s, u, h1, h2, h3, h4, h5, h6, h7, h8, h9⟩
    · exact .inl h
    · exact .inr ⟨b, o, b', o', y, z, s, u, h1, h2, h3, h4, h5, h6, Mn.up d y s h7, Mn.up d z u h8, h9⟩
theorem Mn.wt {G : Nat → Prop} {w : World} {d : Nat} {x : Im} {t : It} (h : Mn G w d x t) : x.wt = (t.1 : Int) := by
  have hl : isLeaf x t → x.wt = (t.1 : Int) := by
    rintro ⟨_, _, h3, _, rfl⟩
    simp only
    omega
  cases d with
  | zero => exact hl h
  | succ d =>
    rcases h with h | ⟨b, o, b', o', y, z, s, u, h1, h2, h3, h4, h5, h6, h7, h8, h9, rfl⟩
    · exact hl h
    · exact h9
def im0 : Im := ⟨0, 0, none, none⟩
def it0 : It := (0, [])
/-- Items that lie where a slice's address leads. -/
structure RL (w : World) (a : Option Addr) (L : List Im) : Prop where
  at_ : ∀ k, k < L.length → ∃ b off, a = some ⟨b, off, none⟩ ∧ ItAt w b (off + k * 4) (L.getD k im0)
theorem RL.old {w w' : World} {a : Option Addr} {L : List Im} (h : RL w a L) (hb : Below w.heap.size w w') : RL w' a L :=
  ⟨fun k hk => by obtain ⟨b, off, ha, hi⟩ := h.at_ k hk; exact ⟨b, off, ha, hi.of_block (hb.block b hi.lt)⟩⟩
theorem RL.grown {w w' : World} {a : Option Addr} {L : List Im} {row : Option Nat} (h : RL w a L) (hg : w.grownBy w' row) (hne : ∀ b off, a = some ⟨b, off, none⟩ → 0 < L.length → some b ≠ row) : RL w' a L :=
  ⟨fun k hk => by obtain ⟨b, off, ha, hi⟩ := h.at_ k hk; exact ⟨b, off, ha, hi.of_block (hg.block b hi.lt (hne b off ha (by omega)))⟩⟩
theorem RL.tail {w : World} {b off : Nat} {x : Im} {L : List Im} (h : RL w (some ⟨b, off, none⟩) (x :: L)) : RL w (some ⟨b, off + 4, none⟩) L := by
  refine ⟨fun k hk => ?_⟩
  obtain ⟨b', off', e, hi⟩ := h.at_ (k + 1) (by simp; omega)
  cases e
  refine ⟨b, off + 4, rfl, ?_⟩
  have e1 : off + 4 + k * 4 = off + (k + 1) * 4 := by omega
  rw [e1]
  simpa [List.getD] using hi
theorem RL.cells {w : World} {x : Addr} {L : List Im} (h : RL w (some x) L) : ∀ j u, (flatI L)[j]? = some u → w.cell? (x.add j) = some u := by
  intro j u hu
  have hj : j < L.length * 4 := by
    rcases Nat.lt_or_ge j (L.length * 4) with h1 | h1
    · exact h1
    · rw [List.getElem?_eq_none (by rw [flatI_len]; exact h1)] at hu; cases hu
  obtain ⟨k, r, hr, rfl⟩ : ∃ k r, r < 4 ∧ j = k * 4 + r := ⟨j / 4, j % 4, by omega, by omega⟩
  obtain ⟨b, off, hx, hi⟩ := h.at_ k (by omega)
  cases hx
  have hadd : (⟨b, off, none⟩ : Addr).add (k * 4 + r) = ⟨b, off + (k * 4 + r), none⟩ := by unfold Addr.add; split <;> simp_all
  rw [hadd]
  have hg : L[k]? = some (L.getD k im0) := by simp [List.getD, show k < L.length by omega]
  obtain ⟨q0, q1, q2, q3⟩ := flatI_get L k _ hg
  rcases (by omega : r = 0 ∨ r = 1 ∨ r = 2 ∨ r = 3) with rfl | rfl | rfl | rfl
  · have := hi.c0; rw [Nat.add_zero] at hu ⊢; rw [q0] at hu; rw [← hu]; exact this
  · have := hi.c1; rw [q1] at hu; rw [← hu, ← Nat.add_assoc]; exact this
  · have := hi.c2; rw [q2] at hu; rw [← hu, ← Nat.add_assoc]; exact this
  · have := hi.c3; rw [q3] at hu; rw [← hu, ← Nat.add_assoc]; exact this
/-- What a list of items means. -/
structure ML (G : Nat → Prop) (w : World) (d : Nat) (L : List Im) (ts : List It) : Prop where
  len : L.length = ts.length
  mn : ∀ k, k < L.length → Mn G w d (L.getD k im0) (ts.getD k it0)
theorem ML.keep {G : Nat → Prop} {w w' : World} {d : Nat} {L : List Im} {ts : List It} (h : ML G w d L ts) (hk : ∀ b, G b → w'.heap[b]? = w.heap[b]?) : ML G w' d L ts := ⟨h.len, fun k hl => Mn.keep hk d _ _ (h.mn k hl)⟩
theorem ML.mono {G G' : Nat → Prop} {w : World} {d : Nat} {L : List Im} {ts : List It} (h : ML G w d L ts) (hg : ∀ b, G b → G' b) : ML G' w d L ts := ⟨h.len, fun k hl => Mn.mono hg d _ _ (h.mn k hl)⟩
theorem ML.up {G : Nat → Prop} {w : World} {d : Nat} {L : List Im} {ts : List It} (h : ML G w d L ts) : ML G w (d + 1) L ts := ⟨h.len, fun k hl => Mn.up d _ _ (h.mn k hl)⟩
theorem ML.nil (G : Nat → Prop) (w : World) (d : Nat) : ML G w d [] [] := ⟨rfl, fun k h => by simp at h⟩
theorem ML.app {G : Nat → Prop} {w : World} {d : Nat} {L M : List Im} {ts us : List It} (h : ML G w d L ts) (k : ML G w d M us) : ML G w d (L ++ M) (ts ++ us) := by
  refine ⟨by simp [h.len, k.len], fun i hi => ?_⟩
  by_cases c : i < L.length
  · have e1 : (L ++ M).getD i im0 = L.getD i im0 := by simp [List.getD, List.getElem?_append_left c]
    have e2 : (ts ++ us).getD i it0 = ts.getD i it0 := by simp [List.getD, List.getElem?_append_left (show i < ts.length by rw [← h.len]; exact c)]
    rw [e1, e2]; exact h.mn i c
  · have hl := h.len
    have e1 : (L ++ M).getD i im0 = M.getD (i - L.length) im0 := by simp [List.getD, List.getElem?_append_right (show L.length ≤ i by omega)]
    have e2 : (ts ++ us).getD i it0 = us.getD (i - L.length) it0 := by simp [List.getD, List.getElem?_append_right (show ts.length ≤ i by omega), hl]
    rw [e1, e2]; exact k.mn _ (by simp at hi; omega)
theorem ML.one {G : Nat → Prop} {w : World} {d : Nat} {x : Im} {t : It} (h : Mn G w d x t) : ML G w d [x] [t] := ⟨rfl, fun k hk => by
  have : k = 0 := by simp at hk; omega
  subst this
  exact h⟩
theorem ML.tail {G : Nat → Prop} {w : World} {d : Nat} {x : Im} {t : It} {L : List Im} {ts : List It} (h : ML G w d (x :: L) (t :: ts)) : Mn G w d x t ∧ ML G w d L ts :=
  ⟨h.mn 0 (by simp), ⟨by have := h.len; simpa using this, fun k hk => by have := h.mn (k + 1) (by simp; omega); simpa [List.getD] using this⟩⟩
/-- Two by two. -/
theorem pk_snoc : ∀ (l : List It) (k : Nat), 2 * k + 1 < l.length → pk (l.take (2 * (k + 1))) = pk (l.take (2 * k)) ++ [((l.getD (2 * k) it0).1 + (l.getD (2 * k + 1) it0).1, (l.getD (2 * k) it0).2 ++ (l.getD (2 * k + 1) it0).2)]
  | [], k, h => by simp at h
  | [_], k, h => by simp at h
  | a :: b :: r, 0, h => by simp [pk]
  | a :: b :: r, k + 1, h => by
    have ih := pk_snoc r k (by simp at h; omega)
    rw [show 2 * (k + 1 + 1) = 2 * (k + 1) + 1 + 1 by omega, show 2 * (k + 1) = 2 * k + 1 + 1 by omega]
    simp only [List.take_succ_cons, pk]
    rw [show 2 * k + 1 + 1 = 2 * (k + 1) by omega, ih, List.cons_append]
    simp [List.getD, show 2 * (k + 1) = 2 * k + 1 + 1 by omega]
theorem pk_whole (l : List It) (k : Nat) (h : ¬ 2 * k + 1 < l.length) (h2 : 2 * k ≤ l.length) : pk (l.take (2 * k)) = pk l := by
  by_cases e : l.length = 2 * k
  · rw [List.take_of_length_le (by omega)]
  · have e2 : l.length = 2 * k + 1 := by omega
    clear h h2 e
    induction k generalizing l with
    | zero =>
      match l, e2 with
      | [x], _ => rfl
    | succ k ih =>
      match l, e2 with
      | a :: b :: r, e2 =>
        have := ih r (by simp at e2; omega)
        rw [show 2 * (k + 1) = 2 * k + 1 + 1 by omega]
        simp only [List.take_succ_cons, pk, this]
end Go.Proofs.YtcifalelnfeggaaGreatDoor

namespace Go.Proofs.YtcifalelnfeggaaGreatDoor
open Go.RowKit
set_option linter.unusedVariables false

theorem own_RL {w : World} {base n cap : Nat} {e : TypeId} {b : Option Addr} {L : List Im} (h : w.ownsRow base e 4 (.slice b n cap) n (flatI L)) (hl : L.length = n) : RL w b L := by
  refine ⟨fun k hk => ?_⟩
  obtain ⟨g, c, hv, _⟩ := own_shape4 h (by omega)
  simp only [Value.slice.injEq] at hv
  obtain ⟨rfl, _, rfl⟩ := hv
  have := (own_row4 h hl).it (k := k) (by omega)
  exact ⟨g, 0, rfl, by rw [Nat.zero_add]; exact this⟩
theorem own_facts4 {w : World} {base n cap : Nat} {e : TypeId} {b : Option Addr} {xs : List Value} (h : w.ownsRow base e 4 (.slice b n cap) n xs) : n ≤ cap ∧ (b = none → cap = 0) ∧ ∀ x, b = some x → base ≤ x.block := by
  rcases h.2 with ⟨h1, h2⟩ | ⟨g, cp, cur, h1, h2, h3, h4, _⟩
  · simp only [Value.slice.injEq] at h1
    obtain ⟨rfl, _, rfl⟩ := h1
    exact ⟨by omega, (fun _ => rfl), (fun x h => by cases h)⟩
  · simp only [Value.slice.injEq] at h1
    obtain ⟨rfl, _, rfl⟩ := h1
    exact ⟨h4, (fun h => by cases h), (fun x h => by cases h; exact h2)⟩
def Gw (G : Nat → Prop) (a : Option Addr) : Nat → Prop := fun k => G k ∨ ∃ o, a = some ⟨k, o, none⟩

set_option maxRecDepth 100000 in
set_option maxHeartbeats 2000000 in
theorem packed_any (a : Option Addr) (n cap d : Nat) (L : List Im) (ts : List It) (G : Nat → Prop) (w : World) (hn : Hid (L.length = n)) (hR : RL w a L) (hM : ML G w d L ts) (hG : ∀ b, G b → b < w.heap.size) (hb : ∀ t ∈ ts, t.1 ≤ 1152921504606846976) (hl : n ≤ 100000) :
    Calls Tryz.prog 119 #[.slice a n cap] w fun e w' => ∃ b c' L', e = .returned (.slice b L'.length c') ∧ L'.length = n / 2 ∧ (L'.length ≤ c' ∧ (b = none → c' = 0)) ∧ RL w' b L' ∧ ML (Gw G a) w' (d + 1) L' (pk ts) ∧ Below w.heap.size w w' := by
  obtain ⟨i0, hi, hz0, hz1, hz2⟩ := info_parts info_item
  obtain ⟨H, hH⟩ : ∃ H, H = n / 2 := ⟨_, rfl⟩
  have rH : (n : Int).tdiv 2 = (H : Int) := by rw [Int.tdiv_eq_ediv_of_nonneg (by omega)]; omega
  have HH : Hid (H = n / 2) := hH
  have hHb : H ≤ 100000 := by omega
  obtain ⟨w1, hr, own1, gr1⟩ := run_make_own (P := Tryz.prog) w w.heap.size 154 158 i0 _ 4 Tryz.underlying154 hi hz0 hz1 .i64 .i64 H (by rw [hz2]; omega) (by unfold maxLen; omega) (Nat.le_refl _)
  have B1 : Below w.heap.size w w1 := ⟨gr1.os, gr1.tape, gr1.output, gr1.size, fun i hi => gr1.block i hi (by simp)⟩
  clear hH gr1
  go_enter Tryz.func119, Tryz.ntmps119
  go_wp2_with fail
  go_loopw [3, 4] (fun to ti wr => ∃ (k c : Nat) (b : Option Addr) (P : List Im), 2 * k ≤ n ∧ ti = .int .i64 (2 * (k : Int) + 1) ∧ to = .slice b k c ∧ Hid (P.length = k) ∧ wr.ownsRow w.heap.size 158 4 (.slice b k c) k (flatI P) ∧ Below w.heap.size w wr ∧ Hid (ML (Gw G a) wr (d + 1) P (pk (ts.take (2 * k))))) (fun _ ti _ => n + 2 - (intOf ti).toNat)
  case atStart => exact ⟨0, H, _, [], by omega, by simp, rfl, (rfl : _ = _), own1, B1, (by simpa [pk] using ML.nil _ _ _ : ML _ _ _ _ _)⟩
  case round =>
    obtain ⟨k, c, b, P, hk, rfl, rfl, HPk, OR, BR, HML⟩ := hrel
    by_cases h1 : 2 * k + 1 < n
    · have h1i : 2 * (k : Int) + 1 < (n : Int) := by omega
      obtain ⟨p, hp⟩ : ∃ p, p = 2 * k := ⟨_, rfl⟩
      obtain ⟨q, hq⟩ : ∃ q, q = 2 * k + 1 := ⟨_, rfl⟩
      obtain ⟨g, off, rfl, x⟩ := hR.at_ p (by have := hn.out; omega)
      obtain ⟨g', off', e, y⟩ := hR.at_ q (by have := hn.out; omega)
      cases e
      have x2 := x.of_block (BR.block g x.lt)
      have y2 := y.of_block (BR.block g x.lt)
      have m1 := hM.mn p (by have := hn.out; omega)
      have m2 := hM.mn q (by have := hn.out; omega)
      have hlt := hM.len
      have hb1 : (ts.getD p it0).1 ≤ 1152921504606846976 := hb _ (by have := hn.out; simp [List.getD, show p < ts.length by omega])
      have hb2 : (ts.getD q it0).1 ≤ 1152921504606846976 := hb _ (by have := hn.out; simp [List.getD, show q < ts.length by omega])
      have HPK : Hid (pk (ts.take (2 * (k + 1))) = pk (ts.take (2 * k)) ++ [((ts.getD p it0).1 + (ts.getD q it0).1, (ts.getD p it0).2 ++ (ts.getD q it0).2)]) := by
        rw [hp, hq]; exact pk_snoc ts k (by have := hn.out; omega)
      generalize ts.getD p it0 = s at *
      generalize ts.getD q it0 = u at *
      generalize L.getD p im0 = X at *
      generalize L.getD q im0 = Y at *
      have e1 := m1.wt
      have e2 := m2.wt
      obtain ⟨X0, X1, X2, X3⟩ := X
      obtain ⟨Y0, Y1, Y2, Y3⟩ := Y
      simp only at e1 e2
      subst e1 e2
      have HMN : Hid (∀ W, Below w.heap.size w W → Mn (Gw G (some ⟨g, off, none⟩)) W (d + 1) ⟨((s.1 + u.1 : Nat) : Int), 0, some ⟨g, off + p * 4, none⟩, some ⟨g, off + q * 4, none⟩⟩ (s.1 + u.1, s.2 ++ u.2)) := fun W hW => by
        refine .inr ⟨g, off + p * 4, g, off + q * 4, _, _, s, u, rfl, rfl, .inr ⟨off, rfl⟩, .inr ⟨off, rfl⟩, x.of_block (hW.block g x.lt), y.of_block (hW.block g x.lt), ?_, ?_, rfl, rfl⟩
        · exact Mn.mono (fun b hb => .inl hb) _ _ _ (Mn.keep (fun b hb => hW.block b (hG b hb)) _ _ _ m1)
        · exact Mn.mono (fun b hb => .inl hb) _ _ _ (Mn.keep (fun b hb => hW.block b (hG b hb)) _ _ _ m2)
      have HKP : Hid (∀ W, Below w.heap.size w W → ML (Gw G (some ⟨g, off, none⟩)) W (d + 1) P (pk (ts.take (2 * k)))) := fun W hW => HML.out.keep (fun b hb => by
        have hlt2 : b < w.heap.size := by
          rcases hb with hb | ⟨o, e⟩
          · exact hG b hb
          · cases e; exact x.lt
        rw [hW.block b hlt2, BR.block b hlt2])
      have xc := x2.c0
      have yc := y2.c0
      simp only at xc yc
      have r1 : 2 * (k : Int) + 1 = (q : Int) := by omega
      have r2 : (q : Int) - 1 = (p : Int) := by omega
      obtain ⟨sm, hsm⟩ : ∃ sm, sm = s.1 + u.1 := ⟨_, rfl⟩
      have r3 : (s.1 : Int) + (u.1 : Int) = (sm : Int) := by omega
      have HSM : Hid (sm = s.1 + u.1) := hsm
      have HQ : Hid (q = 2 * k + 1 ∧ p = 2 * k) := ⟨hq, hp⟩
      have z1 : (p : Int) < (n : Int) := by omega
      have z2 : (q : Int) < (n : Int) := by omega
      have z3 : (0 : Int) ≤ (p : Int) := by omega
      have z4 : (0 : Int) ≤ (q : Int) := by omega
      have zs : sm ≤ 2305843009213693952 := by omega
      rw [r1]
      clear hsm hq hp x y x2 y2 m1 m2 HML h1i r1
      go_wp2_with fail
      go_region
      have OR1 : wr.drew.ownsRow w.heap.size 158 4 (.slice b k c) k (flatI P) := OR
      have BR1 : Below w.heap.size w wr.drew := BR.drew
      have xc1 : wr.drew.cell? ⟨g, off + p * 4, none⟩ = some (.int .i64 (s.1 : Int)) := xc
      have yc1 : wr.drew.cell? ⟨g, off + q * 4, none⟩ = some (.int .i64 (u.1 : Int)) := yc
      clear OR BR xc yc
      generalize wr.drew = w2 at *
      have hw2s := BR1.size
      have hwp : IntKind.i64.wrap (sm : Int) = (sm : Int) := IntWalk.i64_in _ (by omega)
      go_wp2_with fail
      go_region_law
        (refine step_append_lies _ (by rfl) _ _ _ (by rfl) w.heap.size 158 i0 _ 4 32 Tryz.underlying154 hi hz0 hz1 hz2 rfl (by omega) (.slice b k c) k (flatI P) (by rfl) ((OR1.alloc _).drew)
            ⟨w2.heap.size, 0, none⟩ 1 1 [.int .i64 (sm : Int), .int .i64 0, .pointer (some ⟨g, off + p * 4, none⟩), .pointer (some ⟨g, off + q * 4, none⟩)] (by rfl) (by rfl) (World.news_of_block (cs := #[.int .i64 (sm : Int), .int .i64 0, .pointer (some ⟨g, off + p * 4, none⟩), .pointer (some ⟨g, off + q * 4, none⟩)]) (t := 158) (fr := (0, 0)) (heap_alloc_new w2 _)) (by simp [Value.oneCell'])
            (by omega) (by unfold maxLen; omega) (by omega) (by simp; omega) (w2.heap.size + 1) (by simp) ?_; intro gg cap2 w3 hown2 hgrow hat hlt2)
      all_goals
        have BA : Below w.heap.size w (w2.alloc (.cells #[.int .i64 (sm : Int), .int .i64 0, .pointer (some ⟨g, off + p * 4, none⟩), .pointer (some ⟨g, off + q * 4, none⟩)] 158)).drew := (BR1.alloc hw2s _).drew
        have B3 : Below w.heap.size w w3 := BA.trans ((Below.refl _ _).grown hgrow BA.size (fun j hj => (OR1.lt j hj).1))
        have OR3 : w3.ownsRow w.heap.size 158 4 (.slice (some ⟨gg, 0, none⟩) (k + 1) cap2) (k + 1) (flatI (P ++ [⟨(sm : Int), 0, some ⟨g, off + p * 4, none⟩, some ⟨g, off + q * 4, none⟩⟩])) := by
          rw [flatI_app]; exact hown2
        have HM3 : Hid (ML (Gw G (some ⟨g, off, none⟩)) w3 (d + 1) (P ++ [⟨(sm : Int), 0, some ⟨g, off + p * 4, none⟩, some ⟨g, off + q * 4, none⟩⟩]) (pk (ts.take (2 * (k + 1))))) := by
          rw [HPK.out, HSM.out]
          exact (HKP.out w3 B3).app (ML.one (HMN.out w3 B3))
        have HPL : Hid ((P ++ [(⟨(sm : Int), 0, some ⟨g, off + p * 4, none⟩, some ⟨g, off + q * 4, none⟩⟩ : Im)]).length = k + 1) := by
          have h9 := HPk.out
          show _ = _
          rw [List.length_append, h9]; rfl
        clear hown2 hgrow hat hlt2 BA OR1 BR1 HKP HMN
        go_wp2
        go_roundw
        case rel => exact ⟨k + 1, cap2, some ⟨gg, 0, none⟩, P ++ [⟨(sm : Int), 0, some ⟨g, off + p * 4, none⟩, some ⟨g, off + q * 4, none⟩⟩], by omega, by have := HQ.out.1; congr 1; omega, rfl, HPL, OR3, B3, HM3⟩
        case measure => have := HQ.out.1; simp [intOf]; omega
    · have h1i : ¬ 2 * (k : Int) + 1 < (n : Int) := by omega
      have hk2 : k = n / 2 := by omega
      have HK2 : Hid (k = n / 2) := hk2
      have HPW : Hid (pk (ts.take (2 * k)) = pk ts) := pk_whole ts k (by have := hM.len; have := hn.out; omega) (by have := hM.len; have := hn.out; omega)
      clear hk2
      go_wp2
      go_ret
      have hPk := HPk.out
      have hml := HML.out
      rw [HPW.out] at hml
      exact ⟨b, c, P, by rw [hPk]; rfl, by rw [hPk]; exact HK2.out, (by have := own_facts4 OR; rw [hPk]; exact ⟨this.1, this.2.1⟩), own_RL OR hPk, hml, BR⟩
end Go.Proofs.YtcifalelnfeggaaGreatDoor

namespace Go.Proofs.YtcifalelnfeggaaGreatDoor
open Go.RowKit
set_option linter.unusedVariables false

/-- Items that lie somewhere (or none), behind a row of the call's own. -/
theorem wpList_app4o {P : Program} {ops : Array Oper} {rest : List Oper} {o : Oper} {a : Act} {Q : Exit → Act → World → Prop} (hgd : o.guard = none) (s x : Operand) (t : TypeId)
    (ho : o.op = .call { callee := .builtin .append, args := #[s, x], argTypes := #[t, t] })
    (base : Nat) (e : TypeId) (i : TypeInfo) (z : Value) (bytes : Nat) (ht : P.underlying t = some (.slice e)) (hi : P.info? e = some i) (hz : i.zero = some z)
    (hsize : i.size = 4) (hby : i.bytes = bytes) (hzs : z.cells.size = 4)
    {w : World} {ra : Option Addr} {n rc : Nat} {l : List Im} (hown : w.ownsRow base e 4 (.slice ra n rc) n (flatI l)) {ad : Option Addr} {m cap : Nat} {r : List Im} (hl : Hid (r.length = m)) (hr : RL w ad r) (hnil : ad = none → cap = 0)
    (hs : a.eval s = .slice ra n rc) (hx : a.eval x = .slice ad m cap)
    (h63 : n + m ≤ 140737488355328) (hbytes : (n + m) * bytes ≤ 140737488355328) (hbase : base ≤ w.heap.size)
    (h : ∀ (b : Option Addr) (c : Nat) (w' : World), w'.ownsRow base e 4 (.slice b (n + m) c) (n + m) (flatI (l ++ r)) → Below base w w' → wpList P ops Q rest (a.put o.dst (.slice b (n + m) c)) w') : wpList P ops Q (o :: rest) a w := by
  cases ad with
  | none =>
    have hz : r = [] := by
      cases r with
      | nil => rfl
      | cons z r => obtain ⟨b, off, hx, _⟩ := hr.at_ 0 (by simp); cases hx
    subst hz
    have hm0 : m = 0 := by have := hl.out; simpa using this.symm
    subst hm0
    rw [hnil rfl] at hx
    refine wpList_append_own_none hgd s x t ho base e i 4 ht hi _ n (flatI l) hs hown hx ?_
    have := h ra rc w (by simpa using hown) (Below.refl _ _)
    simpa using this
  | some ad =>
    exact wpList_app4 hgd s x t ho base e i z bytes ht hi hz hsize hby hzs hown hl.out hr.cells hs hx h63 hbytes hbase (fun b c w' h1 _ h3 => h b c w' h1 h3)

set_option maxRecDepth 100000 in
set_option maxHeartbeats 2000000 in
theorem merged_any (a b : Option Addr) (n m ca cb d : Nat) (L M : List Im) (ts us : List It) (G : Nat → Prop) (w : World) (hn : Hid (L.length = n)) (hm : Hid (M.length = m)) (hR : RL w a L) (hS : RL w b M) (hL : ML G w d L ts) (hM : ML G w d M us)
    (hG : ∀ k, G k → k < w.heap.size) (hl : n ≤ 100000) (hl2 : m ≤ 100000) (hca : n ≤ ca) (hcb : m ≤ cb) (hna : a = none → ca = 0) (hnb : b = none → cb = 0) :
    Calls Tryz.prog 118 #[.slice a n ca, .slice b m cb] w fun e w' => ∃ b' c' R, e = .returned (.slice b' R.length c') ∧ R.length = n + m ∧ R.length ≤ c' ∧ (b' = none → c' = 0) ∧ RL w' b' R ∧ (∀ x, b' = some x → w.heap.size ≤ x.block) ∧ ML G w' d R (List.merge ts us leI) ∧ Below w.heap.size w w' := by
  obtain ⟨i0, hi, hz0, hz1, hz2⟩ := info_parts info_item
  obtain ⟨H, hH⟩ : ∃ H, H = n + m := ⟨_, rfl⟩
  have rH : (n : Int) + (m : Int) = (H : Int) := by omega
  have HH : Hid (H = n + m) := hH
  have hHb : H ≤ 200000 := by omega
  obtain ⟨w1, hr, own1, gr1⟩ := run_make_own (P := Tryz.prog) w w.heap.size 154 158 i0 _ 4 Tryz.underlying154 hi hz0 hz1 .i64 .i64 H (by rw [hz2]; omega) (by unfold maxLen; omega) (Nat.le_refl _)
  have B1 : Below w.heap.size w w1 := ⟨gr1.os, gr1.tape, gr1.output, gr1.size, fun i hi => gr1.block i hi (by simp)⟩
  clear hH gr1
  go_enter Tryz.func118, Tryz.ntmps118
  go_wp2_with fail
  go_loopw [0, 1, 5] (fun tl tp to wr => ∃ (p q k ca cb co : Nat) (a b o : Option Addr) (L M R : List Im) (xs ys zs : List It), tl = .slice a p ca ∧ tp = .slice b q cb ∧ to = .slice o k co ∧ Hid (L.length = p) ∧ Hid (M.length = q) ∧ Hid (R.length = k) ∧ p ≤ ca ∧ q ≤ cb ∧ p ≤ 100000 ∧ q ≤ 100000 ∧ k ≤ 200000 ∧ (a = none → ca = 0) ∧ (b = none → cb = 0) ∧ RL w a L ∧ RL w b M ∧ wr.ownsRow w.heap.size 158 4 (.slice o k co) k (flatI R) ∧ Below w.heap.size w wr ∧ Hid (ML G w d L xs ∧ ML G w d M ys ∧ ML G w d R zs ∧ zs ++ List.merge xs ys leI = List.merge ts us leI ∧ k + p + q = H)) (fun tl tp _ _ => (match tl with | .slice _ p _ => p | _ => 0) + (match tp with | .slice _ q _ => q | _ => 0))
  case atStart => exact ⟨n, m, 0, ca, cb, H, a, b, _, L, M, [], ts, us, [], rfl, rfl, rfl, hn, hm, (rfl : _ = _), hca, hcb, hl, hl2, by omega, hna, hnb, hR, hS, own1, B1, (⟨hL, hM, ML.nil _ _ _, rfl, by have := HH.out; omega⟩ : _ ∧ _)⟩
  case round =>
    obtain ⟨p, q, k, ca, cb, co, a, b, o, L, M, R, xs, ys, zs, rfl, rfl, rfl, hp, hq, hk, hpa, hqb, hp5, hq5, hk5, hna, hnb, rl, rm, OR, BR, HX⟩ := hrel
    by_cases hp0 : 0 < p
    · by_cases hq0 : 0 < q
      · have hp0i : (0 : Int) < (p : Int) := by omega
        have hq0i : (0 : Int) < (q : Int) := by omega
        obtain ⟨g1, o1, rfl, x⟩ := rl.at_ 0 (by have := hp.out; omega)
        obtain ⟨g2, o2, rfl, y⟩ := rm.at_ 0 (by have := hq.out; omega)
        have x2 := x.of_block (BR.block g1 x.lt)
        have y2 := y.of_block (BR.block g2 y.lt)
        obtain ⟨X, L', rfl⟩ : ∃ X L', L = X :: L' := by
          have := hp.out
          match L, this with
          | [], h => simp at h; omega
          | X :: L', _ => exact ⟨X, L', rfl⟩
        obtain ⟨Y, M', rfl⟩ : ∃ Y M', M = Y :: M' := by
          have := hq.out
          match M, this with
          | [], h => simp at h; omega
          | Y :: M', _ => exact ⟨Y, M', rfl⟩
        obtain ⟨s, xs', rfl⟩ : ∃ s xs', xs = s :: xs' := by
          have := HX.out.1.len
          match xs, this with
          | [], h => simp at h
          | s :: xs', _ => exact ⟨s, xs', rfl⟩
        obtain ⟨u, ys', rfl⟩ : ∃ u ys', ys = u :: ys' := by
          have := HX.out.2.1.len
          match ys, this with
          | [], h => simp at h
          | u :: ys', _ => exact ⟨u, ys', rfl⟩
        obtain ⟨mx, tx⟩ := HX.out.1.tail
        obtain ⟨my, ty⟩ := HX.out.2.1.tail
        have e1 : Hid _ := mx.wt
        have e2 : Hid _ := my.wt
        have gx : (X :: L').getD 0 im0 = X := rfl
        have gy : (Y :: M').getD 0 im0 = Y := rfl
        rw [gx] at x x2
        rw [gy] at y y2
        obtain ⟨x0, x1, x2', x3⟩ := x2
        obtain ⟨y0, y1, y2', y3⟩ := y2
        simp only [Nat.zero_mul, Nat.add_zero] at x0 x1 x2' x3 y0 y1 y2' y3
        by_cases hc : X.wt ≤ Y.wt
        · skip
          go_wp2_with fail
          go_region
          have ORd : wr.drew.ownsRow w.heap.size 158 4 (.slice o k co) k (flatI R) := OR
          have BRd : Below w.heap.size w wr.drew := BR.drew
          have x0d : wr.drew.cell? ⟨g1, o1, none⟩ = some (.int .i64 X.wt) := x0
          have x1d : wr.drew.cell? ⟨g1, o1 + 1, none⟩ = some (.int .i64 X.sy) := x1
          have x2d : wr.drew.cell? ⟨g1, o1 + 2, none⟩ = some (.pointer X.fs) := x2'
          have x3d : wr.drew.cell? ⟨g1, o1 + 3, none⟩ = some (.pointer X.sn) := x3
          clear OR BR x0 x1 x2' x3 y0 y1 y2' y3
          generalize wr.drew = w2 at *
          have hbs := BRd.size
          have hp1 : (1 : Int) ≤ (p : Int) := by omega
          have hp2 : (1 : Int) ≤ (ca : Int) := by omega
          have hpa2 : (p : Int) ≤ (ca : Int) := by omega
          go_wp2_with (at_builtin; refine wpList_app4 rfl (.tmp 29) (.tmp 33) 154 rfl w.heap.size 158 i0 _ 32 Tryz.underlying154 hi hz0 hz1 hz2 rfl (ORd.alloc _) (m := 1) (r := [X]) rfl (new_cells w2 X) rfl rfl (by omega) (by omega) (by simp; omega) ?_; intro b2 c2 w3 OR2 hg2 B2)
          have B3 : Below w.heap.size w w3 := BRd.trans (((Below.refl _ _).alloc hbs _).trans B2)
          have hlen := hp.out
          have hkl := hk.out
          have HTL : Hid (L'.length = p - 1) := by show _ = _; rw [← hlen]; simp
          have HRL : Hid (RL w (if ca = 1 then some ⟨g1, o1, none⟩ else some ⟨g1, o1 + 4, none⟩) L') := by
            split
            · refine ⟨fun j hj => ?_⟩
              have := HTL.out
              omega
            · exact rl.tail
          have HNN : Hid ((if ca = 1 then some (⟨g1, o1, none⟩ : Addr) else some ⟨g1, o1 + 4, none⟩) = none → ca - 1 = 0) := by
            intro h
            split at h <;> cases h
          have HMG : Hid ((zs ++ [s]) ++ List.merge xs' (u :: ys') leI = List.merge ts us leI) := by
            have := HX.out.2.2.2.1
            rw [List.cons_merge_cons, if_pos (show leI s u = true by have := e1.out; have := e2.out; simp [leI]; omega)] at this
            show _ = _
            rw [← this]; simp
          have HRk : Hid ((R ++ [X]).length = k + 1) := by show _ = _; rw [List.length_append, hkl]; rfl
          clear hlen hkl hg2 B2 ORd
          go_roundw
          case rel => exact ⟨p - 1, q, k + 1, ca - 1, cb, c2, _, _, b2, L', Y :: M', R ++ [X], xs', u :: ys', zs ++ [s], rfl, rfl, rfl, HTL, hq, HRk, by omega, by omega, by omega, by omega, by have := HX.out.2.2.2.2; omega, HNN.out, hnb, HRL.out, rm, OR2, B3, (⟨tx, HX.out.2.1, HX.out.2.2.1.app (ML.one mx), HMG.out, by have := HX.out.2.2.2.2; omega⟩ : _ ∧ _)⟩
          case measure => simp only; omega
        · skip
          go_wp2_with fail
          go_region
          have ORd : wr.drew.ownsRow w.heap.size 158 4 (.slice o k co) k (flatI R) := OR
          have BRd : Below w.heap.size w wr.drew := BR.drew
          have x0d : wr.drew.cell? ⟨g2, o2, none⟩ = some (.int .i64 Y.wt) := y0
          have x1d : wr.drew.cell? ⟨g2, o2 + 1, none⟩ = some (.int .i64 Y.sy) := y1
          have x2d : wr.drew.cell? ⟨g2, o2 + 2, none⟩ = some (.pointer Y.fs) := y2'
          have x3d : wr.drew.cell? ⟨g2, o2 + 3, none⟩ = some (.pointer Y.sn) := y3
          clear OR BR x0 x1 x2' x3 y0 y1 y2' y3
          generalize wr.drew = w2 at *
          have hbs := BRd.size
          have hp1 : (1 : Int) ≤ (q : Int) := by omega
          have hp2 : (1 : Int) ≤ (cb : Int) := by omega
          have hpa2 : (q : Int) ≤ (cb : Int) := by omega
          go_wp2_with (at_builtin; refine wpList_app4 rfl (.tmp 37) (.tmp 41) 154 rfl w.heap.size 158 i0 _ 32 Tryz.underlying154 hi hz0 hz1 hz2 rfl (ORd.alloc _) (m := 1) (r := [Y]) rfl (new_cells w2 Y) rfl rfl (by omega) (by omega) (by simp; omega) ?_; intro b2 c2 w3 OR2 hg2 B2)
          have B3 : Below w.heap.size w w3 := BRd.trans (((Below.refl _ _).alloc hbs _).trans B2)
          have hlen := hq.out
          have hkl := hk.out
          have HTL : Hid (M'.length = q - 1) := by show _ = _; rw [← hlen]; simp
          have HRL : Hid (RL w (if cb = 1 then some ⟨g2, o2, none⟩ else some ⟨g2, o2 + 4, none⟩) M') := by
            split
            · refine ⟨fun j hj => ?_⟩
              have := HTL.out
              omega
            · exact rm.tail
          have HNN : Hid ((if cb = 1 then some (⟨g2, o2, none⟩ : Addr) else some ⟨g2, o2 + 4, none⟩) = none → cb - 1 = 0) := by
            intro h
            split at h <;> cases h
          have HMG : Hid ((zs ++ [u]) ++ List.merge (s :: xs') ys' leI = List.merge ts us leI) := by
            have := HX.out.2.2.2.1
            rw [List.cons_merge_cons, if_neg (show ¬ leI s u = true by have := e1.out; have := e2.out; simp [leI]; omega)] at this
            show _ = _
            rw [← this]; simp
          have HRk : Hid ((R ++ [Y]).length = k + 1) := by show _ = _; rw [List.length_append, hkl]; rfl
          clear hlen hkl hg2 B2 ORd
          go_roundw
          case rel => exact ⟨p, q - 1, k + 1, ca, cb - 1, c2, _, _, b2, X :: L', M', R ++ [Y], s :: xs', ys', zs ++ [u], rfl, rfl, rfl, hp, HTL, HRk, by omega, by omega, by omega, by omega, by have := HX.out.2.2.2.2; omega, hna, HNN.out, rl, HRL.out, OR2, B3, (⟨HX.out.1, ty, HX.out.2.2.1.app (ML.one my), HMG.out, by have := HX.out.2.2.2.2; omega⟩ : _ ∧ _)⟩
          case measure => simp only; omega
      · have hq0i : ¬ (0 : Int) < (q : Int) := by omega
        have hp0i : (0 : Int) < (p : Int) := by omega
        have HFIN : Hid ((zs ++ xs) ++ ys = List.merge ts us leI) := by
          obtain ⟨h1, h2, h3, h4, h5⟩ := HX.out
          show _ = _
          rw [← h4]
          have hy : ys = [] := List.eq_nil_of_length_eq_zero (by have := h2.len; have := hq.out; omega)
          rw [hy]; simp
        have rlr := rl.old (w' := wr) ⟨BR.os, BR.tape, BR.output, BR.size, BR.block⟩
        have rmr := rm.old (w' := wr) ⟨BR.os, BR.tape, BR.output, BR.size, BR.block⟩
        have hbs := BR.size
        have hsum : k + p + q = H := HX.out.2.2.2.2
        have HSUM : Hid (k + p + q = H) := hsum
        clear hsum
        go_wp2_with (first
          | (at_builtin; refine wpList_app4o rfl (.tmp 45) (.tmp 46) 154 rfl w.heap.size 158 i0 _ 32 Tryz.underlying154 hi hz0 hz1 hz2 rfl OR hp rlr hna rfl rfl (by omega) (by omega) hbs ?_; intro b2 c2 w2 OR2 B2; have rm2 := rm.old (w' := w2) (BR.trans B2); have hbs2 := (BR.trans B2).size)
          | (at_builtin; refine wpList_app4o rfl (.tmp 48) (.tmp 49) 154 rfl w.heap.size 158 i0 _ 32 Tryz.underlying154 hi hz0 hz1 hz2 rfl OR2 hq rm2 hnb rfl rfl (by omega) (by omega) hbs2 ?_; intro b3 c3 w3 OR3 B3))
        go_ret
        have BF : Below w.heap.size w w3 := BR.trans (B2.trans B3)
        have hlen : (R ++ L ++ M).length = k + p + q := by rw [List.length_append, List.length_append, hk.out, hp.out, hq.out]
        have hml := ((HX.out.2.2.1.app HX.out.1).app HX.out.2.1).keep (w' := w3) (fun b hb => BF.block b (hG b hb))
        rw [HFIN.out] at hml
        have hcap : k + p + q ≤ c3 ∧ (b3 = none → c3 = 0) ∧ ∀ x, b3 = some x → w.heap.size ≤ x.block := by
          rcases OR3.2 with ⟨h1, h2⟩ | ⟨g, cp, cur, h1, h2, h3, h4, _⟩
          · simp only [Value.slice.injEq] at h1
            obtain ⟨rfl, _, rfl⟩ := h1
            exact ⟨by omega, (fun _ => rfl), (fun x h => by cases h)⟩
          · simp only [Value.slice.injEq] at h1
            obtain ⟨rfl, _, rfl⟩ := h1
            exact ⟨h4, (fun h => by cases h), (fun x h => by cases h; exact h2)⟩
        refine ⟨b3, c3, R ++ L ++ M, by rw [hlen]; rfl, by rw [hlen, HSUM.out]; exact HH.out, by rw [hlen]; exact hcap.1, hcap.2.1, own_RL OR3 hlen, hcap.2.2, hml, BF⟩
    · have hp0i : ¬ (0 : Int) < (p : Int) := by omega
      have HFIN : Hid ((zs ++ xs) ++ ys = List.merge ts us leI) := by
        obtain ⟨h1, h2, h3, h4, h5⟩ := HX.out
        show _ = _
        rw [← h4]
        have hy : xs = [] := List.eq_nil_of_length_eq_zero (by have := h1.len; have := hp.out; omega)
        rw [hy]; simp
      have rlr := rl.old (w' := wr) ⟨BR.os, BR.tape, BR.output, BR.size, BR.block⟩
      have rmr := rm.old (w' := wr) ⟨BR.os, BR.tape, BR.output, BR.size, BR.block⟩
      have hbs := BR.size
      have hsum : k + p + q = H := HX.out.2.2.2.2
      have HSUM : Hid (k + p + q = H) := hsum
      clear hsum
      go_wp2_with (first
        | (at_builtin; refine wpList_app4o rfl (.tmp 45) (.tmp 46) 154 rfl w.heap.size 158 i0 _ 32 Tryz.underlying154 hi hz0 hz1 hz2 rfl OR hp rlr hna rfl rfl (by omega) (by omega) hbs ?_; intro b2 c2 w2 OR2 B2; have rm2 := rm.old (w' := w2) (BR.trans B2); have hbs2 := (BR.trans B2).size)
        | (at_builtin; refine wpList_app4o rfl (.tmp 48) (.tmp 49) 154 rfl w.heap.size 158 i0 _ 32 Tryz.underlying154 hi hz0 hz1 hz2 rfl OR2 hq rm2 hnb rfl rfl (by omega) (by omega) hbs2 ?_; intro b3 c3 w3 OR3 B3))
      go_ret
      have BF : Below w.heap.size w w3 := BR.trans (B2.trans B3)
      have hlen : (R ++ L ++ M).length = k + p + q := by rw [List.length_append, List.length_append, hk.out, hp.out, hq.out]
      have hml := ((HX.out.2.2.1.app HX.out.1).app HX.out.2.1).keep (w' := w3) (fun b hb => BF.block b (hG b hb))
      rw [HFIN.out] at hml
      have hcap : k + p + q ≤ c3 ∧ (b3 = none → c3 = 0) ∧ ∀ x, b3 = some x → w.heap.size ≤ x.block := by
        rcases OR3.2 with ⟨h1, h2⟩ | ⟨g, cp, cur, h1, h2, h3, h4, _⟩
        · simp only [Value.slice.injEq] at h1
          obtain ⟨rfl, _, rfl⟩ := h1
          exact ⟨by omega, (fun _ => rfl), (fun x h => by cases h)⟩
        · simp only [Value.slice.injEq] at h1
          obtain ⟨rfl, _, rfl⟩ := h1
          exact ⟨h4, (fun h => by cases h), (fun x h => by cases h; exact h2)⟩
      refine ⟨b3, c3, R ++ L ++ M, by rw [hlen]; rfl, by rw [hlen, HSUM.out]; exact HH.out, by rw [hlen]; exact hcap.1, hcap.2.1, own_RL OR3 hlen, hcap.2.2, hml, BF⟩
end Go.Proofs.YtcifalelnfeggaaGreatDoor
