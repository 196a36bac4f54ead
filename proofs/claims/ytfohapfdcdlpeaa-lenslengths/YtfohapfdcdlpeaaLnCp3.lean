
import Derived.Test.YtfohapfdcdlpeaaLnPk3
import Derived.Laws.CopyOwn
import Derived.Deep.RegionLaw
namespace Go.Proofs.Ytfohapfdcdlpeaa
open Go.RowKit
set_option linter.unusedVariables false

/-! copy within a row of the call's own, of elements of three cells: one place on. -/
theorem run_copy3 {P : Program} (w : World) (dT sT ty elem : TypeId) (g o dLen dCap : Nat) (a : Addr) (sLen sCap : Nat) (cur : Array Value) (t : TypeId) (cs : List Value)
    (hu : P.underlying dT = some (.slice elem)) (hs : (P.info? elem).map (·.size) = some 3)
    (hg : w.heap[g]? = some (.cells cur t (0, 0))) (hn : cs.length = Nat.min sLen dLen * 3)
    (hsrc : ∀ j v, cs[j]? = some v → w.cell? (a.add j) = some v) (hfit : o + cs.length ≤ cur.size) (h1 : ∀ v ∈ cs, v.oneCell' = true) :
    (Builtin.copy_ #[dT, sT] ty #[.slice (some ⟨g, o, none⟩) dLen dCap, .slice (some a) sLen sCap]).run P w =
      .ok (goInt (Nat.min sLen dLen)) (w.setRow g (cur.toList.take o ++ cs ++ cur.toList.drop (o + cs.length)).toArray) := by
  have hl := run_loadCells_list (P := P) w a cs hsrc
  have hst := run_storeCells_at P g o t cs 0 cur w hg (by simpa using hfit) h1
  cases hq : P.info? elem with
  | none => simp [hq] at hs
  | some i =>
    have hi : i.size = 3 := by simpa [hq] using hs
    simp [Builtin.copy_, run_underlying hu, Builtin.lenOf, Builtin.firstCells, sizeOf, typeInfo, hq, hi, ← hn, hl, hst]
theorem run_copy3_none {P : Program} (w : World) (dT sT ty elem : TypeId) (d a : Option Addr) (dLen dCap sLen sCap : Nat) (hu : P.underlying dT = some (.slice elem)) (hs : (P.info? elem).map (·.size) = some 3) (hn : Nat.min sLen dLen = 0) :
    (Builtin.copy_ #[dT, sT] ty #[.slice d dLen dCap, .slice a sLen sCap]).run P w = .ok (goInt 0) w := by
  cases hq : P.info? elem with
  | none => simp [hq] at hs
  | some i =>
    have hl : ∀ (x : Addr), (loadCells x 0).run P w = .ok #[] w := fun x => by simpa using run_loadCells_list (P := P) w x [] (by simp)
    cases d <;> cases a <;> simp [Builtin.copy_, run_underlying hu, Builtin.lenOf, Builtin.firstCells, sizeOf, typeInfo, hq, hn, storeCells, hl]
/-- The row behind it. -/
theorem own_splice {w : World} {base n cap g : Nat} {e : TypeId} {xs cs : List Value} {off : Nat} (h : w.ownsRow base e 3 (.slice (some ⟨g, 0, none⟩) n cap) n xs) (hf : off + cs.length ≤ xs.length) :
    ∃ cur, w.heap[g]? = some (.cells cur e (0, 0)) ∧ off + cs.length ≤ cur.size ∧ (w.setRow g (cur.toList.take off ++ cs ++ cur.toList.drop (off + cs.length)).toArray).ownsRow base e 3 (.slice (some ⟨g, 0, none⟩) n cap) n (splice xs off cs) ∧ w.grownBy (w.setRow g (cur.toList.take off ++ cs ++ cur.toList.drop (off + cs.length)).toArray) (some g) := by
  rcases h.2 with ⟨h', _⟩ | ⟨g', cap', cur, h', hb, hg, hnc, hcm, hcs, htake⟩
  · simp at h'
  · simp only [Value.slice.injEq, Option.some.injEq, Addr.mk.injEq, and_true, true_and] at h'
    obtain ⟨rfl, rfl⟩ := h'
    have hl := h.1
    have hm : n * 3 ≤ cap * 3 := Nat.mul_le_mul_right 3 hnc
    refine ⟨cur, hg, by omega, ⟨?_, .inr ⟨g, cap, _, rfl, hb, setRow_heap w g _ _ e _ hg, hnc, hcm, ?_, ?_⟩⟩, ⟨rfl, rfl, rfl, by simp [World.setRow], fun k _ hk => setRow_other w g k _ (fun e => hk (by rw [e]))⟩⟩
    · rw [length_splice _ _ _ hf]; exact hl
    · simp
      omega
    · unfold splice
      rw [← htake] at hf ⊢
      simp only [List.length_take, Array.length_toList] at hf
      have hl1 : (cur.toList.take off ++ cs).length = off + cs.length := by simp; omega
      rw [List.take_append, hl1, List.take_of_length_le (by omega), List.take_take, Nat.min_eq_left (by omega), List.drop_take, List.append_assoc]
theorem step_copy3 {P : Program} {ops : Array Oper} {o : Oper} {a : Act} {w : World} {K : Act → World → Prop} {Q : Exit → Act → World → Prop} {E : Prop} (hgd : o.guard = none) (d s : Operand) (dT sT : TypeId)
    (ho : o.op = .call { callee := .builtin .copy, args := #[d, s], argTypes := #[dT, sT] }) (elem : TypeId) (hu : P.underlying dT = some (.slice elem)) (hsz : (P.info? elem).map (·.size) = some 3)
    (dp sp : Option Addr) (dLen dCap sLen sCap : Nat) (hd : a.eval d = .slice dp dLen dCap) (hs : a.eval s = .slice sp sLen sCap)
    (g p n cap base m : Nat) (xs : List Value) (hown : w.ownsRow base elem 3 (.slice (some ⟨g, 0, none⟩) n cap) n xs) (hm : Nat.min sLen dLen = m) (hpm : p + 1 + m = n)
    (hpos : 0 < m → dp = some ⟨g, (p + 1) * 3, none⟩ ∧ sp = some ⟨g, p * 3, none⟩) (h1 : ∀ v ∈ xs, v.oneCell' = true)
    (h : ∀ w', Hid (w'.ownsRow base elem 3 (.slice (some ⟨g, 0, none⟩) n cap) n (splice xs ((p + 1) * 3) ((xs.drop (p * 3)).take (m * 3)))) → w.grownBy w' (some g) → K (a.put o.dst (goInt m)) w') :
    if Region.wanted o (yielded ops a.tmps) = true then Oper.wp P o a w K Q else E := by
  have hw : Region.wanted o (yielded ops a.tmps) = true := by simp [Region.wanted, hgd]
  rw [if_pos hw]
  have hl := hown.1
  by_cases h0 : m = 0
  · subst h0
    have hrun := run_copy3_none (P := P) w dT sT o.type elem dp sp dLen dCap sLen sCap hu hsz hm
    unfold Oper.wp
    simp [execOp, ho, resolve, invoke, builtin, hd, hs, hrun, Result.andThen]
    refine h w ?_ (World.grownBy.refl _ _)
    show World.ownsRow _ _ _ _ _ _ _
    have e : splice xs ((p + 1) * 3) ((xs.drop (p * 3)).take (0 * 3)) = xs := by simp [splice]
    rw [e]
    exact hown
  · obtain ⟨rfl, rfl⟩ := hpos (by omega)
    have hcl : ((xs.drop (p * 3)).take (m * 3)).length = m * 3 := by simp; omega
    obtain ⟨cur, hg, hfit, ho2, hg2⟩ := own_splice (off := (p + 1) * 3) (cs := (xs.drop (p * 3)).take (m * 3)) hown (by rw [hcl]; omega)
    have hrun := run_copy3 (P := P) w dT sT o.type elem g ((p + 1) * 3) dLen dCap ⟨g, p * 3, none⟩ sLen sCap cur elem ((xs.drop (p * 3)).take (m * 3)) hu hsz hg (by rw [hcl, hm]) (fun j v hj => by
      have hadd : (⟨g, p * 3, none⟩ : Addr).add j = ⟨g, p * 3 + j, none⟩ := by unfold Addr.add; split <;> simp_all
      rw [hadd]
      have hjl : j < m * 3 := by
        have := (List.getElem?_eq_some_iff.1 hj).1
        rw [hcl] at this
        exact this
      rw [List.getElem?_take, if_pos hjl, List.getElem?_drop] at hj
      have := hown.cells (g := g) rfl (p * 3 + j) v hj
      have hadd2 : (⟨g, 0, none⟩ : Addr).add (p * 3 + j) = ⟨g, p * 3 + j, none⟩ := by unfold Addr.add; split <;> simp_all
      rwa [hadd2] at this) hfit (fun v hv => h1 v (List.mem_of_mem_drop (List.mem_of_mem_take hv)))
    rw [hm] at hrun
    generalize w.setRow g (cur.toList.take ((p + 1) * 3) ++ (xs.drop (p * 3)).take (m * 3) ++ cur.toList.drop ((p + 1) * 3 + ((xs.drop (p * 3)).take (m * 3)).length)).toArray = w2 at *
    unfold Oper.wp
    simp [execOp, ho, resolve, invoke, builtin, hd, hs, hrun, Result.andThen]
    exact h _ ho2 hg2
/-- A list with one put in. -/
theorem ins_cells (N : Nat) (L : List Rm) (p : Nat) (hp : p ≤ L.length) (z : List Value) (hz : z.length = 3) (x : Rm) :
    (((splice (flatR N L ++ z) ((p + 1) * 3) (((flatR N L ++ z).drop (p * 3)).take ((L.length - p) * 3))).set (p * 3) (.int .i64 x.wt)).set (p * 3 + 1) (.bool x.lf)).set (p * 3 + 2) (.slice (some ⟨x.gc, 0, none⟩) N N) = flatR N (L.take p ++ x :: L.drop p) := by
  have e0 : flatR N L = flatR N (L.take p) ++ flatR N (L.drop p) := by rw [← flatR_app, List.take_append_drop]
  have la : (flatR N (L.take p)).length = p * 3 := by rw [flatR_len]; simp; omega
  have lb : (flatR N (L.drop p)).length = (L.length - p) * 3 := by rw [flatR_len]; simp
  have ef : flatR N (L.take p ++ x :: L.drop p) = flatR N (L.take p) ++ (x.cells N ++ flatR N (L.drop p)) := by
    rw [flatR_app]
    rfl
  rw [ef, e0]
  generalize flatR N (L.take p) = A at *
  generalize flatR N (L.drop p) = B at *
  generalize (L.length - p) * 3 = q at *
  have e1 : ((A ++ B ++ z).drop (p * 3)).take q = B := by
    rw [← la, List.append_assoc, List.drop_left, ← lb, List.take_left]
  rw [e1]
  have e2 : splice (A ++ B ++ z) ((p + 1) * 3) B = A ++ ((B ++ z).take 3 ++ B) := by
    unfold splice
    have h1 : (A ++ B ++ z).take ((p + 1) * 3) = A ++ (B ++ z).take 3 := by
      rw [List.append_assoc, show (p + 1) * 3 = A.length + 3 by omega, List.take_length_add_append]
    have h2 : (A ++ B ++ z).drop ((p + 1) * 3 + B.length) = [] := by
      apply List.drop_of_length_le
      simp only [List.length_append]
      omega
    rw [h1, h2]
    simp
  rw [e2]
  obtain ⟨u0, u1, u2, hu⟩ : ∃ u0 u1 u2, (B ++ z).take 3 = [u0, u1, u2] := by
    have hl : ((B ++ z).take 3).length = 3 := by simp; omega
    match (B ++ z).take 3, hl with
    | [a, b, c], _ => exact ⟨a, b, c, rfl⟩
  rw [hu, ← la]
  rw [List.set_append_right _ _ (by omega), Nat.sub_self, List.set_append_right _ _ (by omega), Nat.add_sub_cancel_left, List.set_append_right _ _ (by omega), Nat.add_sub_cancel_left]
  rfl
/-- Where a pair goes. -/
theorem insP_at (x : Nat × Nat) : ∀ (P : List (Nat × Nat)) (p : Nat), p ≤ P.length → (∀ j, j < p → (P.getD j (0, 0)).1 ≤ x.1) → (p = P.length ∨ x.1 < (P.getD p (0, 0)).1) → insP x P = P.take p ++ x :: P.drop p
  | [], p, h, _, _ => by
    have : p = 0 := by simpa using h
    subst this
    rfl
  | y :: r, 0, _, _, h => by
    have h1 : x.1 < y.1 := by simpa using h
    simp [insP, show ¬ y.1 ≤ x.1 by omega]
  | y :: r, p + 1, h, h2, h3 => by
    have h1 : y.1 ≤ x.1 := by simpa using h2 0 (by omega)
    have ih := insP_at x r p (by simpa using h) (fun j hj => by simpa [List.getD] using h2 (j + 1) (by omega)) (by
      rcases h3 with h3 | h3
      · exact .inl (by simpa using h3)
      · exact .inr (by simpa [List.getD] using h3))
    simp [insP, h1, ih]
theorem pairs_snoc (zs : List Int) (k : Nat) : pairs zs (k + 1) = pairs zs k ++ (if zs.getD k 0 = 0 then [] else [((zs.getD k 0).toNat, k)]) := by
  unfold pairs
  rw [List.range_succ, List.filter_append, List.map_append]
  by_cases h : zs.getD k 0 = 0
  · have hd : decide (zs.getD k 0 ≠ 0) = false := by rw [h]; rfl
    rw [if_pos h, List.filter_cons_of_neg (by rw [hd]; decide)]
    rfl
  · have hd : decide (zs.getD k 0 ≠ 0) = true := by simpa using h
    rw [if_neg h, List.filter_cons, if_pos hd]
    rfl
def LFk (zs : List Int) (k : Nat) : List (Nat × Nat) := (pairs zs k).foldl (fun l x => insP x l) []
theorem LFk_skip {zs : List Int} {k : Nat} (h : zs.getD k 0 = 0) : LFk zs (k + 1) = LFk zs k := by unfold LFk; rw [pairs_snoc, if_pos h, List.append_nil]
theorem LFk_put {zs : List Int} {k : Nat} (h : ¬ zs.getD k 0 = 0) : LFk zs (k + 1) = insP ((zs.getD k 0).toNat, k) (LFk zs k) := by unfold LFk; rw [pairs_snoc, if_neg h, List.foldl_append]; rfl
theorem unit_cnt {N i : Nat} (h : i < N) : (List.replicate N (0 : Int)).set i 1 = cnt N [i] := by
  refine cnt_eq (by simp) (fun j hj => ?_)
  by_cases e : i = j
  · subst e; simp [List.getD, h]
  · simp [List.getD, e, hj]
theorem M3.ins {N : Nat} {w : World} {L : List Rm} {ts : List It} {x : Rm} {t : It} (h : M3 N w L ts) (k : M3 N w [x] [t]) (p : Nat) : M3 N w (L.take p ++ x :: L.drop p) (ts.take p ++ t :: ts.drop p) := by
  have h2 : M3 N w (L.drop p) (ts.drop p) := by
    refine ⟨by simp [h.len], fun j hj => ?_, fun j hj => ?_⟩
    · simp at hj
      have := h.wt (p + j) (by omega)
      simpa [List.getD] using this
    · simp at hj
      have := h.seg (p + j) (by omega)
      simpa [List.getD] using this
  exact (h.take p).app (k.app h2)
end Go.Proofs.Ytfohapfdcdlpeaa
