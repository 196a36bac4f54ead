import Derived.Test.YtcifalelnfeggaaGreatDoorRows
import Derived.Test.YtcifalelnfeggaaGreatDoorPa
import Derived.WalkKit
import Derived.ProofKit
import Derived.OpenShut
import Derived.Deep.DeepHandedRow
import Derived.Lib.LaidTab
import Derived.LaidSub
namespace Go.Proofs.YtcifalelnfeggaaGreatDoor
open Go.ChangeShapes Go.WideShapes Go.ChangeAt Go.RowKit
set_option linter.unusedVariables false

theorem gSns : Tryz.prog.globalNamed "sapper/head.senses" = some 0 := by kernel_rfl
theorem gSnsType : (Tryz.prog.globals[0]?).map (·.type) = some 214 := by kernel_rfl
theorem gOrd : Tryz.prog.globalNamed "sapper/head.order" = some 1 := by kernel_rfl
theorem gOrdType : (Tryz.prog.globals[1]?).map (·.type) = some 215 := by kernel_rfl
theorem cellsSns : Tryz.prog.cellsOf 214 = 57 := by kernel_rfl
theorem cellsSense : Tryz.prog.cellsOf 213 = 3 := by kernel_rfl
theorem cellsOrd : Tryz.prog.cellsOf 215 = 19 := by kernel_rfl
theorem cellsInt8 : Tryz.prog.cellsOf 3 = 1 := by kernel_rfl

/-- A table of rows of three numbers as a row of the statements lists it. -/
def rowsData {H : Type} (l : List (Int × Int × Int)) : DataW H := .agg (l.map fun r => .agg [.lit (.int .i64 r.1), .lit (.int .i64 r.2.1), .lit (.int .i64 r.2.2)])
def flat3 (l : List (Int × Int × Int)) : List Value := l.flatMap fun r => [.int .i64 r.1, .int .i64 r.2.1, .int .i64 r.2.2]
theorem flat3_get : ∀ (l : List (Int × Int × Int)) (k j : Nat) (x : Int × Int × Int), l[k]? = some x → j < 3 → (flat3 l)[k * 3 + j]? = ([.int .i64 x.1, .int .i64 x.2.1, .int .i64 x.2.2] : List Value)[j]?
  | [], k, j, x, h, _ => by simp at h
  | t :: r, 0, j, x, h, hj => by
    simp at h
    subst h
    have e : flat3 (t :: r) = [.int .i64 t.1, .int .i64 t.2.1, .int .i64 t.2.2] ++ flat3 r := rfl
    rw [e, Nat.zero_mul, Nat.zero_add, List.getElem?_append_left (by simpa using hj)]
  | t :: r, k + 1, j, x, h, hj => by
    have := flat3_get r k j x (by simpa using h) hj
    have e : flat3 (t :: r) = [.int .i64 t.1, .int .i64 t.2.1, .int .i64 t.2.2] ++ flat3 r := rfl
    rw [e, List.getElem?_append_right (by simp; omega), show (k + 1) * 3 + j - ([.int .i64 t.1, .int .i64 t.2.1, .int .i64 t.2.2] : List Value).length = k * 3 + j by simp; omega]
    exact this
theorem flat3_len : ∀ l : List (Int × Int × Int), (flat3 l).length = l.length * 3
  | [] => rfl
  | t :: r => by
    have e : flat3 (t :: r) = [.int .i64 t.1, .int .i64 t.2.1, .int .i64 t.2.2] ++ flat3 r := rfl
    rw [e, List.length_append, flat3_len r, List.length_cons]
    simp
    omega
/-- Three numbers that read as a row of the table. -/
theorem cells_of_three {H : Type} {enc : TypeId × Value → H} {P : Program} {w : World} {base : Nat} {sp : Nat → Bool} {held : Bool} {fuel : Nat} {t e : TypeId} {fs : Array Field} {cs : List Value} {a b c : Int} {p : List MemPlace}
    (ht : P.underlying t = some (.struct fs)) (hf : fs.toList.map (fun f => (f.type, f.offset)) = [(e, 0), (e, 1), (e, 2)]) (he : P.underlying e = some (.int .i64)) (hce : P.cellsOf e = 1) (hct : P.cellsOf t = 3)
    (h : DataW.trod enc P w base sp held fuel t cs = some (.agg [.lit (.int .i64 a), .lit (.int .i64 b), .lit (.int .i64 c)], p)) : cs = [.int .i64 a, .int .i64 b, .int .i64 c] := by
  cases fuel with
  | zero => simp [DataW.trod] at h
  | succ fuel =>
    simp only [DataW.trod, ht, hct] at h
    split at h
    · rename_i hl
      obtain ⟨xs, hm, hx⟩ := Option.map_eq_some_iff.1 h
      have hxs : xs.map (·.1) = [.lit (.int .i64 a), .lit (.int .i64 b), .lit (.int .i64 c)] := by
        have := congrArg Prod.fst hx
        simpa using this
      have key : ∀ (i : Nat) (z : Int), i < 3 → ([a, b, c] : List Int)[i]? = some z → cs[i]? = some (.int .i64 z) := by
        intro i z hi hz
        have hfi : ∃ f, fs.toList[i]? = some f ∧ f.type = e ∧ f.offset = i := by
          have h1 := congrArg (·[i]?) hf
          simp only [List.getElem?_map] at h1
          rcases i with _ | _ | _ | i
          · obtain ⟨f, e1, e2⟩ := Option.map_eq_some_iff.1 h1
            simp only [Prod.mk.injEq] at e2
            exact ⟨f, e1, e2.1, e2.2⟩
          · obtain ⟨f, e1, e2⟩ := Option.map_eq_some_iff.1 h1
            simp only [Prod.mk.injEq] at e2
            exact ⟨f, e1, e2.1, e2.2⟩
          · obtain ⟨f, e1, e2⟩ := Option.map_eq_some_iff.1 h1
            simp only [Prod.mk.injEq] at e2
            exact ⟨f, e1, e2.1, e2.2⟩
          · omega
        obtain ⟨f, hf1, hf2, hf3⟩ := hfi
        obtain ⟨y, hy, hfy⟩ := Lib.mapM_at hm i f hf1
        rw [hf2, hf3, hce] at hfy
        obtain ⟨z', hc, hyz, _⟩ := DataW.trod_int he hfy
        have h1 : cs[i]? = some (.int .i64 z') := by
          have := congrArg (·[0]?) hc
          simpa [List.getElem?_take, List.getElem?_drop] using this
        have h2 : (xs.map (·.1))[i]? = some (DataW.lit (.int .i64 z') : DataW H) := by simp [hy, hyz]
        rw [hxs] at h2
        rw [h1]
        rcases i with _ | _ | _ | i
        · simp at h2 hz; rw [← h2, hz]
        · simp at h2 hz; rw [← h2, hz]
        · simp at h2 hz; rw [← h2, hz]
        · omega
      apply List.ext_getElem?
      intro i
      rcases i with _ | _ | _ | i
      · rw [key 0 a (by omega) rfl]; rfl
      · rw [key 1 b (by omega) rfl]; rfl
      · rw [key 2 c (by omega) rfl]; rfl
      · rw [List.getElem?_eq_none (by omega), List.getElem?_eq_none (by simp)]
    · cases h
theorem cells_of_rows {H : Type} {enc : TypeId × Value → H} {P : Program} {w : World} {base : Nat} {sp : Nat → Bool} {held : Bool} {fuel : Nat} {t u e : TypeId} {n : Nat} {fs : Array Field} {cs : List Value} {l : List (Int × Int × Int)} {p : List MemPlace}
    (ht : P.underlying t = some (.array n u)) (hu : P.underlying u = some (.struct fs)) (hf : fs.toList.map (fun f => (f.type, f.offset)) = [(e, 0), (e, 1), (e, 2)]) (he : P.underlying e = some (.int .i64)) (hce : P.cellsOf e = 1) (hcu : P.cellsOf u = 3) (hct : P.cellsOf t = n * 3)
    (h : DataW.trod enc P w base sp held fuel t cs = some (rowsData l, p)) : cs = flat3 l := by
  cases fuel with
  | zero => simp [DataW.trod] at h
  | succ fuel =>
    simp only [DataW.trod, ht, hct, hcu] at h
    split at h
    · rename_i hl
      obtain ⟨xs, hm, hx⟩ := Option.map_eq_some_iff.1 h
      have hxs : xs.map (·.1) = l.map fun r => (.agg [.lit (.int .i64 r.1), .lit (.int .i64 r.2.1), .lit (.int .i64 r.2.2)] : DataW H) := by
        have := congrArg Prod.fst hx
        simpa [rowsData] using this
      have hxl : xs.length = n := by simpa using Lib.mapM_length hm
      have hzl : l.length = n := by
        have := congrArg List.length hxs
        simp at this
        omega
      apply List.ext_getElem?
      intro q
      by_cases hq : q < n * 3
      · obtain ⟨i, j, hj, rfl⟩ : ∃ i j, j < 3 ∧ q = i * 3 + j := ⟨q / 3, q % 3, by omega, by omega⟩
        have hi : i < n := by omega
        obtain ⟨y, hy, hfy⟩ := Lib.mapM_at hm i i (by simp [hi])
        obtain ⟨r, hr⟩ : ∃ r, l[i]? = some r := ⟨l[i]'(by omega), by simp [show i < l.length by omega]⟩
        have hy1 : y.1 = .agg [.lit (.int .i64 r.1), .lit (.int .i64 r.2.1), .lit (.int .i64 r.2.2)] := by
          have h2 : (xs.map (·.1))[i]? = some y.1 := by simp [hy]
          rw [hxs] at h2
          simp [hr] at h2
          exact h2.symm
        obtain ⟨y1, y2⟩ := y
        simp only at hy1
        subst hy1
        have hc := cells_of_three hu hf he hce hcu hfy
        rw [flat3_get l i j r hr hj, ← hc, List.getElem?_take, if_pos hj, List.getElem?_drop]
      · rw [List.getElem?_eq_none (by omega), List.getElem?_eq_none (by rw [flat3_len]; omega)]
    · cases h
def snsR : List (Int × Int × Int) := [(0, 1, 0), (1, 1, 0), (2, 1, 0), (3, 1, 0), (4, 1, 0), (5, 1, 0), (6, 1, 0), (7, 1, 0), (8, 1, 0), (9, 1, 0), (10, 1, 0), (11, 1, 0), (12, 1, 0), (13, 1, 0), (14, 1, 0), (15, 1, 0), (-1, 3, 2), (0, 3, 3), (0, 11, 7)]
theorem flat3_sns : flat3 snsR = snsL.map (Value.int .i64) := rfl
theorem sense_struct : ∃ fs, Tryz.prog.underlying 213 = some (.struct fs) ∧ fs.toList.map (fun f => (f.type, f.offset)) = [(3, 0), (3, 1), (3, 2)] := ⟨_, Tryz.underlying213, rfl⟩
theorem tabS_of {W : World} {rest : List (String × DataW Unit)} (h : laidMet Tryz.prog (("sapper/head.senses", Rows.laid_sapper_head_senses) :: rest) W) : TabS W := by
  obtain ⟨ps, ⟨g', t', cs, fuel, p, q, hg', ht', hvar, hd, _, _⟩, _⟩ := h
  obtain rfl := Option.some.inj (gSns.symm.trans hg')
  obtain rfl := Option.some.inj (gSnsType.symm.trans ht')
  obtain ⟨fs, hs, hf⟩ := sense_struct
  have hd' : DataW.trod _ Tryz.prog W _ _ _ fuel 214 cs.toList = some (rowsData snsR, p) := hd
  have hc := cells_of_rows (n := 19) Tryz.underlying214 hs hf Tryz.underlying3 cellsInt8 cellsSense cellsSns hd'
  rw [flat3_sns] at hc
  have hcs : cs = (snsL.map (Value.int .i64)).toArray := by rw [← hc]
  rw [hcs] at hvar
  refine ⟨fun i hi => ⟨0, 0, rfl, ?_⟩, getD_bdz (by decide)⟩
  have := World.var?_cell gSns hvar i
  rw [Nat.zero_add]
  simpa [List.getD, hi] using this
theorem tabO_of {W : World} {rest : List (String × DataW Unit)} (h : laidMet Tryz.prog (("sapper/head.order", Rows.laid_sapper_head_order) :: rest) W) : TabO W := by
  have ht : Lib.TabIs Tryz.prog W "sapper/head.order" .i64 ordL :=
    Lib.tabIs_of_head (rest := rest) gOrd gOrdType Tryz.underlying215 Tryz.underlying3 cellsInt8 cellsOrd h
  refine ⟨fun i hi => ⟨1, 0, rfl, ?_⟩, getD_bdz (by decide)⟩
  rw [Nat.zero_add]
  exact ht.cell gOrd i hi
theorem tabB_of {W : World} (h : laidMetH Tryz.prog [("sapper/head.senses", Rows.laid_sapper_head_senses), ("sapper/head.order", Rows.laid_sapper_head_order)] W) : TabS W ∧ TabO W := by
  have h' : laidMet Tryz.prog [("sapper/head.senses", Rows.laid_sapper_head_senses), ("sapper/head.order", Rows.laid_sapper_head_order)] W := h
  have h2 : laidMet Tryz.prog [("sapper/head.order", Rows.laid_sapper_head_order)] W := laidMet.filter (fun x => x.1 == "sapper/head.order") h'
  exact ⟨tabS_of h', tabO_of h2⟩
end Go.Proofs.YtcifalelnfeggaaGreatDoor
