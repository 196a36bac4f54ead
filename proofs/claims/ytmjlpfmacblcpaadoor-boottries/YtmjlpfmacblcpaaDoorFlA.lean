import Derived.Test.YtmjlpfmacblcpaaDoorBtMem
import Derived.Test.YtmjlpfmacblcpaaDoorEdK
import Derived.Maps.OwnSet
import Derived.DeepKeys4
import Derived.WideKeyPair
import Derived.Laws.Rows
namespace Go.Proofs.YtmjlpfmacblcpaaDoor
open Go.RowKit Go.Maps Go.WideMaps
set_option linter.unusedVariables false
set_option maxRecDepth 100000
theorem kt21 : Tryd.prog.keyTypeAt 2 98 = true := by kernel_rfl
theorem tl21 : Tryd.prog.tiled 2 98 = true := by kernel_rfl
theorem law21 : Keyed Tryd.prog 98 := Keyed.of_law (deep_law (m := 2) (by omega) kt21 tl21 (by rw [Tryd.underlying98]))
theorem row21 : (98 : TypeId) < Tryd.prog.types.size := of_decide_eq_true (by kernel_rfl)
theorem size21 : ∃ m, Tryd.prog.types.size = m + 1 := Nat.exists_eq_succ_of_ne_zero (Nat.pos_iff_ne_zero.mp (Nat.lt_of_le_of_lt (Nat.zero_le _) row21))
theorem cells21 : Tryd.prog.cellsOf 98 = 2 := by kernel_rfl
theorem cellsI21 : Tryd.prog.cellsOf 3 = 1 := by kernel_rfl
theorem ktp21 : Tryd.prog.keyType 98 = true := by kernel_rfl
def In21 (x : Int) : Prop := -9223372036854775808 ≤ x ∧ x ≤ 9223372036854775807
def k21 (x y : Int) : Lit := .string (keyBytes [.int .i64 x, .int .i64 y])
theorem keyOf21 {x y : Int} (hx : In21 x) (hy : In21 y) : keyOf Tryd.prog 98 (.agg #[.int .i64 x, .int .i64 y]) = some (k21 x y) := by
  obtain ⟨m, hm⟩ := size21
  have wx : (Lit.int .i64 x).wf = true := WalkArith.wf_i64 hx
  have wy : (Lit.int .i64 y).wf = true := WalkArith.wf_i64 hy
  unfold keyOf k21
  simp only [Tryd.underlying98]
  rw [if_pos (by simp [ktp21, Value.formed, Tryd.underlying98, cells21]), hm]
  unfold Program.keyLits
  simp only [Tryd.underlying98, Value.cells]
  rw [if_pos (by rw [cells21]; simp)]
  simp [cellsI21, Program.keyLits, Tryd.underlying3, wx, wy]
theorem k21_inj {x y x' y' : Int} (hx : In21 x) (hy : In21 y) (hx' : In21 x') (hy' : In21 y') (h : k21 x y = k21 x' y') : x = x' ∧ y = y' := by
  have h1 := keyOf21 hx hy
  have h2 := keyOf21 hx' hy'
  rw [← h] at h2
  have := law21.inj h1 h2
  simpa using this
def rd21 (v : Value) : Option (DataW Value × List MemPlace) := some (.held v, [])
/-- Block m is a map that leads the place x, y to the value f x y. -/
def Mv21 (w : World) (m c : Nat) (f : Int → Int → Option Value) : Prop := ∃ D : DataW Value, w.ownsMap Tryd.prog 98 rd21 m c D ∧
  ∀ x y, In21 x → In21 y → (f x y = none ∧ Maps.has D (k21 x y) = false) ∨ (∃ v, f x y = some v ∧ Maps.has D (k21 x y) = true ∧ ∀ d, D.atKey (k21 x y) d = .held v)
theorem Mv21.lt {w : World} {m c : Nat} {f : Int → Int → Option Value} (h : Mv21 w m c f) : m < w.heap.size := by
  obtain ⟨D, ho, _⟩ := h
  exact ho.lt
theorem Mv21.block {w w' : World} {m c : Nat} {f : Int → Int → Option Value} (h : Mv21 w m c f) (hb : w'.heap[m]? = w.heap[m]?) : Mv21 w' m c f := by
  obtain ⟨D, ⟨es, clock, h1, h2⟩, h3⟩ := h
  exact ⟨D, ⟨es, clock, hb.trans h1, h2⟩, h3⟩
theorem Mv21.no {w : World} {m c : Nat} {f : Int → Int → Option Value} (h : Mv21 w m c f) {cs : Array Value} {t : TypeId} {p : Nat × Nat} : w.heap[m]? ≠ some (.cells cs t p) := by
  obtain ⟨D, ⟨es, clock, h1, h2⟩, h3⟩ := h
  rw [h1]; simp
theorem Mv21.store {w : World} {m c : Nat} {f : Int → Int → Option Value} (h : Mv21 w m c f) (hc : c < maxLen) {x y : Int} (hx : In21 x) (hy : In21 y) (v : Value) :
    ∃ w', (Instr.mapUpdate 91 (.map (some m)) (.agg #[.int .i64 x, .int .i64 y]) v).run Tryd.prog w = .ok () w' ∧ Mv21 w' m (c + 1) (fun x' y' => if x' = x ∧ y' = y then some v else f x' y') ∧ w.grownBy w' (some m) := by
  obtain ⟨D, ho, hD⟩ := h
  have hm := ho.isMap
  obtain ⟨w', hr, ho', hg⟩ := ho.update (d := .held v) (ps := []) law21 Tryd.underlying91 hc (keyOf21 hx hy) rfl
  refine ⟨w', hr, ⟨_, ho', fun x' y' hx' hy' => ?_⟩, hg⟩
  dsimp only
  by_cases e : x' = x ∧ y' = y
  · obtain ⟨rfl, rfl⟩ := e
    rw [if_pos ⟨rfl, rfl⟩]
    exact .inr ⟨v, rfl, has_put_same hm (law21.key (keyOf21 hx hy)) _, fun d => atKey_put_same hm (law21.key (keyOf21 hx hy)) _ _⟩
  · rw [if_neg e]
    have hne : k21 x' y' ≠ k21 x y := fun h => e (k21_inj hx' hy' hx hy h)
    rw [has_put_other hne]
    rcases hD x' y' hx' hy' with h1 | ⟨u, h1, h2, h3⟩
    · exact .inl h1
    · exact .inr ⟨u, h1, h2, fun d => by rw [atKey_put_other hne, h3]⟩
end Go.Proofs.YtmjlpfmacblcpaaDoor
