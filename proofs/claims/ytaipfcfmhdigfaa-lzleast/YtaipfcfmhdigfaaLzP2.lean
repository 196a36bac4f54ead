
import Derived.Test.YtaipfcfmhdigfaaLzQ
import Derived.Test.YtaipfcfmhdigfaaLzM4
import Derived.Maps.OwnSet
import Derived.DeepKeys4
import Derived.WideKeyPair
namespace Go.Proofs.Ytaipfcfmhdigfaa
open Go.RowKit Go.Maps Go.WideMaps
set_option linter.unusedVariables false

/-! Maps whose keys are three bytes and that lead to places. -/
theorem row3 : (97 : TypeId) < Try.prog.types.size := of_decide_eq_true (by kernel_rfl)
theorem cells3 : Try.prog.cellsOf 97 = 3 := by kernel_rfl
theorem arr3 : ArrKey Try.prog 97 5 3 := ⟨Try.underlying97, by kernel_rfl, by kernel_rfl, cells3⟩
theorem wide3 : (match Try.prog.underlying 97 with | some (.array _ _) | some (.struct _) => true | _ => false) = true := by rw [Try.underlying97]
theorem kt3 : Try.prog.keyTypeAt 2 97 = true := by kernel_rfl
theorem tl3 : Try.prog.tiled 2 97 = true := by kernel_rfl
theorem law3 : Keyed Try.prog 97 := Keyed.of_law (deep_law (m := 2) (by omega) kt3 tl3 (by rw [Try.underlying97]))
theorem size3 : ∃ m, Try.prog.types.size = m + 1 := Nat.exists_eq_succ_of_ne_zero (Nat.pos_iff_ne_zero.mp (Nat.lt_of_le_of_lt (Nat.zero_le _) row3))
theorem zero3 (w : World) : (zeroValue 3).run Try.prog w = .ok (.int .i64 0) w := by kernel_rfl
def v3 (x y z : Int) : Value := .agg #[.int .u8 x, .int .u8 y, .int .u8 z]
def k3 (x y z : Int) : Lit := .string (keyBytes [.int .u8 x, .int .u8 y, .int .u8 z])
theorem wf8 {x : Int} (h : 0 ≤ x ∧ x ≤ 255) : (Lit.int .u8 x).wf = true := WalkArith.wf_u8 h
theorem keyOf3 {x y z : Int} (hx : 0 ≤ x ∧ x ≤ 255) (hy : 0 ≤ y ∧ y ≤ 255) (hz : 0 ≤ z ∧ z ≤ 255) : keyOf Try.prog 97 (v3 x y z) = some (k3 x y z) := by
  have A := arr3
  have hkt := A.keyType size3
  obtain ⟨m, hm⟩ := size3
  have wx := wf8 hx
  have wy := wf8 hy
  have wz := wf8 hz
  unfold keyOf v3 k3
  simp only [A.hu]
  rw [if_pos (by simp [hkt, Value.formed, A.hu, A.size]), hm]
  unfold Program.keyLits
  simp only [A.hu, Value.cells]
  rw [if_pos (by rw [A.size]; rfl), show List.range 3 = [0, 1, 2] from rfl, List.mapM_cons, List.mapM_cons, List.mapM_cons, List.mapM_nil]
  simp [A.one, Program.keyLits, Try.underlying5, wx, wy, wz]
theorem k3_inj {x y z x' y' z' : Int} (hx : 0 ≤ x ∧ x ≤ 255) (hy : 0 ≤ y ∧ y ≤ 255) (hz : 0 ≤ z ∧ z ≤ 255) (hx' : 0 ≤ x' ∧ x' ≤ 255) (hy' : 0 ≤ y' ∧ y' ≤ 255) (hz' : 0 ≤ z' ∧ z' ≤ 255) (h : k3 x y z = k3 x' y' z') : x = x' ∧ y = y' ∧ z = z' := by
  have h1 := keyOf3 hx hy hz
  have h2 := keyOf3 hx' hy' hz'
  rw [← h] at h2
  have := law3.inj h1 h2
  unfold v3 at this
  simpa using this
/-- Block m is a map that leads the bytes x, y, z to the place f x y z (-1: to none). -/
def MapK (w : World) (m c : Nat) (f : Int → Int → Int → Int) : Prop := ∃ D : DataW Unit, w.ownsMap Try.prog 97 (plainElem Try.prog 3) m c D ∧
  ∀ x y z, 0 ≤ x ∧ x ≤ 255 → 0 ≤ y ∧ y ≤ 255 → 0 ≤ z ∧ z ≤ 255 → (f x y z = -1 ∧ Maps.has D (k3 x y z) = false) ∨ (0 ≤ f x y z ∧ Maps.has D (k3 x y z) = true ∧ D.atKey (k3 x y z) (.lit (.int .i64 0)) = .lit (.int .i64 (f x y z)))
theorem MapK.lt {w : World} {m c : Nat} {f : Int → Int → Int → Int} (h : MapK w m c f) : m < w.heap.size := by
  obtain ⟨D, ho, _⟩ := h
  exact ho.lt
theorem MapK.block {w w' : World} {m c : Nat} {f : Int → Int → Int → Int} (h : MapK w m c f) (hb : w'.heap[m]? = w.heap[m]?) : MapK w' m c f := by
  obtain ⟨D, ⟨es, clock, h1, h2⟩, h3⟩ := h
  exact ⟨D, ⟨es, clock, hb.trans h1, h2⟩, h3⟩
theorem MapK.made (w : World) : MapK (w.alloc (.map #[] 0)) w.heap.size 0 (fun _ _ _ => -1) :=
  ⟨_, World.ownsMap_made _ _ _ _, fun x y z _ _ _ => .inl ⟨rfl, rfl⟩⟩
theorem MapK.look {w : World} {m c : Nat} {f : Int → Int → Int → Int} (h : MapK w m c f) {x y z : Int} (hx : 0 ≤ x ∧ x ≤ 255) (hy : 0 ≤ y ∧ y ≤ 255) (hz : 0 ≤ z ∧ z ≤ 255) :
    ∃ v ok, (Instr.lookup 92 (.map (some m)) (.agg #[.int .u8 x, .int .u8 y, .int .u8 z]) true).run Try.prog w = .ok (.tuple #[.int .i64 v, .bool ok]) w ∧ ((ok = true ∧ v = f x y z ∧ 0 ≤ v) ∨ (ok = false ∧ f x y z = -1)) := by
  obtain ⟨D, ho, hD⟩ := h
  obtain ⟨v, ps, hr, hv⟩ := ho.look_ok law3 Try.underlying92 (zero3 w) (plainElem_int Try.underlying3 (by decide)) (keyOf3 hx hy hz)
  obtain ⟨c', rfl, hc, _⟩ := plainElem_int_inv Try.underlying3 hv
  simp only [Prod.mk.injEq] at hc
  refine ⟨c', _, hr, ?_⟩
  rcases hD x y z hx hy hz with ⟨h1, h2⟩ | ⟨h1, h2, h3⟩
  · exact .inr ⟨h2, h1⟩
  · rw [hc.1] at h3
    injection h3 with h3
    injection h3 with _ h3
    exact .inl ⟨h2, h3, by omega⟩
theorem MapK.store {w : World} {m c : Nat} {f : Int → Int → Int → Int} (h : MapK w m c f) (hc : c < maxLen) {x y z : Int} (hx : 0 ≤ x ∧ x ≤ 255) (hy : 0 ≤ y ∧ y ≤ 255) (hz : 0 ≤ z ∧ z ≤ 255) (p : Nat) (hp : p ≤ 1152921504606846976) :
    ∃ w', (Instr.mapUpdate 92 (.map (some m)) (.agg #[.int .u8 x, .int .u8 y, .int .u8 z]) (.int .i64 (p : Int))).run Try.prog w = .ok () w' ∧ MapK w' m (c + 1) (fun x' y' z' => if x' = x ∧ y' = y ∧ z' = z then (p : Int) else f x' y' z') ∧ w.grownBy w' (some m) := by
  obtain ⟨D, ho, hD⟩ := h
  have hm := ho.isMap
  have hwp : (Lit.int .i64 (p : Int)).wf = true := WalkArith.wf_i64 (by omega)
  obtain ⟨w', hr, ho', hg⟩ := ho.update law3 Try.underlying92 hc (keyOf3 hx hy hz) (plainElem_int Try.underlying3 hwp)
  refine ⟨w', hr, ⟨_, ho', fun x' y' z' hx' hy' hz' => ?_⟩, hg⟩
  dsimp only
  by_cases e : x' = x ∧ y' = y ∧ z' = z
  · obtain ⟨rfl, rfl, rfl⟩ := e
    rw [if_pos ⟨rfl, rfl, rfl⟩]
    exact .inr ⟨by omega, has_put_same hm (law3.key (keyOf3 hx hy hz)) _, atKey_put_same hm (law3.key (keyOf3 hx hy hz)) _ _⟩
  · rw [if_neg e]
    have hne : k3 x' y' z' ≠ k3 x y z := fun h => e (k3_inj hx' hy' hz' hx hy hz h)
    rw [has_put_other hne, atKey_put_other hne]
    exact hD x' y' z' hx' hy' hz'
end Go.Proofs.Ytaipfcfmhdigfaa
