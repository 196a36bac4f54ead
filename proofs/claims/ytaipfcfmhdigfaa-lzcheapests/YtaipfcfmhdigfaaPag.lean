import Derived.Test.YtaipfcfmhdigfaaPac
import Derived.Test.YtaipfcfmhdigfaaPaf
import Derived.Maps.OwnSet
import Derived.DeepKeys4
import Derived.WideKeyPair
import Derived.Laws.Rows
namespace Go.Proofs.Ytaipfcfmhdigfaa
set_option linter.unusedVariables false

/-! For a search that goes from candidate to candidate: distances without one may be passed over. -/
theorem al7_three {D : List Int} {q p : Nat} : 3 ≤ al7 D q p ↔ (p + 2 < D.length ∧ D.getD q 0 = D.getD p 0 ∧ D.getD (q + 1) 0 = D.getD (p + 1) 0 ∧ D.getD (q + 2) 0 = D.getD (p + 2) 0) := by
  rw [al7_iff (by omega)]
  constructor
  · intro h
    exact ⟨(h 2 (by omega)).1, (h 0 (by omega)).2, (h 1 (by omega)).2, (h 2 (by omega)).2⟩
  · rintro ⟨h0, h1, h2, h3⟩ i hi
    obtain rfl | rfl | rfl : i = 0 ∨ i = 1 ∨ i = 2 := by omega
    · exact ⟨by omega, h1⟩
    · exact ⟨by omega, h2⟩
    · exact ⟨h0, h3⟩
theorem bsg7_far (D : List Int) (p W C f d best dist seen : Nat) (h : p < d ∨ W < d ∨ C ≤ seen) : bsg7 D p W C f d best dist seen = (best, dist) := by
  cases f with
  | zero => rfl
  | succ f => rw [bsg7, if_neg (by omega)]
theorem bsg7_skip (D : List Int) (p W C best dist seen : Nat) : ∀ (m d : Nat), d + m ≤ p + 1 → (∀ e, d ≤ e → e < d + m → al7 D (p - e) p < 3) → bsg7 D p W C (p + 1 - d) d best dist seen = bsg7 D p W C (p + 1 - (d + m)) (d + m) best dist seen
  | 0, d, _, _ => rfl
  | m + 1, d, h1, h2 => by
    by_cases hc : d ≤ p ∧ d ≤ W ∧ seen < C
    · rw [show p + 1 - d = p + 1 - (d + 1) + 1 by omega, bsg7, if_pos hc, if_pos (h2 d (Nat.le_refl _) (by omega)), bsg7_skip D p W C best dist seen m (d + 1) (by omega) (fun e a b => h2 e (by omega) (by omega)), show d + 1 + m = d + (m + 1) by omega]
    · rw [bsg7_far D p W C _ d best dist seen (by omega), bsg7_far D p W C _ (d + (m + 1)) best dist seen (by omega)]
/-- No candidate is left: the search is over. -/
theorem bsg7_none (D : List Int) (p W C best dist seen d : Nat) (hd : d ≤ p + 1) (h : ∀ e, d ≤ e → e ≤ p → al7 D (p - e) p < 3) : bsg7 D p W C (p + 1 - d) d best dist seen = (best, dist) := by
  have := bsg7_skip D p W C best dist seen (p + 1 - d) d (by omega) (fun e a b => h e a (by omega))
  rw [this, bsg7_far _ _ _ _ _ _ _ _ _ (by omega)]
/-- A candidate, within the window and the count. -/
theorem bsg7_take (D : List Int) (p W C best dist seen d : Nat) (h1 : d ≤ p) (h2 : d ≤ W) (h3 : seen < C) (h4 : 3 ≤ al7 D (p - d) p) : bsg7 D p W C (p + 1 - d) d best dist seen = if best < al7 D (p - d) p then bsg7 D p W C (p + 1 - (d + 1)) (d + 1) (al7 D (p - d) p) d (seen + 1) else bsg7 D p W C (p + 1 - (d + 1)) (d + 1) best dist (seen + 1) := by
  rw [show p + 1 - d = p + 1 - (d + 1) + 1 by omega, bsg7, if_pos ⟨h1, h2, h3⟩, if_neg (by omega)]
theorem bst7_start (D : List Int) (p W C : Nat) : bst7 D p W C = bsg7 D p W C (p + 1 - 1) 1 0 0 0 := by unfold bst7; simp
end Go.Proofs.Ytaipfcfmhdigfaa

namespace Go.Proofs.Ytaipfcfmhdigfaa
open Go.RowKit Go.Maps Go.WideMaps
set_option linter.unusedVariables false

/-! Maps whose keys are three bytes and that lead to places. -/
theorem row3 : (97 : TypeId) < Try.prog.types.size := of_decide_eq_true (by kernel_rfl)
theorem cells3 : Try.prog.cellsOf 97 = 3 := by kernel_rfl
theorem arr3 : ArrKey Try.prog 97 5 3 := ⟨Try.underlying97, by kernel_rfl, by kernel_rfl, cells3⟩
theorem wide3 : (match Try.prog.underlying 97 with | some (.array _ _) | some (.struct _) => true | _ => false) = true := by rw [Try.underlying97]
theorem kt3 : Try.prog.keyTypeAt 2 97 = true := by kernel_rfl
theorem tl3 : Try.prog.tiled 2 97 = true := by kernel_rfl
theorem law3 : Keyed Try.prog 97 := Keyed.of_law (deep_law (m := 2) (by omega) kt3 tl3 (by rw [Try.underlying97]))
theorem size3 : ∃ m, Try.prog.types.size = m + 1 := Nat.exists_eq_succ_of_ne_zero (Nat.pos_iff_ne_zero.mp (Nat.lt_of_le_of_lt (Nat.zero_le _) row3))
theorem zero3 (w : World) : (zeroValue 3).run Try.prog w = .ok (.int .i64 0) w := by kernel_rfl
def v3 (x y z : Int) : Value := .agg #[.int .u8 x, .int .u8 y, .int .u8 z]
def k3 (x y z : Int) : Lit := .string (keyBytes [.int .u8 x, .int .u8 y, .int .u8 z])
theorem wf8 {x : Int} (h : 0 ≤ x ∧ x ≤ 255) : (Lit.int .u8 x).wf = true := WalkArith.wf_u8 h
theorem keyOf3 {x y z : Int} (hx : 0 ≤ x ∧ x ≤ 255) (hy : 0 ≤ y ∧ y ≤ 255) (hz : 0 ≤ z ∧ z ≤ 255) : keyOf Try.prog 97 (v3 x y z) = some (k3 x y z) := by
  have A := arr3
  have hkt := A.keyType size3
  obtain ⟨m, hm⟩ := size3
  have wx := wf8 hx
  have wy := wf8 hy
  have wz := wf8 hz
  unfold keyOf v3 k3
  simp only [A.hu]
  rw [if_pos (by simp [hkt, Value.formed, A.hu, A.size]), hm]
  unfold Program.keyLits
  simp only [A.hu, Value.cells]
  rw [if_pos (by rw [A.size]; rfl), show List.range 3 = [0, 1, 2] from rfl, List.mapM_cons, List.mapM_cons, List.mapM_cons, List.mapM_nil]
  simp [A.one, Program.keyLits, Try.underlying5, wx, wy, wz]
theorem k3_inj {x y z x' y' z' : Int} (hx : 0 ≤ x ∧ x ≤ 255) (hy : 0 ≤ y ∧ y ≤ 255) (hz : 0 ≤ z ∧ z ≤ 255) (hx' : 0 ≤ x' ∧ x' ≤ 255) (hy' : 0 ≤ y' ∧ y' ≤ 255) (hz' : 0 ≤ z' ∧ z' ≤ 255) (h : k3 x y z = k3 x' y' z') : x = x' ∧ y = y' ∧ z = z' := by
  have h1 := keyOf3 hx hy hz
  have h2 := keyOf3 hx' hy' hz'
  rw [← h] at h2
  have := law3.inj h1 h2
  unfold v3 at this
  simpa using this
/-- Block m is a map that leads the bytes x, y, z to the place f x y z (-1: to none). -/
def MapK (w : World) (m c : Nat) (f : Int → Int → Int → Int) : Prop := ∃ D : DataW Unit, w.ownsMap Try.prog 97 (plainElem Try.prog 3) m c D ∧
  ∀ x y z, 0 ≤ x ∧ x ≤ 255 → 0 ≤ y ∧ y ≤ 255 → 0 ≤ z ∧ z ≤ 255 → (f x y z = -1 ∧ Maps.has D (k3 x y z) = false) ∨ (0 ≤ f x y z ∧ Maps.has D (k3 x y z) = true ∧ D.atKey (k3 x y z) (.lit (.int .i64 0)) = .lit (.int .i64 (f x y z)))
theorem MapK.lt {w : World} {m c : Nat} {f : Int → Int → Int → Int} (h : MapK w m c f) : m < w.heap.size := by
  obtain ⟨D, ho, _⟩ := h
  exact ho.lt
theorem MapK.block {w w' : World} {m c : Nat} {f : Int → Int → Int → Int} (h : MapK w m c f) (hb : w'.heap[m]? = w.heap[m]?) : MapK w' m c f := by
  obtain ⟨D, ⟨es, clock, h1, h2⟩, h3⟩ := h
  exact ⟨D, ⟨es, clock, hb.trans h1, h2⟩, h3⟩
theorem MapK.made (w : World) : MapK (w.alloc (.map #[] 0)) w.heap.size 0 (fun _ _ _ => -1) :=
  ⟨_, World.ownsMap_made _ _ _ _, fun x y z _ _ _ => .inl ⟨rfl, rfl⟩⟩
theorem MapK.look {w : World} {m c : Nat} {f : Int → Int → Int → Int} (h : MapK w m c f) {x y z : Int} (hx : 0 ≤ x ∧ x ≤ 255) (hy : 0 ≤ y ∧ y ≤ 255) (hz : 0 ≤ z ∧ z ≤ 255) :
    ∃ v ok, (Instr.lookup 92 (.map (some m)) (.agg #[.int .u8 x, .int .u8 y, .int .u8 z]) true).run Try.prog w = .ok (.tuple #[.int .i64 v, .bool ok]) w ∧ ((ok = true ∧ v = f x y z ∧ 0 ≤ v) ∨ (ok = false ∧ f x y z = -1)) := by
  obtain ⟨D, ho, hD⟩ := h
  obtain ⟨v, ps, hr, hv⟩ := ho.look_ok law3 Try.underlying92 (zero3 w) (plainElem_int Try.underlying3 (by decide)) (keyOf3 hx hy hz)
  obtain ⟨c', rfl, hc, _⟩ := plainElem_int_inv Try.underlying3 hv
  simp only [Prod.mk.injEq] at hc
  refine ⟨c', _, hr, ?_⟩
  rcases hD x y z hx hy hz with ⟨h1, h2⟩ | ⟨h1, h2, h3⟩
  · exact .inr ⟨h2, h1⟩
  · rw [hc.1] at h3
    injection h3 with h3
    injection h3 with _ h3
    exact .inl ⟨h2, h3, by omega⟩
theorem MapK.store {w : World} {m c : Nat} {f : Int → Int → Int → Int} (h : MapK w m c f) (hc : c < maxLen) {x y z : Int} (hx : 0 ≤ x ∧ x ≤ 255) (hy : 0 ≤ y ∧ y ≤ 255) (hz : 0 ≤ z ∧ z ≤ 255) (p : Nat) (hp : p ≤ 1152921504606846976) :
    ∃ w', (Instr.mapUpdate 92 (.map (some m)) (.agg #[.int .u8 x, .int .u8 y, .int .u8 z]) (.int .i64 (p : Int))).run Try.prog w = .ok () w' ∧ MapK w' m (c + 1) (fun x' y' z' => if x' = x ∧ y' = y ∧ z' = z then (p : Int) else f x' y' z') ∧ w.grownBy w' (some m) := by
  obtain ⟨D, ho, hD⟩ := h
  have hm := ho.isMap
  have hwp : (Lit.int .i64 (p : Int)).wf = true := WalkArith.wf_i64 (by omega)
  obtain ⟨w', hr, ho', hg⟩ := ho.update law3 Try.underlying92 hc (keyOf3 hx hy hz) (plainElem_int Try.underlying3 hwp)
  refine ⟨w', hr, ⟨_, ho', fun x' y' z' hx' hy' hz' => ?_⟩, hg⟩
  dsimp only
  by_cases e : x' = x ∧ y' = y ∧ z' = z
  · obtain ⟨rfl, rfl, rfl⟩ := e
    rw [if_pos ⟨rfl, rfl, rfl⟩]
    exact .inr ⟨by omega, has_put_same hm (law3.key (keyOf3 hx hy hz)) _, atKey_put_same hm (law3.key (keyOf3 hx hy hz)) _ _⟩
  · rw [if_neg e]
    have hne : k3 x' y' z' ≠ k3 x y z := fun h => e (k3_inj hx' hy' hz' hx hy hz h)
    rw [has_put_other hne, atKey_put_other hne]
    exact hD x' y' z' hx' hy' hz'
end Go.Proofs.Ytaipfcfmhdigfaa

namespace Go.Proofs.Ytaipfcfmhdigfaa
open Go.RowKit
set_option linter.unusedVariables false

/-! The landed lz: key, same. -/
set_option maxRecDepth 100000 in
set_option maxHeartbeats 2000000 in
theorem pkey7 (D : List Int) (a : Option Addr) (n cap p : Nat) (hn : Hid (D.length = n)) (w : World) (hs : Seg w a D) (hp : p + 2 < n) (hl : n ≤ 1152921504606846976) :
    Calls Try.prog 46 #[.slice a n cap, .int .i64 (p : Int)] w fun e w' => e = .returned (.agg #[.int .u8 (D.getD p 0), .int .u8 (D.getD (p + 1) 0), .int .u8 (D.getD (p + 2) 0)]) ∧ Below w.heap.size w w' := by
  obtain ⟨g, off, rfl, c0⟩ := hs.at_ p (by rw [hn.out]; omega)
  obtain ⟨g', off', hgg, c1⟩ := hs.at_ (p + 1) (by rw [hn.out]; omega)
  cases hgg
  obtain ⟨g', off', hgg, c2⟩ := hs.at_ (p + 2) (by rw [hn.out]; omega)
  cases hgg
  have hg := World.block_lt_of_cell? w _ c0
  have b0 := hs.bd p
  have b1 := hs.bd (p + 1)
  have b2 := hs.bd (p + 2)
  have hw1 : IntKind.i64.wrap ((p : Int) + 1) = ((p + 1 : Nat) : Int) := by rw [IntWalk.i64_in _ (by omega)]; omega
  have hw2 : IntKind.i64.wrap ((p : Int) + 2) = ((p + 2 : Nat) : Int) := by rw [IntWalk.i64_in _ (by omega)]; omega
  have l0 : (p : Int) < (n : Int) := by omega
  have l1 : ((p + 1 : Nat) : Int) < (n : Int) := by omega
  have l2 : ((p + 2 : Nat) : Int) < (n : Int) := by omega
  obtain ⟨p1, hp1⟩ : ∃ p1, p1 = p + 1 := ⟨_, rfl⟩
  obtain ⟨p2, hp2⟩ : ∃ p2, p2 = p + 2 := ⟨_, rfl⟩
  have e1 : (p : Int) + 1 = (p1 : Int) := by omega
  have e2 : (p : Int) + 2 = (p2 : Int) := by omega
  rw [← hp1] at c1 b1 hw1 l1 ⊢
  rw [← hp2] at c2 b2 hw2 l2 ⊢
  clear hp1 hp2 hs
  generalize D.getD p 0 = x at *
  generalize D.getD p1 0 = y at *
  generalize D.getD p2 0 = z at *
  go_enter Try.func46, Try.ntmps46
  go_wp2_with fail
  go_region
  go_wp2
  have hg : ((w.alloc (.cells #[.int .u8 x, .int .u8 y, .int .u8 z] 97)).drew).heap[w.heap.size]? = some (.cells #[.int .u8 x, .int .u8 y, .int .u8 z] 97 (0, 0)) := heap_alloc_new w _
  refine bodyPost_ret (v := .agg #[.int .u8 x, .int .u8 y, .int .u8 z]) (results_cell_row (fn := Try.f46) (p := 4) (ty := 97) rfl _ _ w.heap.size _ _ _ _ rfl hg Try.underlying97 rfl (by kernel_rfl)) rfl ?_
  have b1 : Below w.heap.size w (w.alloc (.cells #[.int .u8 x, .int .u8 y, .int .u8 z] 97)) := below_box _ _
  exact ⟨rfl, ⟨b1.os, b1.tape, b1.output, b1.size, b1.block⟩⟩
set_option maxRecDepth 100000 in
set_option maxHeartbeats 2000000 in
theorem psame7 (D : List Int) (a : Option Addr) (n cap q p k lim : Nat) (hn : Hid (D.length = n)) (w : World) (hs : Seg w a D) (hq : q < p) (hp : p ≤ n) (hk : k ≤ al7 D q p) (hlim : lim = min 258 (n - p)) (hl : n ≤ 1152921504606846976) :
    Calls Try.prog 47 #[.slice a n cap, .int .i64 (q : Int), .int .i64 (p : Int), .int .i64 (k : Int), .int .i64 (lim : Int)] w fun e w' => e = .returned (.int .i64 (al7 D q p : Int)) ∧ Below w.heap.size w w' := by
  have HS : Hid (Seg w a D) := hs
  have hal := al7_le D q p
  have hfit := al7_fits (D := D) (q := q) (p := p) (by rw [hn.out]; exact hp)
  rw [hn.out] at hfit
  have hall : al7 D q p ≤ lim := by omega
  have hlim2 : lim ≤ 258 ∧ p + lim ≤ n := by omega
  clear hs hlim
  go_enter Try.func47, Try.ntmps47
  go_wp2_with fail
  go_loopw [3] (fun ti wr => ∃ i : Nat, i ≤ al7 D q p ∧ ti = .int .i64 (i : Int) ∧ Below w.heap.size w wr) (fun ti _ => 258 - (intOf ti).toNat)
  case atStart => exact ⟨k, hk, rfl, Below.refl _ _⟩
  case round =>
    obtain ⟨i, hi, rfl, BR⟩ := hrel
    by_cases hil : i < lim
    · have hili : (i : Int) < (lim : Int) := by omega
      have hw1 : IntKind.i64.wrap ((p : Int) + (i : Int)) = ((p + i : Nat) : Int) := by rw [IntWalk.i64_in _ (by omega)]; omega
      have hw2 : IntKind.i64.wrap ((q : Int) + (i : Int)) = ((q + i : Nat) : Int) := by rw [IntWalk.i64_in _ (by omega)]; omega
      obtain ⟨x, hx⟩ : ∃ x, x = p + i := ⟨_, rfl⟩
      obtain ⟨y, hy⟩ : ∃ y, y = q + i := ⟨_, rfl⟩
      rw [← hx] at hw1
      rw [← hy] at hw2
      have hlti : (x : Int) < (n : Int) := by omega
      have hylt : (y : Int) < (n : Int) := by omega
      have sg : Seg wr a D := (show Seg w a D from HS.out).below BR (show Seg w a D from HS.out).lt
      obtain ⟨g, off, rfl, cx⟩ := sg.at_ x (by rw [hn.out]; omega)
      obtain ⟨g', off', hgg, cy⟩ := sg.at_ y (by rw [hn.out]; omega)
      cases hgg
      have bx := sg.bd x
      have byy := sg.bd y
      have hxi : (p : Int) + (i : Int) = (x : Int) := by omega
      have hyi : (q : Int) + (i : Int) = (y : Int) := by omega
      have HGO : Hid (D.getD y 0 = D.getD x 0 → i + 1 ≤ al7 D q p) := fun e => by
        rw [al7_iff (by omega)]
        intro j hj
        by_cases hji : j < i
        · exact al7_same (by omega)
        · obtain rfl : j = i := by omega
          exact ⟨by rw [hn.out]; omega, by rw [← hx, ← hy]; exact e⟩
      have HNO : Hid (¬ D.getD y 0 = D.getD x 0 → i = al7 D q p) := fun e => by
        by_cases h : i < al7 D q p
        · exact absurd (by rw [hx, hy]; exact (al7_same h).2) e
        · omega
      clear hx hy sg
      generalize D.getD x 0 = ux at *
      generalize D.getD y 0 = uy at *
      by_cases he : uy = ux
      · have hI := HGO.out he
        clear HGO HNO
        go_wp2_with fail
        go_quiet (fail)
        go_wp2
        go_roundw
        case rel => exact ⟨i + 1, hI, by go_num, ⟨BR.os, BR.tape, BR.output, BR.size, BR.block⟩⟩
        case measure => simp [intOf]; omega
      · have HI : Hid (i = al7 D q p) := HNO.out he
        clear HGO HNO
        go_wp2_with fail
        go_quiet (fail)
        go_wp2
        go_ret
        exact ⟨by rw [← HI.out]; rfl, ⟨BR.os, BR.tape, BR.output, BR.size, BR.block⟩⟩
    · have hili : ¬ (i : Int) < (lim : Int) := by omega
      have HI : Hid (i = al7 D q p) := by show _ = _; omega
      go_wp2_with fail
      go_quiet (fail)
      go_wp2
      go_ret
      exact ⟨by rw [← HI.out]; rfl, ⟨BR.os, BR.tape, BR.output, BR.size, BR.block⟩⟩
end Go.Proofs.Ytaipfcfmhdigfaa

namespace Go.Proofs.Ytaipfcfmhdigfaa
open Go.RowKit
set_option linter.unusedVariables false

/-! The landed lz: a chain of places. -/
/-- The last place ahead of s from which on these three bytes stand. -/
def lst7 (D : List Int) : Nat → Int → Int → Int → Int
  | 0, _, _, _ => -1
  | s + 1, x, y, z => if x = D.getD s 0 ∧ y = D.getD (s + 1) 0 ∧ z = D.getD (s + 2) 0 then (s : Int) else lst7 D s x y z
def prv7 (D : List Int) (p : Nat) : Int := lst7 D p (D.getD p 0) (D.getD (p + 1) 0) (D.getD (p + 2) 0)
theorem lst7_spec (D : List Int) (x y z : Int) : ∀ s, (lst7 D s x y z = -1 ∧ ∀ q, q < s → ¬ (x = D.getD q 0 ∧ y = D.getD (q + 1) 0 ∧ z = D.getD (q + 2) 0)) ∨
    (∃ q : Nat, lst7 D s x y z = (q : Int) ∧ q < s ∧ (x = D.getD q 0 ∧ y = D.getD (q + 1) 0 ∧ z = D.getD (q + 2) 0) ∧ ∀ r, q < r → r < s → ¬ (x = D.getD r 0 ∧ y = D.getD (r + 1) 0 ∧ z = D.getD (r + 2) 0))
  | 0 => .inl ⟨rfl, fun q h => by omega⟩
  | s + 1 => by
    by_cases h : x = D.getD s 0 ∧ y = D.getD (s + 1) 0 ∧ z = D.getD (s + 2) 0
    · exact .inr ⟨s, by rw [lst7, if_pos h], by omega, h, fun r h1 h2 => by omega⟩
    · rcases lst7_spec D x y z s with ⟨h1, h2⟩ | ⟨q, h1, h2, h3, h4⟩
      · refine .inl ⟨by rw [lst7, if_neg h]; exact h1, fun q hq => ?_⟩
        by_cases e : q = s
        · subst e; exact h
        · exact h2 q (by omega)
      · refine .inr ⟨q, by rw [lst7, if_neg h]; exact h1, by omega, h3, fun r hr1 hr2 => ?_⟩
        by_cases e : r = s
        · subst e; exact h
        · exact h4 r hr1 (by omega)
theorem lst7_bd (D : List Int) (x y z : Int) (s : Nat) : -1 ≤ lst7 D s x y z ∧ lst7 D s x y z < (s : Int) := by
  rcases lst7_spec D x y z s with ⟨h1, _⟩ | ⟨q, h1, h2, _⟩ <;> rw [h1] <;> omega
def prvs7 (D : List Int) (s : Nat) : List Int := (List.range s).map (prv7 D)
theorem prvs7_len (D : List Int) (s : Nat) : (prvs7 D s).length = s := by simp [prvs7]
theorem prvs7_succ (D : List Int) (s : Nat) : prvs7 D (s + 1) = prvs7 D s ++ [prv7 D s] := by simp [prvs7, List.range_succ]
theorem prvs7_get (D : List Int) (s p : Nat) (h : p < s) : (prvs7 D s).getD p 0 = prv7 D p := by simp [prvs7, List.getD, h]
structure Six (w : World) (b : Nat) (c0 c1 c2 c3 c4 c5 : Value) (t : TypeId) : Prop where
  hp : w.heap[b]? = some (.cells #[c0, c1, c2, c3, c4, c5] t (0, 0))
theorem Six.cells {w : World} {b : Nat} {c0 c1 c2 c3 c4 c5 : Value} {t : TypeId} (h : Six w b c0 c1 c2 c3 c4 c5 t) : w.cell? ⟨b, 0, none⟩ = some c0 ∧ w.cell? ⟨b, 1, none⟩ = some c1 ∧ w.cell? ⟨b, 2, none⟩ = some c2 ∧ w.cell? ⟨b, 3, none⟩ = some c3 ∧ w.cell? ⟨b, 4, none⟩ = some c4 ∧ w.cell? ⟨b, 5, none⟩ = some c5 := by
  have := h.hp
  refine ⟨?_, ?_, ?_, ?_, ?_, ?_⟩ <;> simp [World.cell?, this]
theorem Six.free {w : World} {b : Nat} {c0 c1 c2 c3 c4 c5 : Value} {t : TypeId} (h : Six w b c0 c1 c2 c3 c4 c5 t) (i : Nat) : w.frozen? ⟨b, i, none⟩ = false := by
  have := h.hp
  simp [World.frozen?, this]
theorem Six.set5 {w : World} {b : Nat} {c0 c1 c2 c3 c4 c5 : Value} {t : TypeId} (h : Six w b c0 c1 c2 c3 c4 c5 t) (u : Value) : Six (w.setCell ⟨b, 5, none⟩ u) b c0 c1 c2 c3 c4 u t := by
  have := h.hp
  refine ⟨?_⟩
  simp [World.setCell, Array.getElem?_modify, this]
theorem Six.lt {w : World} {b : Nat} {c0 c1 c2 c3 c4 c5 : Value} {t : TypeId} (h : Six w b c0 c1 c2 c3 c4 c5 t) : b < w.heap.size := (Array.getElem?_eq_some_iff.1 h.hp).1
/-- A chain in block b, its map in block m, that has seen s places; all that it may write lies at B and behind. -/
structure Chn (w : World) (B b m : Nat) (oa : Option Addr) (oc : Nat) (D : List Int) (a : Option Addr) (n cap : Nat) (win ch : Int) (lz : Bool) (s : Nat) : Prop where
  six : Six w b (.slice a n cap) (.int .i64 win) (.int .i64 ch) (.bool lz) (.map (some m)) (.slice oa s oc) 94
  own : w.ownsRow B 3 1 (.slice oa s oc) s ((prvs7 D s).map (Value.int .i64))
  mp : MapK w m s (lst7 D s)
  seg : Seg w a D
  ne : (Value.slice oa s oc).ownBlock ≠ some b
  bm : B ≤ m
  bb : B ≤ b
  old : ∀ x off, a = some ⟨x, off, none⟩ → 0 < D.length → x < B
theorem Chn.kp {w w' : World} {B b m : Nat} {oa : Option Addr} {oc : Nat} {D : List Int} {a : Option Addr} {n cap : Nat} {win ch : Int} {lz : Bool} {s : Nat} (h : Chn w B b m oa oc D a n cap win ch lz s) (hb : Below w.heap.size w w') : Chn w' B b m oa oc D a n cap win ch lz s :=
  ⟨⟨(hb.block b h.six.lt).trans h.six.hp⟩, own_below h.own hb, h.mp.block (hb.block m h.mp.lt), h.seg.old hb, h.ne, h.bm, h.bb, h.old⟩
theorem Chn.drew {w : World} {B b m : Nat} {oa : Option Addr} {oc : Nat} {D : List Int} {a : Option Addr} {n cap : Nat} {win ch : Int} {lz : Bool} {s : Nat} (h : Chn w B b m oa oc D a n cap win ch lz s) : Chn w.drew B b m oa oc D a n cap win ch lz s :=
  h.kp ⟨rfl, rfl, rfl, Nat.le_refl _, fun _ _ => rfl⟩
theorem Chn.bs {w : World} {B b m : Nat} {oa : Option Addr} {oc : Nat} {D : List Int} {a : Option Addr} {n cap : Nat} {win ch : Int} {lz : Bool} {s : Nat} (h : Chn w B b m oa oc D a n cap win ch lz s) : B ≤ w.heap.size := Nat.le_trans h.bb (Nat.le_of_lt h.six.lt)
set_option maxRecDepth 100000 in
set_option maxHeartbeats 1000000 in
theorem plast7 (b m c : Nat) (f : Int → Int → Int → Int) (x y z : Int) (hx : 0 ≤ x ∧ x ≤ 255) (hy : 0 ≤ y ∧ y ≤ 255) (hz : 0 ≤ z ∧ z ≤ 255) (w : World) (h4 : w.cell? ⟨b, 4, none⟩ = some (.map (some m))) (hm : MapK w m c f) :
    Calls Try.prog 45 #[.pointer (some ⟨b, 0, none⟩), .agg #[.int .u8 x, .int .u8 y, .int .u8 z]] w fun e w' => e = .returned (.int .i64 (f x y z)) ∧ Below w.heap.size w w' := by
  have bA : Below w.heap.size w ((w.alloc (.cells #[.int .u8 x, .int .u8 y, .int .u8 z] 97)).drew) := by
    have b1 : Below w.heap.size w (w.alloc (.cells #[.int .u8 x, .int .u8 y, .int .u8 z] 97)) := below_box _ _
    exact ⟨b1.os, b1.tape, b1.output, b1.size, b1.block⟩
  have hlt := World.block_lt_of_cell? w _ h4
  obtain ⟨v, ok, hr, hc⟩ := (hm.block (bA.block m hm.lt)).look hx hy hz
  rcases hc with ⟨rfl, rfl, hv⟩ | ⟨rfl, hf⟩
  · clear hm
    go_enter Try.func45, Try.ntmps45
    go_wp2_with fail
    go_region
    all_goals go_wp2
    all_goals go_ret
    all_goals exact ⟨rfl, bA⟩
  · clear hm
    rw [hf]
    go_enter Try.func45, Try.ntmps45
    go_wp2_with fail
    go_region
    all_goals go_wp2
    all_goals go_ret
    all_goals exact ⟨rfl, bA⟩
theorem chn_new {D : List Int} (a : Option Addr) (n cap : Nat) (win ch : Int) (lz : Bool) (w : World) (hs : Seg w a D) (B : Nat) (hB : B ≤ w.heap.size) (hold : ∀ x off, a = some ⟨x, off, none⟩ → 0 < D.length → x < B) :
    Chn ((w.alloc (.map #[] 0)).alloc (.cells #[.slice a n cap, .int .i64 win, .int .i64 ch, .bool lz, .map (some w.heap.size), .slice none 0 0] 94)) B (w.heap.size + 1) w.heap.size none 0 D a n cap win ch lz 0 := by
  have b1 : Below w.heap.size w (w.alloc (.map #[] 0)) := (Below.refl _ _).alloc (Nat.le_refl _) _
  have b2 := b1.alloc b1.size (.cells #[.slice a n cap, .int .i64 win, .int .i64 ch, .bool lz, .map (some w.heap.size), .slice none 0 0] 94)
  have hm := MapK.made w
  have hz : (w.alloc (.map #[] 0)).heap.size = w.heap.size + 1 := by simp
  have hn := heap_alloc_new (w.alloc (.map #[] 0)) (.cells #[.slice a n cap, .int .i64 win, .int .i64 ch, .bool lz, .map (some w.heap.size), .slice none 0 0] 94)
  rw [hz] at hn
  refine ⟨⟨hn⟩, World.ownsRow_nil _ _ _ _, ?_, hs.old b2, by simp [Value.ownBlock], hB, by omega, hold⟩
  have := hm.block (w' := (w.alloc (.map #[] 0)).alloc (.cells #[.slice a n cap, .int .i64 win, .int .i64 ch, .bool lz, .map (some w.heap.size), .slice none 0 0] 94)) (Below.heap_alloc _ _ _ hm.lt)
  exact this
set_option maxRecDepth 100000 in
set_option maxHeartbeats 1000000 in
theorem pnewc7 (D : List Int) (a : Option Addr) (n cap : Nat) (win ch : Int) (lz : Bool) (w : World) (hs : Seg w a D) (B : Nat) (hB : B ≤ w.heap.size) (hold : ∀ x off, a = some ⟨x, off, none⟩ → 0 < D.length → x < B) :
    Calls Try.prog 37 #[.slice a n cap, look7 win ch lz] w fun e w' => ∃ b m, e = .returned (.pointer (some ⟨b, 0, none⟩)) ∧ Chn w' B b m none 0 D a n cap win ch lz 0 ∧ Below w.heap.size w w' := by
  have hmm := @run_makeMap Try.prog
  unfold look7
  go_enter Try.func37, Try.ntmps37
  go_wp2_with fail
  go_ret
  have b1 : Below w.heap.size w (w.alloc (.cells #[.int .i64 win, .int .i64 ch, .bool lz] 49)) := below_box _ _
  have hz : (w.alloc (.cells #[.int .i64 win, .int .i64 ch, .bool lz] 49)).heap.size = w.heap.size + 1 := by simp
  obtain ⟨k, hk⟩ : ∃ k, k = w.heap.size + 1 := ⟨_, rfl⟩
  rw [← hk] at hz ⊢
  generalize w.alloc (.cells #[.int .i64 win, .int .i64 ch, .bool lz] 49) = w1 at *
  subst hz
  exact ⟨_, _, rfl, chn_new a n cap win ch lz w1 (hs.old b1) B (Nat.le_trans hB b1.size) hold, (b1.alloc b1.size _).alloc (Nat.le_trans b1.size (by simp)) _⟩
end Go.Proofs.Ytaipfcfmhdigfaa
