import Derived.Test.YtiocdhkompekpaaPb
import Derived.Test.YtiocdhkompekpaaPc
import Derived.Maps.OwnSet
import Derived.DeepKeys4
import Derived.WideKeyPair
import Derived.Laws.Rows
import Derived.Deep.RegionHeld3
import Derived.Lib.SmallJoins
import Derived.Deep.CutRange
import Derived.Deep.QuietTactic
namespace Go.Proofs.Ytiocdhkompekpaa
open Go.RowKit Go.Maps Go.WideMaps
set_option linter.unusedVariables false
set_option maxRecDepth 100000

/-! A map whose keys are places and whose elements are values, as they are. -/
theorem kt21 : Try.prog.keyTypeAt 2 102 = true := by kernel_rfl
theorem tl21 : Try.prog.tiled 2 102 = true := by kernel_rfl
theorem law21 : Keyed Try.prog 102 := Keyed.of_law (deep_law (m := 2) (by omega) kt21 tl21 (by rw [Try.underlying102]))
theorem row21 : (102 : TypeId) < Try.prog.types.size := of_decide_eq_true (by kernel_rfl)
theorem size21 : ∃ m, Try.prog.types.size = m + 1 := Nat.exists_eq_succ_of_ne_zero (Nat.pos_iff_ne_zero.mp (Nat.lt_of_le_of_lt (Nat.zero_le _) row21))
theorem cells21 : Try.prog.cellsOf 102 = 2 := by kernel_rfl
theorem cellsI21 : Try.prog.cellsOf 3 = 1 := by kernel_rfl
theorem ktp21 : Try.prog.keyType 102 = true := by kernel_rfl
def In21 (x : Int) : Prop := -9223372036854775808 ≤ x ∧ x ≤ 9223372036854775807
def k21 (x y : Int) : Lit := .string (keyBytes [.int .i64 x, .int .i64 y])
theorem keyOf21 {x y : Int} (hx : In21 x) (hy : In21 y) : keyOf Try.prog 102 (.agg #[.int .i64 x, .int .i64 y]) = some (k21 x y) := by
  obtain ⟨m, hm⟩ := size21
  have wx : (Lit.int .i64 x).wf = true := WalkArith.wf_i64 hx
  have wy : (Lit.int .i64 y).wf = true := WalkArith.wf_i64 hy
  unfold keyOf k21
  simp only [Try.underlying102]
  rw [if_pos (by simp [ktp21, Value.formed, Try.underlying102, cells21]), hm]
  unfold Program.keyLits
  simp only [Try.underlying102, Value.cells]
  rw [if_pos (by rw [cells21]; simp)]
  simp [cellsI21, Program.keyLits, Try.underlying3, wx, wy]
theorem k21_inj {x y x' y' : Int} (hx : In21 x) (hy : In21 y) (hx' : In21 x') (hy' : In21 y') (h : k21 x y = k21 x' y') : x = x' ∧ y = y' := by
  have h1 := keyOf21 hx hy
  have h2 := keyOf21 hx' hy'
  rw [← h] at h2
  have := law21.inj h1 h2
  simpa using this
def rd21 (v : Value) : Option (DataW Value × List MemPlace) := some (.held v, [])
def zs21 : Value := .agg #[.slice none 0 0, .bool false, .int .i64 0]
theorem zero21 (w : World) : (zeroValue 99).run Try.prog w = .ok zs21 w := by kernel_rfl
/-- Block m is a map that leads the place x, y to the value f x y. -/
def Mv21 (w : World) (m c : Nat) (f : Int → Int → Option Value) : Prop := ∃ D : DataW Value, w.ownsMap Try.prog 102 rd21 m c D ∧
  ∀ x y, In21 x → In21 y → (f x y = none ∧ Maps.has D (k21 x y) = false) ∨ (∃ v, f x y = some v ∧ Maps.has D (k21 x y) = true ∧ ∀ d, D.atKey (k21 x y) d = .held v)
theorem Mv21.lt {w : World} {m c : Nat} {f : Int → Int → Option Value} (h : Mv21 w m c f) : m < w.heap.size := by
  obtain ⟨D, ho, _⟩ := h
  exact ho.lt
theorem Mv21.block {w w' : World} {m c : Nat} {f : Int → Int → Option Value} (h : Mv21 w m c f) (hb : w'.heap[m]? = w.heap[m]?) : Mv21 w' m c f := by
  obtain ⟨D, ⟨es, clock, h1, h2⟩, h3⟩ := h
  exact ⟨D, ⟨es, clock, hb.trans h1, h2⟩, h3⟩
theorem Mv21.no {w : World} {m c : Nat} {f : Int → Int → Option Value} (h : Mv21 w m c f) {cs : Array Value} {t : TypeId} {p : Nat × Nat} : w.heap[m]? ≠ some (.cells cs t p) := by
  obtain ⟨D, ⟨es, clock, h1, h2⟩, h3⟩ := h
  rw [h1]; simp
theorem Mv21.made (w : World) : Mv21 (w.alloc (.map #[] 0)) w.heap.size 0 (fun _ _ => none) :=
  ⟨_, World.ownsMap_made _ _ _ _, fun x y _ _ => .inl ⟨rfl, rfl⟩⟩
theorem Mv21.look {w : World} {m c : Nat} {f : Int → Int → Option Value} (h : Mv21 w m c f) {x y : Int} (hx : In21 x) (hy : In21 y) :
    (Instr.lookup 63 (.map (some m)) (.agg #[.int .i64 x, .int .i64 y]) true).run Try.prog w = .ok (.tuple #[(f x y).getD zs21, .bool (f x y).isSome]) w := by
  obtain ⟨D, ho, hD⟩ := h
  obtain ⟨v, ps, hr, hv⟩ := ho.look_ok (zd := .held zs21) (zp := []) law21 Try.underlying63 (zero21 w) rfl (keyOf21 hx hy)
  unfold rd21 at hv
  injection hv with hv
  injection hv with hv _
  rcases hD x y hx hy with ⟨h1, h2⟩ | ⟨u, h1, h2, h3⟩
  · rw [atKey_of_not_has h2] at hv
    injection hv with hv
    subst hv
    rw [hr, h1, h2]
    rfl
  · rw [h3] at hv
    injection hv with hv
    subst hv
    rw [hr, h1, h2]
    rfl
theorem Mv21.store {w : World} {m c : Nat} {f : Int → Int → Option Value} (h : Mv21 w m c f) (hc : c < maxLen) {x y : Int} (hx : In21 x) (hy : In21 y) (v : Value) :
    ∃ w', (Instr.mapUpdate 63 (.map (some m)) (.agg #[.int .i64 x, .int .i64 y]) v).run Try.prog w = .ok () w' ∧ Mv21 w' m (c + 1) (fun x' y' => if x' = x ∧ y' = y then some v else f x' y') ∧ w.grownBy w' (some m) := by
  obtain ⟨D, ho, hD⟩ := h
  have hm := ho.isMap
  obtain ⟨w', hr, ho', hg⟩ := ho.update (d := .held v) (ps := []) law21 Try.underlying63 hc (keyOf21 hx hy) rfl
  refine ⟨w', hr, ⟨_, ho', fun x' y' hx' hy' => ?_⟩, hg⟩
  dsimp only
  by_cases e : x' = x ∧ y' = y
  · obtain ⟨rfl, rfl⟩ := e
    rw [if_pos ⟨rfl, rfl⟩]
    exact .inr ⟨v, rfl, has_put_same hm (law21.key (keyOf21 hx hy)) _, fun d => atKey_put_same hm (law21.key (keyOf21 hx hy)) _ _⟩
  · rw [if_neg e]
    have hne : k21 x' y' ≠ k21 x y := fun h => e (k21_inj hx' hy' hx hy h)
    rw [has_put_other hne]
    rcases hD x' y' hx' hy' with h1 | ⟨u, h1, h2, h3⟩
    · exact .inl h1
    · exact .inr ⟨u, h1, h2, fun d => by rw [atKey_put_other hne, h3]⟩
end Go.Proofs.Ytiocdhkompekpaa

namespace Go.Proofs.Ytiocdhkompekpaa
open Go.RowKit Go.Maps Go.WideMaps
set_option linter.unusedVariables false
set_option linter.unusedSimpArgs false

/-! The landed flash: what a device is; made, stops, pagesOf, missing, refuses, mayBe. -/
theorem below_drewN21 {B : Nat} {a b : World} (h : Below B a b) (n : Nat) : Below B a (b.drewN n) := ⟨h.os, h.tape, h.output, h.size, h.block⟩
structure Sh21 where
  b : List Int
  er : Bool
  wr : Int
structure Fs21 where
  pg : Nat
  ps : Nat
  ac : Int
  on : Bool
  lm : Int
  pa : Int → Int → Option Sh21
  lf : Int
  tn : List Int
  lg : List (Int × Int × Int)
def pn21 (ps : Nat) (x : Int) : Int := if x < 0 ∨ 2 < x then 0 else if x = 2 then 2 else (ps : Int)
def ms21 (ps : Nat) (x y : Int) : Int := if y < 0 ∨ pn21 ps x ≤ y then 211 else 0
def st21 (on : Bool) : Int := if on then 0 else 213
def rf21 (on : Bool) (ps : Nat) (x y : Int) : Int := if on then ms21 ps x y else 213
def mb21 (p q : Int) : Bool := decide (64 ≤ p) && decide (p ≤ 4096) && decide (1 ≤ q) && decide (q ≤ 4096)
theorem pn21_bd (ps : Nat) (x : Int) (h : ps ≤ 4096) : 0 ≤ pn21 ps x ∧ pn21 ps x ≤ 4096 := by
  unfold pn21
  split
  · omega
  · split <;> omega

set_option maxRecDepth 100000 in
set_option maxHeartbeats 1000000 in
theorem pmay21 (p q : Int) (w : World) : Calls Try.prog 52 #[.agg #[.int .i64 p, .int .i64 q]] w fun e w' => e = .returned (.bool (mb21 p q)) ∧ Below w.heap.size w w' := by
  have hb : Below w.heap.size w (w.alloc (.cells #[.int .i64 p, .int .i64 q] 62)) := (Below.refl _ _).alloc (Nat.le_refl _) _
  by_cases h1 : 64 ≤ p
  · by_cases h2 : p ≤ 4096
    · by_cases h3 : 1 ≤ q
      · by_cases h4 : q ≤ 4096
        · have e : mb21 p q = true := by simp [mb21, h1, h2, h3, h4]
          rw [e]
          go_enter Try.func52, Try.ntmps52
          go_wp2
          go_ret
          exact ⟨by simp [h1, h2, h3, h4], hb⟩
        · have e : mb21 p q = false := by simp [mb21, h4]
          rw [e]
          go_enter Try.func52, Try.ntmps52
          go_wp2
          go_ret
          exact ⟨by simp [h1, h2, h3, h4], hb⟩
      · have e : mb21 p q = false := by simp [mb21, h3]
        rw [e]
        go_enter Try.func52, Try.ntmps52
        go_wp2
        go_ret
        exact ⟨by simp [h1, h2, h3], hb⟩
    · have e : mb21 p q = false := by simp [mb21, h2]
      rw [e]
      go_enter Try.func52, Try.ntmps52
      go_wp2
      go_ret
      exact ⟨by simp [h1, h2], hb⟩
  · have e : mb21 p q = false := by simp [mb21, h1]
    rw [e]
    go_enter Try.func52, Try.ntmps52
    go_wp2
    go_ret
    exact ⟨by simp [h1], hb⟩

set_option maxRecDepth 100000 in
set_option maxHeartbeats 1000000 in
theorem pmade21 (b pg : Nat) (w : World) (c0 : w.cell? ⟨b, 0, none⟩ = some (.int .i64 (pg : Int))) (hp : 64 ≤ pg) : Calls Try.prog 46 #[.pointer (some ⟨b, 0, none⟩)] w fun e w' => e = .returned (.bool true) ∧ w' = w := by
  have h1 : (0 : Int) < (pg : Int) := by omega
  have h2 : 0 < pg := by omega
  go_enter Try.func46, Try.ntmps46
  go_wp2
  go_ret
  exact ⟨by simp [h1, h2], rfl⟩
set_option maxRecDepth 100000 in
set_option maxHeartbeats 1000000 in
theorem pstop21 (b pg : Nat) (on : Bool) (w : World) (c0 : w.cell? ⟨b, 0, none⟩ = some (.int .i64 (pg : Int))) (hp : 64 ≤ pg) (c3 : w.cell? ⟨b, 3, none⟩ = some (.bool on)) : Calls Try.prog 44 #[.pointer (some ⟨b, 0, none⟩)] w fun e w' => e = .returned (.int .i64 (st21 on)) ∧ w' = w := by
  have HM := pmade21 b pg w c0 hp
  cases on
  all_goals
    go_enter Try.func44, Try.ntmps44
    go_wp2_with fail
    refine HM.mono ?_
    rintro e w1 ⟨rfl, hw⟩
    subst hw
    go_wp2_with fail
    go_ret
    exact ⟨rfl, rfl⟩
set_option maxRecDepth 100000 in
set_option maxHeartbeats 1000000 in
theorem ppof21 (b ps : Nat) (x : Int) (w : World) (c1 : w.cell? ⟨b, 1, none⟩ = some (.int .i64 (ps : Int))) : Calls Try.prog 49 #[.pointer (some ⟨b, 0, none⟩), .int .i64 x] w fun e w' => e = .returned (.int .i64 (pn21 ps x)) ∧ w' = w := by
  by_cases h1 : x < 0
  · have e : pn21 ps x = 0 := by simp [pn21, h1]
    rw [e]
    go_enter Try.func49, Try.ntmps49
    go_wp2
    go_ret
    exact ⟨rfl, rfl⟩
  · by_cases h2 : 2 < x
    · have e : pn21 ps x = 0 := by simp [pn21, h2]
      rw [e]
      go_enter Try.func49, Try.ntmps49
      go_wp2
      go_ret
      exact ⟨rfl, rfl⟩
    · by_cases h3 : x = 2
      · subst h3
        have e : pn21 ps 2 = 2 := by simp [pn21]
        rw [e]
        clear h1 h2
        go_enter Try.func49, Try.ntmps49
        go_wp2
        go_ret
        exact ⟨rfl, rfl⟩
      · have e : pn21 ps x = ps := by simp [pn21, h1, h2, h3]
        rw [e]
        have h4 : (x == 2) = false := by simp [h3]
        go_enter Try.func49, Try.ntmps49
        go_wp2
        go_ret
        exact ⟨rfl, rfl⟩
set_option maxRecDepth 100000 in
set_option maxHeartbeats 2000000 in
theorem pmiss21 (b ps : Nat) (x y : Int) (w : World) (c1 : w.cell? ⟨b, 1, none⟩ = some (.int .i64 (ps : Int))) : Calls Try.prog 68 #[.pointer (some ⟨b, 0, none⟩), .agg #[.int .i64 x, .int .i64 y]] w fun e w' => e = .returned (.int .i64 (ms21 ps x y)) ∧ Below w.heap.size w w' := by
  have hb : Below w.heap.size w (w.alloc (.cells #[.int .i64 x, .int .i64 y] 102)).drew := ((Below.refl _ _).alloc (Nat.le_refl _) _).drew
  have hlt : b < w.heap.size := World.block_lt_of_cell? w _ c1
  have HP : Hid (∀ W : World, W.cell? ⟨b, 1, none⟩ = some (.int .i64 (ps : Int)) → Calls Try.prog 49 #[.pointer (some ⟨b, 0, none⟩), .int .i64 x] W fun e w' => e = .returned (.int .i64 (pn21 ps x)) ∧ w' = W) := fun W h => ppof21 b ps x W h
  have d1 : ((w.alloc (.cells #[.int .i64 x, .int .i64 y] 102)).drew).cell? ⟨b, 1, none⟩ = some (.int .i64 (ps : Int)) := (hb.cell (p := ⟨b, 1, none⟩) hlt).trans c1
  by_cases h1 : y < 0
  · have e : ms21 ps x y = 211 := by simp [ms21, h1]
    rw [e]
    clear HP
    have h1' : decide (y < 0) = true := by simp [h1]
    go_enter Try.func68, Try.ntmps68
    go_wp2_with fail
    go_quiet (fail)
    go_wp2
    go_ret
    exact ⟨rfl, below_drewN21 ((Below.refl _ _).alloc (Nat.le_refl _) _) _⟩
  · have HN : Hid (ms21 ps x y = if pn21 ps x ≤ y then 211 else 0) := by simp [Hid, ms21, h1]
    rw [HN.out]
    generalize pn21 ps x = N at *
    have h1' : decide (y < 0) = false := by simp [h1]
    by_cases h2 : N ≤ y
    · have h2' : decide (N ≤ y) = true := by simp [h2]
      rw [if_pos h2]
      go_enter Try.func68, Try.ntmps68
      go_wp2_with fail
      go_quiet ((first | (go_at_call 49; exact Calls.quiet_of_same (HP.out _ (by exact d1)))))
      go_wp2
      go_ret
      exact ⟨rfl, below_drewN21 ((Below.refl _ _).alloc (Nat.le_refl _) _) _⟩
    · have h2' : decide (N ≤ y) = false := by simp [h2]
      rw [if_neg h2]
      go_enter Try.func68, Try.ntmps68
      go_wp2_with fail
      go_quiet ((first | (go_at_call 49; exact Calls.quiet_of_same (HP.out _ (by exact d1)))))
      go_wp2
      go_ret
      exact ⟨rfl, below_drewN21 ((Below.refl _ _).alloc (Nat.le_refl _) _) _⟩
set_option maxRecDepth 100000 in
set_option maxHeartbeats 2000000 in
theorem pref21 (b pg ps : Nat) (on : Bool) (x y : Int) (w : World) (c0 : w.cell? ⟨b, 0, none⟩ = some (.int .i64 (pg : Int))) (hp : 64 ≤ pg) (c1 : w.cell? ⟨b, 1, none⟩ = some (.int .i64 (ps : Int))) (c3 : w.cell? ⟨b, 3, none⟩ = some (.bool on)) :
    Calls Try.prog 66 #[.pointer (some ⟨b, 0, none⟩), .agg #[.int .i64 x, .int .i64 y]] w fun e w' => e = .returned (.int .i64 (rf21 on ps x y)) ∧ Below w.heap.size w w' := by
  have hlt : b < w.heap.size := World.block_lt_of_cell? w _ c1
  have hb : Below w.heap.size w (w.alloc (.cells #[.int .i64 x, .int .i64 y] 102)) := (Below.refl _ _).alloc (Nat.le_refl _) _
  have HS : Hid (∀ W : World, Below w.heap.size w W → Calls Try.prog 44 #[.pointer (some ⟨b, 0, none⟩)] W fun e w' => e = .returned (.int .i64 (st21 on)) ∧ w' = W) := fun W h => pstop21 b pg on W ((h.cell (p := ⟨b, 0, none⟩) hlt).trans c0) hp ((h.cell (p := ⟨b, 3, none⟩) hlt).trans c3)
  have HM : Hid (∀ W : World, Below w.heap.size w W → Calls Try.prog 68 #[.pointer (some ⟨b, 0, none⟩), .agg #[.int .i64 x, .int .i64 y]] W fun e w' => e = .returned (.int .i64 (ms21 ps x y)) ∧ Below W.heap.size W w') := fun W h => pmiss21 b ps x y W ((h.cell (p := ⟨b, 1, none⟩) hlt).trans c1)
  clear c0 c1 c3
  cases on
  · have e : rf21 false ps x y = 213 := rfl
    rw [e]
    clear e HM
    go_enter Try.func66, Try.ntmps66
    go_wp2_with fail
    refine (HS.out _ hb).mono ?_
    rintro e w1 ⟨rfl, hw⟩
    subst hw
    go_wp2_with fail
    go_ret
    exact ⟨rfl, hb⟩
  · have e : rf21 true ps x y = ms21 ps x y := rfl
    rw [e]
    clear e
    generalize ms21 ps x y = M at *
    go_enter Try.func66, Try.ntmps66
    go_wp2_with fail
    refine (HS.out _ hb).mono ?_
    rintro e w1 ⟨rfl, hw⟩
    subst hw
    go_wp2_with fail
    refine (HM.out _ hb).mono ?_
    rintro e w2 ⟨rfl, b2⟩
    go_wp2_with fail
    go_ret
    exact ⟨rfl, hb.trans (b2.mono (by simp))⟩
end Go.Proofs.Ytiocdhkompekpaa

namespace Go.Proofs.Ytiocdhkompekpaa
open Go.RowKit
set_option linter.unusedVariables false

/-- Whole numbers (of 64 bits, with a sign) lie where a slice's address leads. -/
structure SegZ (w : World) (a : Option Addr) (zs : List Int) : Prop where
  at_ : ∀ i, i < zs.length → ∃ b off, a = some ⟨b, off, none⟩ ∧ w.cell? ⟨b, off + i, none⟩ = some (.int .i64 (zs.getD i 0))
  bd : ∀ i, -9223372036854775808 ≤ zs.getD i 0 ∧ zs.getD i 0 ≤ 9223372036854775807

theorem getD_bdz {zs : List Int} (h : ∀ z ∈ zs, -9223372036854775808 ≤ z ∧ z ≤ 9223372036854775807) (i : Nat) : -9223372036854775808 ≤ zs.getD i 0 ∧ zs.getD i 0 ≤ 9223372036854775807 := by
  by_cases hi : i < zs.length
  · have := h zs[i] (List.getElem_mem hi)
    simpa [List.getD, hi] using this
  · have : zs[i]? = none := List.getElem?_eq_none (by omega)
    simp [List.getD, this]
theorem SegZ.nil (w : World) (a : Option Addr) : SegZ w a [] := ⟨fun i h => by simp at h, fun i => by simp⟩
theorem SegZ.of_cells {w w' : World} {a : Option Addr} {zs : List Int} (h : SegZ w a zs) (hc : ∀ b off i v, i < zs.length → a = some ⟨b, off, none⟩ → w.cell? ⟨b, off + i, none⟩ = some v → w'.cell? ⟨b, off + i, none⟩ = some v) : SegZ w' a zs :=
  ⟨fun i hi => by obtain ⟨b, off, ha, hcl⟩ := h.at_ i hi; exact ⟨b, off, ha, hc b off i _ hi ha hcl⟩, h.bd⟩
theorem SegZ.old {w w' : World} {a : Option Addr} {zs : List Int} (h : SegZ w a zs) (hb : Below w.heap.size w w') : SegZ w' a zs :=
  h.of_cells fun b off i v hi ha hcl => (hb.cell (p := ⟨b, off + i, none⟩) (World.block_lt_of_cell? w _ hcl)).trans hcl
theorem SegZ.kp {w w' : World} {S : Nat → Prop} {a : Option Addr} {zs : List Int} (h : SegZ w a zs) (hb : Kp S w w') (hn : ∀ b off, a = some ⟨b, off, none⟩ → 0 < zs.length → ¬ S b) : SegZ w' a zs :=
  h.of_cells fun b off i v hi ha hcl => by
    have hlt : b < w.heap.size := World.block_lt_of_cell? w _ hcl
    rw [World.cell?_of_block (a := ⟨b, off + i, none⟩) (hb.block b hlt (hn b off ha (by omega)))]
    exact hcl
theorem SegZ.lt {w : World} {a : Option Addr} {zs : List Int} (h : SegZ w a zs) : ∀ b off, a = some ⟨b, off, none⟩ → 0 < zs.length → b < w.heap.size := by
  intro b off ha hl
  obtain ⟨b', off', ha', hc⟩ := h.at_ 0 hl
  rw [ha] at ha'
  cases ha'
  exact World.block_lt_of_cell? w _ hc
theorem SegZ.drewN {w : World} {a : Option Addr} {zs : List Int} (h : SegZ w a zs) (n : Nat) : SegZ (w.drewN n) a zs := ⟨h.at_, h.bd⟩
theorem SegZ.drew {w : World} {a : Option Addr} {zs : List Int} (h : SegZ w a zs) : SegZ w.drew a zs := ⟨h.at_, h.bd⟩
theorem SegZ.alloc {w : World} {a : Option Addr} {zs : List Int} (h : SegZ w a zs) (o : Obj) : SegZ (w.alloc o) a zs := h.old ((Below.refl _ _).alloc (Nat.le_refl _) o)
theorem SegZ.mem {w : World} {a : Option Addr} {zs : List Int} (h : SegZ w a zs) : ∀ z ∈ zs, -9223372036854775808 ≤ z ∧ z ≤ 9223372036854775807 := by
  intro z hz
  obtain ⟨i, hi, rfl⟩ := List.mem_iff_getElem.1 hz
  have := h.bd i
  simpa [List.getD, hi] using this
theorem SegZ.take {w : World} {a : Option Addr} {zs : List Int} (h : SegZ w a zs) (m : Nat) : SegZ w a (zs.take m) := by
  refine ⟨fun i hi => ?_, getD_bdz fun z hz => h.mem z (List.mem_of_mem_take hz)⟩
  simp at hi
  obtain ⟨b, off, ha, hc⟩ := h.at_ i (by omega)
  refine ⟨b, off, ha, ?_⟩
  rw [hc]
  have hk : i < m := by omega
  simp [List.getD, hk]
theorem SegZ.left {w : World} {a : Option Addr} {xs ys : List Int} (h : SegZ w a (xs ++ ys)) : SegZ w a xs := by
  have := h.take xs.length
  simpa using this
theorem segZ_cells {w : World} {x : Addr} {zs : List Int} (h : SegZ w (some x) zs) : ∀ j u, (zs.map (Value.int .i64))[j]? = some u → w.cell? (x.add j) = some u := by
  intro j u hu
  have hj : j < zs.length := by
    rcases Nat.lt_or_ge j zs.length with h | h
    · exact h
    · simp [List.getElem?_eq_none h] at hu
  obtain ⟨b, off, hx, hc⟩ := h.at_ j hj
  cases hx
  have hadd : (⟨b, off, none⟩ : Addr).add j = ⟨b, off + j, none⟩ := by unfold Addr.add; split <;> simp_all
  rw [hadd, hc]
  simp [hj] at hu
  subst hu
  simp [List.getD, hj]
/-- A row that the call owns, as numbers that lie there. -/
theorem own_segZ {w : World} {base n : Nat} {e : TypeId} {a : Option Addr} {cap : Nat} {zs : List Int} (h : w.ownsRow base e 1 (.slice a n cap) n (zs.map (Value.int .i64))) (hb : ∀ z ∈ zs, -9223372036854775808 ≤ z ∧ z ≤ 9223372036854775807) :
    SegZ w a zs := by
  have hl : zs.length = n := by simpa using h.1
  rcases h.2 with ⟨h1, hn⟩ | ⟨g, cap', cur, hv, hg, hh, hc, _, _, ht⟩
  · have : zs = [] := List.eq_nil_of_length_eq_zero (by omega)
    subst this
    exact SegZ.nil _ _
  · simp only [Value.slice.injEq] at hv
    obtain ⟨rfl, _, rfl⟩ := hv
    refine ⟨fun i hi => ⟨g, 0, rfl, ?_⟩, getD_bdz hb⟩
    have := h.cells (g := g) rfl i (.int .i64 (zs.getD i 0)) (by simp [List.getD, hi])
    have hadd : (⟨g, 0, none⟩ : Addr).add i = ⟨g, 0 + i, none⟩ := by unfold Addr.add; split <;> simp_all
    rw [hadd] at this
    exact this
/-- Numbers that lie somewhere, behind a row. -/
theorem wpList_appZ {P : Program} {ops : Array Oper} {rest : List Oper} {o : Oper} {a : Act} {Q : Exit → Act → World → Prop} (hgd : o.guard = none) (s x : Operand) (t : TypeId)
    (ho : o.op = .call { callee := .builtin .append, args := #[s, x], argTypes := #[t, t] })
    (base : Nat) (e : TypeId) (i : TypeInfo) (z : Value) (bytes : Nat) (ht : P.underlying t = some (.slice e)) (hi : P.info? e = some i) (hz : i.zero = some z)
    (hsize : i.size = 1) (hby : i.bytes = bytes) (hzs : z.cells.size = 1)
    {w : World} {ra : Option Addr} {rc : Nat} {n : Nat} {xs : List Value} (hown : w.ownsRow base e 1 (.slice ra n rc) n xs) {ao : Option Addr} {zs : List Int} {cap : Nat} (hseg : SegZ w ao zs) (hnil : ao = none → cap = 0)
    (hs : a.eval s = .slice ra n rc) (hx : a.eval x = .slice ao zs.length cap)
    (h63 : n + zs.length ≤ 140737488355328) (hbytes : (n + zs.length) * bytes ≤ 140737488355328) (hbase : base ≤ w.heap.size)
    (h : ∀ (b : Option Addr) (c : Nat) (w' : World), w'.ownsRow base e 1 (.slice b (n + zs.length) c) (n + zs.length) (xs ++ zs.map (Value.int .i64)) → w.grownBy w' (Value.slice ra n rc).ownBlock → Fresh w (.slice ra n rc) (.slice b (n + zs.length) c) → (Value.slice b (n + zs.length) c = .slice none 0 0 ↔ Value.slice ra n rc = .slice none 0 0 ∧ zs.length = 0) → wpList P ops Q rest (a.put o.dst (.slice b (n + zs.length) c)) w') : wpList P ops Q (o :: rest) a w := by
  cases ao with
  | none =>
    have hz : zs = [] := by
      cases zs with
      | nil => rfl
      | cons z r => obtain ⟨b, off, hx, _⟩ := hseg.at_ 0 (by simp); cases hx
    subst hz
    rw [hnil rfl] at hx
    refine wpList_append_own_none hgd s x t ho base e i 1 ht hi _ n xs hs hown hx ?_
    have := h ra rc w (by simpa using hown) (World.grownBy.refl _ _) (fun k hk => .inl hk) (by simp)
    simpa using this
  | some ad =>
    exact wpList_app hgd s x t ho base e i z bytes ht hi hz hsize hby hzs hown (by simp) (segZ_cells hseg) (ints_oneCell _ _) hs hx h63 hbytes hbase h
theorem below_own {w w' : World} {base n : Nat} {e : TypeId} {v : Value} {xs : List Value} (hown : w.ownsRow base e 1 v n xs) (hg : w.grownBy w' v.ownBlock) (hb : base ≤ w.heap.size) : Below base w w' :=
  (Below.refl _ _).grown hg hb (fun k hk => (hown.lt k hk).1)
theorem take_snocZ {zs : List Int} {k : Nat} (hk : k < zs.length) : zs.take (k + 1) = zs.take k ++ [zs.getD k 0] := by
  rw [List.take_add_one]
  simp [List.getD, hk]
end Go.Proofs.Ytiocdhkompekpaa
