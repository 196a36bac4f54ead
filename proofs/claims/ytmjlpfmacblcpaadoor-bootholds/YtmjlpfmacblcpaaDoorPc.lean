import Derived.Test.YtmjlpfmacblcpaaDoorPb
import Derived.Deep.RegionHeld3
import Derived.Lib.SmallJoins
import Derived.Deep.CutRange
import Derived.Deep.QuietTactic
import Derived.Test.YtmjlpfmacblcpaaDoorPa
import Derived.Lib.SliceRun
import Derived.Lib.MakeNoZero
import Derived.Laws.CopyOwn
import Derived.Test.YtmjlpfmacblcpaaDoorProg
import Derived.WalkKit
import Derived.WalkSpells
import Derived.WalkLawsBesides
import Derived.Laws.BitsAllLaws
namespace Go.Proofs.YtmjlpfmacblcpaaDoor
open Go.RowKit Go.Maps Go.WideMaps
set_option linter.unusedVariables false
set_option linter.unusedSimpArgs false
theorem below_drewN21 {B : Nat} {a b : World} (h : Below B a b) (n : Nat) : Below B a (b.drewN n) := ⟨h.os, h.tape, h.output, h.size, h.block⟩
structure Sh21 where
  b : List Int
  er : Bool
  wr : Int
structure Fs21 where
  pg : Nat
  ps : Nat
  ac : Int
  on : Bool
  lm : Int
  pa : Int → Int → Option Sh21
  lf : Int
  tn : List Int
  lg : List (Int × Int × Int)
def pn21 (ps : Nat) (x : Int) : Int := if x < 0 ∨ 2 < x then 0 else if x = 2 then 2 else (ps : Int)
def ms21 (ps : Nat) (x y : Int) : Int := if y < 0 ∨ pn21 ps x ≤ y then 211 else 0
def st21 (on : Bool) : Int := if on then 0 else 213
def rf21 (on : Bool) (ps : Nat) (x y : Int) : Int := if on then ms21 ps x y else 213
def mb21 (p q : Int) : Bool := decide (64 ≤ p) && decide (p ≤ 4096) && decide (1 ≤ q) && decide (q ≤ 4096)
theorem pn21_bd (ps : Nat) (x : Int) (h : ps ≤ 4096) : 0 ≤ pn21 ps x ∧ pn21 ps x ≤ 4096 := by
  unfold pn21
  split
  · omega
  · split <;> omega

set_option maxRecDepth 100000 in
set_option maxHeartbeats 1000000 in
theorem pmay21 (p q : Int) (w : World) : Calls Tryd.prog 66 #[.agg #[.int .i64 p, .int .i64 q]] w fun e w' => e = .returned (.bool (mb21 p q)) ∧ Below w.heap.size w w' := by
  have hb : Below w.heap.size w (w.alloc (.cells #[.int .i64 p, .int .i64 q] 45)) := (Below.refl _ _).alloc (Nat.le_refl _) _
  by_cases h1 : 64 ≤ p
  · by_cases h2 : p ≤ 4096
    · by_cases h3 : 1 ≤ q
      · by_cases h4 : q ≤ 4096
        · have e : mb21 p q = true := by simp [mb21, h1, h2, h3, h4]
          rw [e]
          go_enter Tryd.func66, Tryd.ntmps66
          go_wp2
          go_ret
          exact ⟨by simp [h1, h2, h3, h4], hb⟩
        · have e : mb21 p q = false := by simp [mb21, h4]
          rw [e]
          go_enter Tryd.func66, Tryd.ntmps66
          go_wp2
          go_ret
          exact ⟨by simp [h1, h2, h3, h4], hb⟩
      · have e : mb21 p q = false := by simp [mb21, h3]
        rw [e]
        go_enter Tryd.func66, Tryd.ntmps66
        go_wp2
        go_ret
        exact ⟨by simp [h1, h2, h3], hb⟩
    · have e : mb21 p q = false := by simp [mb21, h2]
      rw [e]
      go_enter Tryd.func66, Tryd.ntmps66
      go_wp2
      go_ret
      exact ⟨by simp [h1, h2], hb⟩
  · have e : mb21 p q = false := by simp [mb21, h1]
    rw [e]
    go_enter Tryd.func66, Tryd.ntmps66
    go_wp2
    go_ret
    exact ⟨by simp [h1], hb⟩

set_option maxRecDepth 100000 in
set_option maxHeartbeats 1000000 in
theorem pmade21 (b pg : Nat) (w : World) (c0 : w.cell? ⟨b, 0, none⟩ = some (.int .i64 (pg : Int))) (hp : 64 ≤ pg) : Calls Tryd.prog 51 #[.pointer (some ⟨b, 0, none⟩)] w fun e w' => e = .returned (.bool true) ∧ w' = w := by
  have h1 : (0 : Int) < (pg : Int) := by omega
  have h2 : 0 < pg := by omega
  go_enter Tryd.func51, Tryd.ntmps51
  go_wp2
  go_ret
  exact ⟨by simp [h1, h2], rfl⟩
set_option maxRecDepth 100000 in
set_option maxHeartbeats 1000000 in
theorem pstop21 (b pg : Nat) (on : Bool) (w : World) (c0 : w.cell? ⟨b, 0, none⟩ = some (.int .i64 (pg : Int))) (hp : 64 ≤ pg) (c3 : w.cell? ⟨b, 3, none⟩ = some (.bool on)) : Calls Tryd.prog 47 #[.pointer (some ⟨b, 0, none⟩)] w fun e w' => e = .returned (.int .i64 (st21 on)) ∧ w' = w := by
  have HM := pmade21 b pg w c0 hp
  cases on
  all_goals
    go_enter Tryd.func47, Tryd.ntmps47
    go_wp2_with fail
    refine HM.mono ?_
    rintro e w1 ⟨rfl, hw⟩
    subst hw
    go_wp2_with fail
    go_ret
    exact ⟨rfl, rfl⟩
set_option maxRecDepth 100000 in
set_option maxHeartbeats 1000000 in
theorem ppof21 (b ps : Nat) (x : Int) (w : World) (c1 : w.cell? ⟨b, 1, none⟩ = some (.int .i64 (ps : Int))) : Calls Tryd.prog 40 #[.pointer (some ⟨b, 0, none⟩), .int .i64 x] w fun e w' => e = .returned (.int .i64 (pn21 ps x)) ∧ w' = w := by
  by_cases h1 : x < 0
  · have e : pn21 ps x = 0 := by simp [pn21, h1]
    rw [e]
    go_enter Tryd.func40, Tryd.ntmps40
    go_wp2
    go_ret
    exact ⟨rfl, rfl⟩
  · by_cases h2 : 2 < x
    · have e : pn21 ps x = 0 := by simp [pn21, h2]
      rw [e]
      go_enter Tryd.func40, Tryd.ntmps40
      go_wp2
      go_ret
      exact ⟨rfl, rfl⟩
    · by_cases h3 : x = 2
      · subst h3
        have e : pn21 ps 2 = 2 := by simp [pn21]
        rw [e]
        clear h1 h2
        go_enter Tryd.func40, Tryd.ntmps40
        go_wp2
        go_ret
        exact ⟨rfl, rfl⟩
      · have e : pn21 ps x = ps := by simp [pn21, h1, h2, h3]
        rw [e]
        have h4 : (x == 2) = false := by simp [h3]
        go_enter Tryd.func40, Tryd.ntmps40
        go_wp2
        go_ret
        exact ⟨rfl, rfl⟩
set_option maxRecDepth 100000 in
set_option maxHeartbeats 2000000 in
theorem pmiss21 (b ps : Nat) (x y : Int) (w : World) (c1 : w.cell? ⟨b, 1, none⟩ = some (.int .i64 (ps : Int))) : Calls Tryd.prog 98 #[.pointer (some ⟨b, 0, none⟩), .agg #[.int .i64 x, .int .i64 y]] w fun e w' => e = .returned (.int .i64 (ms21 ps x y)) ∧ Below w.heap.size w w' := by
  have hb : Below w.heap.size w (w.alloc (.cells #[.int .i64 x, .int .i64 y] 98)).drew := ((Below.refl _ _).alloc (Nat.le_refl _) _).drew
  have hlt : b < w.heap.size := World.block_lt_of_cell? w _ c1
  have HP : Hid (∀ W : World, W.cell? ⟨b, 1, none⟩ = some (.int .i64 (ps : Int)) → Calls Tryd.prog 40 #[.pointer (some ⟨b, 0, none⟩), .int .i64 x] W fun e w' => e = .returned (.int .i64 (pn21 ps x)) ∧ w' = W) := fun W h => ppof21 b ps x W h
  have d1 : ((w.alloc (.cells #[.int .i64 x, .int .i64 y] 98)).drew).cell? ⟨b, 1, none⟩ = some (.int .i64 (ps : Int)) := (hb.cell (p := ⟨b, 1, none⟩) hlt).trans c1
  by_cases h1 : y < 0
  · have e : ms21 ps x y = 211 := by simp [ms21, h1]
    rw [e]
    clear HP
    have h1' : decide (y < 0) = true := by simp [h1]
    go_enter Tryd.func98, Tryd.ntmps98
    go_wp2_with fail
    go_quiet (fail)
    go_wp2
    go_ret
    exact ⟨rfl, below_drewN21 ((Below.refl _ _).alloc (Nat.le_refl _) _) _⟩
  · have HN : Hid (ms21 ps x y = if pn21 ps x ≤ y then 211 else 0) := by simp [Hid, ms21, h1]
    rw [HN.out]
    generalize pn21 ps x = N at *
    have h1' : decide (y < 0) = false := by simp [h1]
    by_cases h2 : N ≤ y
    · have h2' : decide (N ≤ y) = true := by simp [h2]
      rw [if_pos h2]
      go_enter Tryd.func98, Tryd.ntmps98
      go_wp2_with fail
      go_quiet ((first | (go_at_call 40; exact Calls.quiet_of_same (HP.out _ (by exact d1)))))
      go_wp2
      go_ret
      exact ⟨rfl, below_drewN21 ((Below.refl _ _).alloc (Nat.le_refl _) _) _⟩
    · have h2' : decide (N ≤ y) = false := by simp [h2]
      rw [if_neg h2]
      go_enter Tryd.func98, Tryd.ntmps98
      go_wp2_with fail
      go_quiet ((first | (go_at_call 40; exact Calls.quiet_of_same (HP.out _ (by exact d1)))))
      go_wp2
      go_ret
      exact ⟨rfl, below_drewN21 ((Below.refl _ _).alloc (Nat.le_refl _) _) _⟩
set_option maxRecDepth 100000 in
set_option maxHeartbeats 2000000 in
theorem pref21 (b pg ps : Nat) (on : Bool) (x y : Int) (w : World) (c0 : w.cell? ⟨b, 0, none⟩ = some (.int .i64 (pg : Int))) (hp : 64 ≤ pg) (c1 : w.cell? ⟨b, 1, none⟩ = some (.int .i64 (ps : Int))) (c3 : w.cell? ⟨b, 3, none⟩ = some (.bool on)) :
    Calls Tryd.prog 92 #[.pointer (some ⟨b, 0, none⟩), .agg #[.int .i64 x, .int .i64 y]] w fun e w' => e = .returned (.int .i64 (rf21 on ps x y)) ∧ Below w.heap.size w w' := by
  have hlt : b < w.heap.size := World.block_lt_of_cell? w _ c1
  have hb : Below w.heap.size w (w.alloc (.cells #[.int .i64 x, .int .i64 y] 98)) := (Below.refl _ _).alloc (Nat.le_refl _) _
  have HS : Hid (∀ W : World, Below w.heap.size w W → Calls Tryd.prog 47 #[.pointer (some ⟨b, 0, none⟩)] W fun e w' => e = .returned (.int .i64 (st21 on)) ∧ w' = W) := fun W h => pstop21 b pg on W ((h.cell (p := ⟨b, 0, none⟩) hlt).trans c0) hp ((h.cell (p := ⟨b, 3, none⟩) hlt).trans c3)
  have HM : Hid (∀ W : World, Below w.heap.size w W → Calls Tryd.prog 98 #[.pointer (some ⟨b, 0, none⟩), .agg #[.int .i64 x, .int .i64 y]] W fun e w' => e = .returned (.int .i64 (ms21 ps x y)) ∧ Below W.heap.size W w') := fun W h => pmiss21 b ps x y W ((h.cell (p := ⟨b, 1, none⟩) hlt).trans c1)
  clear c0 c1 c3
  cases on
  · have e : rf21 false ps x y = 213 := rfl
    rw [e]
    clear e HM
    go_enter Tryd.func92, Tryd.ntmps92
    go_wp2_with fail
    refine (HS.out _ hb).mono ?_
    rintro e w1 ⟨rfl, hw⟩
    subst hw
    go_wp2_with fail
    go_ret
    exact ⟨rfl, hb⟩
  · have e : rf21 true ps x y = ms21 ps x y := rfl
    rw [e]
    clear e
    generalize ms21 ps x y = M at *
    go_enter Tryd.func92, Tryd.ntmps92
    go_wp2_with fail
    refine (HS.out _ hb).mono ?_
    rintro e w1 ⟨rfl, hw⟩
    subst hw
    go_wp2_with fail
    refine (HM.out _ hb).mono ?_
    rintro e w2 ⟨rfl, b2⟩
    go_wp2_with fail
    go_ret
    exact ⟨rfl, hb.trans (b2.mono (by simp))⟩
end Go.Proofs.YtmjlpfmacblcpaaDoor

namespace Go.Proofs.YtmjlpfmacblcpaaDoor
open Go.RowKit
set_option linter.unusedVariables false
/-- Whole numbers (of 64 bits, with a sign) lie where a slice's address leads. -/
structure SegZ (w : World) (a : Option Addr) (zs : List Int) : Prop where
  at_ : ∀ i, i < zs.length → ∃ b off, a = some ⟨b, off, none⟩ ∧ w.cell? ⟨b, off + i, none⟩ = some (.int .i64 (zs.getD i 0))
  bd : ∀ i, -9223372036854775808 ≤ zs.getD i 0 ∧ zs.getD i 0 ≤ 9223372036854775807

theorem getD_bdz {zs : List Int} (h : ∀ z ∈ zs, -9223372036854775808 ≤ z ∧ z ≤ 9223372036854775807) (i : Nat) : -9223372036854775808 ≤ zs.getD i 0 ∧ zs.getD i 0 ≤ 9223372036854775807 := by
  by_cases hi : i < zs.length
  · have := h zs[i] (List.getElem_mem hi)
    simpa [List.getD, hi] using this
  · have : zs[i]? = none := List.getElem?_eq_none (by omega)
    simp [List.getD, this]
theorem SegZ.nil (w : World) (a : Option Addr) : SegZ w a [] := ⟨fun i h => by simp at h, fun i => by simp⟩
theorem SegZ.of_cells {w w' : World} {a : Option Addr} {zs : List Int} (h : SegZ w a zs) (hc : ∀ b off i v, i < zs.length → a = some ⟨b, off, none⟩ → w.cell? ⟨b, off + i, none⟩ = some v → w'.cell? ⟨b, off + i, none⟩ = some v) : SegZ w' a zs :=
  ⟨fun i hi => by obtain ⟨b, off, ha, hcl⟩ := h.at_ i hi; exact ⟨b, off, ha, hc b off i _ hi ha hcl⟩, h.bd⟩
theorem SegZ.old {w w' : World} {a : Option Addr} {zs : List Int} (h : SegZ w a zs) (hb : Below w.heap.size w w') : SegZ w' a zs :=
  h.of_cells fun b off i v hi ha hcl => (hb.cell (p := ⟨b, off + i, none⟩) (World.block_lt_of_cell? w _ hcl)).trans hcl
theorem SegZ.kp {w w' : World} {S : Nat → Prop} {a : Option Addr} {zs : List Int} (h : SegZ w a zs) (hb : Kp S w w') (hn : ∀ b off, a = some ⟨b, off, none⟩ → 0 < zs.length → ¬ S b) : SegZ w' a zs :=
  h.of_cells fun b off i v hi ha hcl => by
    have hlt : b < w.heap.size := World.block_lt_of_cell? w _ hcl
    rw [World.cell?_of_block (a := ⟨b, off + i, none⟩) (hb.block b hlt (hn b off ha (by omega)))]
    exact hcl
theorem SegZ.lt {w : World} {a : Option Addr} {zs : List Int} (h : SegZ w a zs) : ∀ b off, a = some ⟨b, off, none⟩ → 0 < zs.length → b < w.heap.size := by
  intro b off ha hl
  obtain ⟨b', off', ha', hc⟩ := h.at_ 0 hl
  rw [ha] at ha'
  cases ha'
  exact World.block_lt_of_cell? w _ hc
theorem SegZ.drewN {w : World} {a : Option Addr} {zs : List Int} (h : SegZ w a zs) (n : Nat) : SegZ (w.drewN n) a zs := ⟨h.at_, h.bd⟩
theorem SegZ.drew {w : World} {a : Option Addr} {zs : List Int} (h : SegZ w a zs) : SegZ w.drew a zs := ⟨h.at_, h.bd⟩
theorem SegZ.alloc {w : World} {a : Option Addr} {zs : List Int} (h : SegZ w a zs) (o : Obj) : SegZ (w.alloc o) a zs := h.old ((Below.refl _ _).alloc (Nat.le_refl _) o)
theorem SegZ.mem {w : World} {a : Option Addr} {zs : List Int} (h : SegZ w a zs) : ∀ z ∈ zs, -9223372036854775808 ≤ z ∧ z ≤ 9223372036854775807 := by
  intro z hz
  obtain ⟨i, hi, rfl⟩ := List.mem_iff_getElem.1 hz
  have := h.bd i
  simpa [List.getD, hi] using this
theorem SegZ.take {w : World} {a : Option Addr} {zs : List Int} (h : SegZ w a zs) (m : Nat) : SegZ w a (zs.take m) := by
  refine ⟨fun i hi => ?_, getD_bdz fun z hz => h.mem z (List.mem_of_mem_take hz)⟩
  simp at hi
  obtain ⟨b, off, ha, hc⟩ := h.at_ i (by omega)
  refine ⟨b, off, ha, ?_⟩
  rw [hc]
  have hk : i < m := by omega
  simp [List.getD, hk]
theorem SegZ.left {w : World} {a : Option Addr} {xs ys : List Int} (h : SegZ w a (xs ++ ys)) : SegZ w a xs := by
  have := h.take xs.length
  simpa using this
theorem below_own {w w' : World} {base n : Nat} {e : TypeId} {v : Value} {xs : List Value} (hown : w.ownsRow base e 1 v n xs) (hg : w.grownBy w' v.ownBlock) (hb : base ≤ w.heap.size) : Below base w w' :=
  (Below.refl _ _).grown hg hb (fun k hk => (hown.lt k hk).1)
end Go.Proofs.YtmjlpfmacblcpaaDoor

namespace Go.Proofs.YtmjlpfmacblcpaaDoor
open Go.RowKit
set_option linter.unusedVariables false
set_option linter.unusedSimpArgs false
theorem info_y21 : (Tryd.prog.info? 5).map (fun i => (i.zero, i.size, i.bytes)) = some (some (.int .u8 0), 1, 1) := by kernel_rfl
theorem size_y21 : (Tryd.prog.info? 5).map (·.size) = some 1 := by kernel_rfl
def sp21 (X : List Int) (off : Nat) (cs : List Int) : List Int := X.take off ++ cs ++ X.drop (off + cs.length)
theorem sp21_len (X : List Int) (off : Nat) (cs : List Int) (h : off + cs.length ≤ X.length) : (sp21 X off cs).length = X.length := by
  simp [sp21]; omega
theorem kp_setRow21 {Q : Nat → Prop} {g : Nat} (hg : Q g) (w : World) (cs : Array Value) : Kp Q w (w.setRow g cs) :=
  ⟨rfl, rfl, rfl, by simp [World.setRow], fun k hk hn => setRow_other w g k cs (fun e => hn (e ▸ hg))⟩
theorem run_copy21 {P : Program} {w : World} (dT sT ty elem : TypeId) (hu : P.underlying dT = some (.slice elem)) (hsz : (P.info? elem).map (·.size) = some 1)
    (dp sp : Option Addr) (dLen dCap sLen sCap : Nat) (g off : Nat) (X : List Int) (t : TypeId) (hg : w.heap[g]? = some (.cells (X.map (Value.int .u8)).toArray t (0, 0))) (cs : List Int) (hn : cs.length = Nat.min sLen dLen)
    (hpos : 0 < cs.length → dp = some ⟨g, off, none⟩ ∧ Seg w sp cs) (hfit : off + cs.length ≤ X.length) :
    ∃ w', (Builtin.copy_ #[dT, sT] ty #[.slice dp dLen dCap, .slice sp sLen sCap]).run P w = .ok (.int .i64 (cs.length : Int)) w' ∧ w'.heap[g]? = some (.cells ((sp21 X off cs).map (Value.int .u8)).toArray t (0, 0)) ∧ Kp (fun k => k = g) w w' := by
  by_cases h0 : cs.length = 0
  · obtain rfl : cs = [] := List.eq_nil_of_length_eq_zero h0
    refine ⟨w, ?_, ?_, Kp.refl _ _⟩
    · exact run_copy_none (P := P) w dT sT ty elem dp sp dLen dCap sLen sCap hu hsz (by simpa using hn.symm)
    · simpa [sp21] using hg
  · obtain ⟨rfl, hs⟩ := hpos (by omega)
    obtain ⟨sg, soff, rfl, _⟩ := hs.at_ 0 (by omega)
    have hrun := run_copy_row P w dT sT ty elem g off dLen dCap ⟨sg, soff, none⟩ sLen sCap _ t (cs.map (Value.int .u8)) hu hsz hg (by simpa using hn) (seg_cells hs) (by simpa using hfit) (ints_oneCell _ _)
    refine ⟨_, by simpa [goInt] using hrun, ?_, kp_setRow21 (Q := fun k => k = g) rfl _ _⟩
    rw [setRow_heap w g _ _ t _ hg]
    simp [splice, sp21, List.map_take, List.map_drop]
/-- copy in a plain region. -/
theorem wpList_copy21 {P : Program} {ops : Array Oper} {rest : List Oper} {o : Oper} {a : Act} {Q : Exit → Act → World → Prop} {w : World} (hgd : o.guard = none) (d s : Operand) (dT sT : TypeId)
    (ho : o.op = .call { callee := .builtin .copy, args := #[d, s], argTypes := #[dT, sT] }) (elem : TypeId) (hu : P.underlying dT = some (.slice elem)) (hsz : (P.info? elem).map (·.size) = some 1)
    {dp sp : Option Addr} {dLen dCap sLen sCap : Nat} (hd : a.eval d = .slice dp dLen dCap) (hs : a.eval s = .slice sp sLen sCap)
    (g off : Nat) (X : List Int) (t : TypeId) (hg : w.heap[g]? = some (.cells (X.map (Value.int .u8)).toArray t (0, 0))) (cs : List Int) (m : Nat) (hm : cs.length = m) (hn : m = Nat.min sLen dLen)
    (hpos : 0 < cs.length → dp = some ⟨g, off, none⟩ ∧ Seg w sp cs) (hfit : off + m ≤ X.length)
    (h : ∀ w', Hid (w'.heap[g]? = some (.cells ((sp21 X off cs).map (Value.int .u8)).toArray t (0, 0))) → Kp (fun k => k = g) w w' → wpList P ops Q rest (a.put o.dst (.int .i64 (m : Int))) w') : wpList P ops Q (o :: rest) a w := by
  subst hm
  obtain ⟨w', hrun, h1, h2⟩ := run_copy21 (P := P) (w := w) dT sT o.type elem hu hsz dp sp dLen dCap sLen sCap g off X t hg cs hn hpos hfit
  refine wpList_plain hgd fun K hK => ?_
  unfold Oper.wp execOp
  simp only [ho, resolve, invoke, builtin, Sem.run_bind, Sem.run_pure, Result.andThen_ok, List.map_toArray, List.map_cons, List.map_nil, hd, hs, hrun]
  exact hK _ _ (h w' h1 h2)
/-- A row of bytes that is known whole, as bytes that lie there. -/
theorem seg_row21 {w : World} {g : Nat} {X : List Int} {t : TypeId} (hg : w.heap[g]? = some (.cells (X.map (Value.int .u8)).toArray t (0, 0))) (hb : ∀ y ∈ X, 0 ≤ y ∧ y ≤ 255) : Seg w (some ⟨g, 0, none⟩) X := by
  refine ⟨fun i hi => ⟨g, 0, rfl, ?_⟩, by decide, getD_bd (by decide) hb⟩
  simp [World.cell?, hg, List.getD, hi]
/-- A Clone of bytes. -/
def Cl21 (w : World) (a : Option Addr) (zs : List Int) (cap : Nat) (N : Nat) : Prop := Seg w a zs ∧ (a = none ∨ ∃ k, a = some ⟨k, 0, none⟩ ∧ N ≤ k ∧ k < w.heap.size) ∧ (a = none → cap = 0) ∧ zs.length ≤ cap
set_option maxRecDepth 100000 in
set_option maxHeartbeats 1000000 in
theorem pcl21 (a : Option Addr) (zs : List Int) (n cap : Nat) (w : World) (hs : Seg w a zs) (hn : Hid (zs.length = n)) (hnil : a = none → cap = 0) (hl : n ≤ 140737488351232) :
    Calls Tryd.prog 67 #[.slice a n cap] w fun e w' => (∃ ra rc, e = .returned (.slice ra n rc) ∧ Cl21 w' ra zs rc w.heap.size) ∧ Below w.heap.size w w' := by
  obtain ⟨i0, hi, hz0, hz1, hz2⟩ := info_parts info_y21
  cases a with
  | none =>
    have h0 : zs = [] := by
      cases zs with
      | nil => rfl
      | cons z r => obtain ⟨b, off, hx, _⟩ := hs.at_ 0 (by simp); cases hx
    subst h0
    obtain rfl : n = 0 := hn.out.symm
    obtain rfl := hnil rfl
    clear hnil hn hs
    have HE := Go.Lib.run_eql_slice_nil (P := Tryd.prog) w 22 5 none 0 0 0 0 Tryd.underlying22
    go_enter Tryd.func67, Tryd.ntmps67
    go_wp2_with fail
    go_ret
    exact ⟨⟨none, 0, rfl, SegK.nil (by decide) _ _, .inl rfl, fun _ => rfl, by simp⟩, Below.refl _ _⟩
  | some ad =>
    have hm0 : (w.alloc (.cells #[] 5)).ownsRow w.heap.size 5 1 (.slice (some ⟨w.heap.size, 0, none⟩) 0 0) 0 [] := World.ownsRow_made w #[] 0 (Nat.le_refl _) (by decide) rfl
    have hb0 : Below w.heap.size w (w.alloc (.cells #[] 5)) := (Below.refl _ _).alloc (Nat.le_refl _) _
    have hs1 := hs.alloc (.cells #[] 5)
    have hmem := hs.mem
    have e0 := hn.out
    subst e0
    clear hn hnil hs
    have HE := fun c => Go.Lib.run_eql_slice_nil (P := Tryd.prog) w 22 5 (some ad) zs.length c 0 0 Tryd.underlying22
    go_enter Tryd.func67, Tryd.ntmps67
    go_wp2_with (first
      | (at_builtin; refine wpList_appS rfl (.tmp 5) (.tmp 6) 22 rfl w.heap.size 5 i0 (.int .u8 0) 1 Tryd.underlying22 hi hz0 hz1 hz2 rfl hm0 hs1 (by intro h; cases h) rfl rfl (by omega) (by omega) (by have := hb0.size; omega) ?_; intro a1 c1 w1 hown1 hg1 hf1 hn1; have hb1 := hb0.trans (below_own hm0 hg1 (by have := hb0.size; omega)); clear hf1 hg1; rw [Nat.zero_add, List.nil_append] at hown1))
    go_ret
    refine ⟨⟨a1, c1, by simp, ?_⟩, hb1⟩
    obtain ⟨-, a', cap', hv, hsg, hx, hcp, -⟩ := own_seg (M := 255) hown1 (by decide) hmem
    simp only [Value.slice.injEq] at hv
    obtain ⟨rfl, -, rfl⟩ := hv
    refine ⟨hsg, ?_, ?_, hcp⟩
    · cases a1 with
      | none => exact .inl rfl
      | some x =>
        obtain ⟨h1, h2, h3, h4⟩ := hx x rfl
        refine .inr ⟨x.block, ?_, h3, h4⟩
        cases x; simp at h1 h2; simp [h1, h2]
    · intro h
      subst h
      rcases hown1.2 with ⟨h1, h2⟩ | ⟨g, cp, cur, hv, _⟩
      · simp at h1; exact h1.2
      · simp at hv
end Go.Proofs.YtmjlpfmacblcpaaDoor

namespace Go.Proofs.YtmjlpfmacblcpaaDoor
open Go.RowKit
set_option linter.unusedVariables false
/-- So many bytes of a number, the least first. -/
def fixL : Nat → Int → List Int
  | 0, _ => []
  | n + 1, v => v % 256 :: fixL n (v / 256)
theorem fixL_len : ∀ (n : Nat) (v : Int), (fixL n v).length = n
  | 0, _ => rfl
  | n + 1, v => by simp [fixL, fixL_len n]
theorem fixL_bd : ∀ (n : Nat) (v : Int), ∀ z ∈ fixL n v, 0 ≤ z ∧ z ≤ 255
  | 0, _ => by simp [fixL]
  | n + 1, v => by
    intro z hz
    simp [fixL] at hz
    rcases hz with rfl | hz
    · omega
    · exact fixL_bd n _ z hz
theorem info_u8f : (Tryd.prog.info? 5).map (fun i => (i.zero, i.size, i.bytes)) = some (some (.int .u8 0), 1, 1) := by kernel_rfl

set_option maxRecDepth 100000 in
theorem isFixed_any (s : Int) (w : World) : Calls Tryd.prog 109 #[.int .i64 s] w fun e w' => e = .returned (.bool (decide (1 ≤ s ∧ s ≤ 8))) ∧ w' = w := by
  by_cases h1 : 1 ≤ s
  · by_cases h8 : s ≤ 8
    · go_enter Tryd.func109, Tryd.ntmps109
      go_wp2
      go_ret
      exact ⟨by simp [h1, h8], rfl⟩
    · have h8' : 8 < s := by omega
      go_enter Tryd.func109, Tryd.ntmps109
      go_wp2
      go_ret
      exact ⟨by simp; omega, rfl⟩
  · have h1' : s < 1 := by omega
    go_enter Tryd.func109, Tryd.ntmps109
    go_wp2
    go_ret
    exact ⟨by simp; omega, rfl⟩

theorem fixL_snoc : ∀ (k : Nat) (v : Int), fixL (k + 1) v = fixL k v ++ [v / 2 ^ (8 * k) % 256]
  | 0, v => by simp [fixL]
  | k + 1, v => by
    have ih := fixL_snoc k (v / 256)
    have e : v / 256 / 2 ^ (8 * k) = v / 2 ^ (8 * (k + 1)) := by
      rw [Int.ediv_ediv_of_nonneg (by decide), show 8 * (k + 1) = 8 + 8 * k by omega, Int.pow_add]
      rfl
    rw [show fixL (k + 1 + 1) v = v % 256 :: fixL (k + 1) (v / 256) from rfl, ih, e]
    rfl
theorem zeros_set (s k : Nat) (v x : Int) (hk : k < s) (hx : x = v / 2 ^ (8 * k) % 256) :
    (((fixL k v ++ List.replicate (s - k) 0).map (Value.int .u8)).set k (.int .u8 x)) = (fixL (k + 1) v ++ List.replicate (s - (k + 1)) 0).map (Value.int .u8) := by
  rw [← List.map_set]
  congr 1
  obtain ⟨m, hm⟩ : ∃ m, s - k = m + 1 := ⟨s - k - 1, by omega⟩
  have hm2 : s - (k + 1) = m := by omega
  rw [hm, hm2, List.replicate_succ, List.set_append, if_neg (by rw [fixL_len]; omega), fixL_len, Nat.sub_self, List.set_cons_zero, fixL_snoc, hx]
  simp

set_option maxRecDepth 100000 in
set_option maxHeartbeats 400000 in
theorem fixed_ok (v : Int) (s : Nat) (w : World) (h1 : 1 ≤ s) (h8 : s ≤ 8) (hv0 : 0 ≤ v) (hv1 : v ≤ 18446744073709551615) (hr : v / 2 ^ (8 * s) = 0) :
    Calls Tryd.prog 83 #[.int .u64 v, .int .i64 s] w fun e w' => e = .returned (.tuple #[.slice (some ⟨w.heap.size, 0, none⟩) s s, .int .i64 0]) ∧
      w'.ownsRow w.heap.size 5 1 (.slice (some ⟨w.heap.size, 0, none⟩) s s) s ((fixL s v).map (Value.int .u8)) ∧ Below w.heap.size w w' := by
  have hd : decide (1 ≤ (s : Int) ∧ (s : Int) ≤ 8) = true := by simp; omega
  have hn : (v / 2 ^ (8 * s) != 0) = false := by rw [hr]; rfl
  clear hr
  obtain ⟨i0, hi, hz0, hz1, hz2⟩ := info_parts info_u8f
  go_enter Tryd.func83, Tryd.ntmps83
  go_wp2_with (first
    | (go_at_call 109; refine (isFixed_any _ _).mono ?_; rintro e w' ⟨rfl, hw'⟩; subst w')
    | (at_make; refine wpList_make_full _ rfl _ _ 22 rfl w.heap.size 5 i0 (.int .u8 0) 1 Tryd.underlying22 hi hz0 hz1 .i64 .i64 _ _ s rfl rfl rfl rfl (by rw [hz2]; omega) (by unfold maxLen; omega) (Nat.le_refl _) ?_; intro w1 hown1 hgrow1))
  have hsz1 := hgrow1.size
  rw [Nat.mul_one, show (Value.int IntKind.u8 0).cells = #[.int .u8 0] from rfl, toList_madeCells_one] at hown1
  go_loopw [20] (fun i wr => ∃ k : Nat, k ≤ s ∧ i = .int .i64 k ∧ wr.ownsRow w.heap.size 5 1 (.slice (some ⟨w.heap.size, 0, none⟩) s s) s ((fixL k v ++ List.replicate (s - k) 0).map (Value.int .u8)) ∧ Below w.heap.size w wr) (fun i _ => s - (intOf i).toNat)
  case atStart => exact ⟨0, Nat.zero_le _, rfl, by simpa [fixL] using hown1, (Below.refl _ _).grown hgrow1 (Nat.le_refl _) (by intro k e; cases e)⟩
  case round =>
    obtain ⟨k, hk, rfl, hown, hb⟩ := hrel
    by_cases hlt : k < s
    · have hlti : (k : Int) < (s : Int) := by omega
      have hc := hown.cellAt k (by omega)
      have hf := hown.frozenAt k
      have hst := hown.stored k (.int .u8 (v / 2 ^ (8 * k) % 256))
      rw [zeros_set s k v _ hlt rfl] at hst
      have hcell : ∃ u, wr.cell? ⟨w.heap.size, k, none⟩ = some u := by
        rw [hc]
        exact ⟨_, List.getElem?_eq_getElem (by simp [fixL_len]; omega)⟩
      obtain ⟨u, hu⟩ := hcell
      clear hc hown1 hgrow1
      go_wp2
      go_roundw
      case rel => exact ⟨k + 1, by omega, by go_num, hst.1, hb.trans ((Below.refl _ _).grown hst.2 hb.size (by intro j e; cases e; exact Nat.le_refl _))⟩
      case measure => simp [intOf]; omega
    · obtain rfl : k = s := by omega
      clear hlt
      go_wp2
      go_ret2
      exact ⟨rfl, by simpa using hown, hb⟩
end Go.Proofs.YtmjlpfmacblcpaaDoor

namespace Go.Proofs.YtmjlpfmacblcpaaDoor
open Go.RowKit
set_option linter.unusedVariables false
set_option linter.unusedSimpArgs false
abbrev W32 := BitVec 32
def genW : W32 := 3988292384#32
def on (w : W32) : W32 := (w >>> 1) ^^^ (if w.getLsbD 0 then genW else 0#32)
def onN : Nat → W32 → W32
  | 0, w => w
  | k + 1, w => on (onN k w)

theorem bxor_left_comm (a b c : W32) : a ^^^ (b ^^^ c) = b ^^^ (a ^^^ c) := by rw [← BitVec.xor_assoc, BitVec.xor_comm a b, BitVec.xor_assoc]
theorem bxor_cancel (a b : W32) : a ^^^ (a ^^^ b) = b := by rw [← BitVec.xor_assoc, BitVec.xor_self, BitVec.zero_xor]
theorem on_xor (a b : W32) : on (a ^^^ b) = on a ^^^ on b := by
  unfold on
  rw [BitVec.ushiftRight_xor_distrib, BitVec.getLsbD_xor]
  cases a.getLsbD 0 <;> cases b.getLsbD 0 <;> simp [BitVec.xor_assoc, BitVec.xor_comm, bxor_left_comm, bxor_cancel]
theorem on_zero : on 0#32 = 0#32 := by decide
theorem onN_xor (k : Nat) (a b : W32) : onN k (a ^^^ b) = onN k a ^^^ onN k b := by
  induction k with
  | zero => rfl
  | succ k ih => simp only [onN, ih, on_xor]
theorem onN_zero (k : Nat) : onN k 0#32 = 0#32 := by
  induction k with
  | zero => rfl
  | succ k ih => simp only [onN, ih, on_zero]
theorem onN_add (a b : Nat) (w : W32) : onN (a + b) w = onN a (onN b w) := by
  induction a with
  | zero => simp [onN]
  | succ a ih => rw [Nat.succ_add]; simp only [onN, ih]
theorem onN_comm (a b : Nat) (w : W32) : onN a (onN b w) = onN b (onN a w) := by
  rw [← onN_add, ← onN_add, Nat.add_comm]

theorem on_double (y : W32) (h : y.toNat < 2 ^ 31) : on (y <<< 1) = y := by
  unfold on
  have e0 : (y <<< 1).getLsbD 0 = false := by simp
  rw [e0]
  simp only [Bool.false_eq_true, if_false, BitVec.xor_zero]
  apply BitVec.eq_of_toNat_eq
  simp [Nat.shiftLeft_eq, Nat.shiftRight_eq_div_pow]
  omega
theorem onN_shl (k : Nat) (y : W32) (h : y.toNat < 2 ^ (32 - k)) (hk : k ≤ 32) : onN k (y <<< k) = y := by
  induction k with
  | zero => simp [onN]
  | succ k ih =>
    have e : onN (k + 1) (y <<< (k + 1)) = onN k (on (y <<< (k + 1))) := by
      rw [onN_add k 1]; rfl
    have hp : y.toNat < 2 ^ (32 - k) := Nat.lt_of_lt_of_le h (Nat.pow_le_pow_right (by decide) (by omega))
    have e2 : (y <<< k).toNat < 2 ^ 31 := by
      rw [BitVec.toNat_shiftLeft, Nat.shiftLeft_eq]
      refine Nat.lt_of_le_of_lt (Nat.mod_le _ _) ?_
      have : y.toNat * 2 ^ k < 2 ^ (32 - (k + 1)) * 2 ^ k := Nat.mul_lt_mul_of_pos_right h (Nat.pow_pos (by decide))
      rw [← Nat.pow_add] at this
      rw [show 32 - (k + 1) + k = 31 by omega] at this
      exact this
    rw [e, BitVec.shiftLeft_add, on_double _ e2, ih hp (by omega)]

def halfL : List Int := [0, 498536548, 997073096, 651767980, 1994146192, 1802195444, 1303535960, 1342533948, 3988292384, 4027552580, 3604390888, 3412177804, 2607071920, 2262029012, 2685067896, 3183342108]
theorem half_split (r : W32) : r = ((r >>> 4) <<< 4) ^^^ (r &&& 15#32) := by
  apply BitVec.eq_of_getLsbD_eq
  intro i hi
  by_cases h : i < 4
  · rcases i with _ | _ | _ | _ | i <;> simp_all <;> first | (exfalso; omega) | skip
  · have e : 4 + (i - 4) = i := by omega
    have e2 : (15#32).getLsbD i = false := by
      have : ∀ j : Fin 32, 4 ≤ j.val → (15#32).getLsbD j.val = false := by decide
      exact this ⟨i, hi⟩ (Nat.le_of_not_lt h)
    simp [-BitVec.getLsbD_eq_getElem, h, hi, e, e2]
theorem half_tab : ∀ i : Fin 16, (((onN 4 (BitVec.ofNat 32 i.val)).toNat : Nat) : Int) = halfL.getD i.val 0 := by decide
theorem onN4 (r : W32) : onN 4 r = (r >>> 4) ^^^ onN 4 (r &&& 15#32) := by
  have h : (r >>> 4).toNat < 2 ^ (32 - 4) := by
    rw [BitVec.toNat_ushiftRight, Nat.shiftRight_eq_div_pow]
    have := r.isLt
    omega
  conv => lhs; rw [half_split r]
  rw [onN_xor, onN_shl 4 _ h (by decide)]
theorem and15 (r : W32) : r &&& 15#32 = BitVec.ofNat 32 (r.toNat % 16) := by
  apply BitVec.eq_of_toNat_eq
  have : r.toNat &&& 15 = r.toNat % 16 := Nat.and_two_pow_sub_one_eq_mod _ 4
  simp [this]
  omega
end Go.Proofs.YtmjlpfmacblcpaaDoor

namespace Go.Proofs.YtmjlpfmacblcpaaDoor
open Go.RowKit
set_option linter.unusedVariables false
set_option linter.unusedSimpArgs false
def oneW : W32 := 2147483648#32
def actN (a : W32) : Nat → W32 → W32
  | 0, _ => 0#32
  | i + 1, b => actN a i b ^^^ (if a.getLsbD (31 - i) then onN i b else 0#32)
def act (a b : W32) : W32 := actN a 32 b

theorem xor4 (a b c d : W32) : (a ^^^ b) ^^^ (c ^^^ d) = (a ^^^ c) ^^^ (b ^^^ d) := by
  simp only [BitVec.xor_assoc, bxor_left_comm]
theorem actN_xor (a : W32) (i : Nat) (b c : W32) : actN a i (b ^^^ c) = actN a i b ^^^ actN a i c := by
  induction i with
  | zero => simp [actN]
  | succ i ih =>
    simp only [actN, ih, onN_xor]
    split
    · rw [xor4]
    · simp
theorem actN_zero (a : W32) (i : Nat) : actN a i 0#32 = 0#32 := by
  induction i with
  | zero => rfl
  | succ i ih => simp only [actN, ih, onN_zero]; split <;> simp
theorem actN_on (a : W32) (i : Nat) (b : W32) : actN a i (on b) = on (actN a i b) := by
  induction i with
  | zero => simp [actN, on_zero]
  | succ i ih =>
    have e : onN i (on b) = on (onN i b) := onN_comm i 1 b
    simp only [actN, ih, on_xor, e]
    split
    · rfl
    · rw [on_zero]
theorem actN_onN (a : W32) (i k : Nat) (b : W32) : actN a i (onN k b) = onN k (actN a i b) := by
  induction k with
  | zero => rfl
  | succ k ih => simp only [onN, actN_on, ih]
theorem actN_comm (a b : W32) (m n : Nat) (c : W32) : actN a m (actN b n c) = actN b n (actN a m c) := by
  induction m with
  | zero => simp only [actN, actN_zero]
  | succ m ih =>
    simp only [actN, actN_xor, ih]
    split
    · rw [actN_onN]
    · rw [actN_zero]
theorem onN_one : ∀ i : Fin 32, onN i.val oneW = BitVec.twoPow 32 (31 - i.val) := by decide +kernel
theorem actN_one (a : W32) (n : Nat) (hn : n ≤ 32) (j : Nat) (hj : j < 32) : (actN a n oneW).getLsbD j = (decide (31 - j < n) && a.getLsbD j) := by
  induction n with
  | zero => simp [actN]
  | succ n ih =>
    have e := onN_one ⟨n, by omega⟩
    simp only at e
    simp only [actN, BitVec.getLsbD_xor, ih (by omega), e]
    by_cases h : j = 31 - n
    · subst h
      have h1 : ¬ (31 - (31 - n) < n) := by omega
      have h2 : 31 - (31 - n) < n + 1 := by omega
      cases ha : a.getLsbD (31 - n)
      · simp
      · simp only [h1, h2, decide_true, decide_false, Bool.false_and, Bool.true_and, if_true, BitVec.getLsbD_twoPow, hj]
        rfl
    · have h1 : decide (31 - j < n + 1) = decide (31 - j < n) := by simp only [decide_eq_decide]; omega
      rw [h1]
      split
      · rw [BitVec.getLsbD_twoPow]
        have : decide (31 - n = j) = false := by simp; omega
        rw [this]
        simp
      · simp
theorem act_one (a : W32) : act a oneW = a := by
  apply BitVec.eq_of_getLsbD_eq
  intro j hj
  rw [act, actN_one a 32 (by decide) j hj]
  have : 31 - j < 32 := by omega
  simp only [this, decide_true, Bool.true_and]
theorem act_comm (a b : W32) : act a b = act b a := by
  conv => lhs; rw [← act_one b]
  conv => rhs; rw [← act_one a]
  exact actN_comm _ _ _ _ _
theorem act_pow (a : W32) (k : Nat) : act a (onN k oneW) = onN k a := by
  rw [act, actN_onN]
  exact congrArg _ (act_one a)
theorem act_pow' (k : Nat) (b : W32) : act (onN k oneW) b = onN k b := by
  rw [act_comm, act_pow]

def bW (x : Int) : W32 := BitVec.ofNat 32 x.toNat
def takeW (r : W32) (x : Int) : W32 := onN 8 (r ^^^ bW x)
def runW : W32 → List Int → W32
  | r, [] => r
  | r, x :: l => runW (takeW r x) l
theorem runW_append (r : W32) (l m : List Int) : runW r (l ++ m) = runW (runW r l) m := by
  induction l generalizing r with
  | nil => rfl
  | cons x l ih => exact ih _
theorem runW_snoc (r : W32) (l : List Int) (x : Int) : runW r (l ++ [x]) = takeW (runW r l) x := by rw [runW_append]; rfl
/-- The sum of bytes. -/
def sumW (l : List Int) : W32 := ~~~ (runW (~~~ 0#32) l)
theorem not_not (a : W32) : ~~~ (~~~ a) = a := BitVec.not_not
end Go.Proofs.YtmjlpfmacblcpaaDoor

namespace Go.Proofs.YtmjlpfmacblcpaaDoor
open Go.RowKit
set_option linter.unusedVariables false
set_option linter.unusedSimpArgs false
/-- A word as the model's number. -/
def wI (a : W32) : Int := (a.toNat : Int)
theorem wI_xor (a b : W32) : bits .xor .u32 (wI a) (wI b) = wI (a ^^^ b) := by
  unfold wI
  rw [u32_xor_nat _ _ a.isLt b.isLt, BitVec.toNat_xor]
theorem wI_and (a b : W32) : bits .and .u32 (wI a) (wI b) = wI (a &&& b) := by
  unfold wI
  rw [u32_and_nat _ _ a.isLt b.isLt, BitVec.toNat_and]
theorem wI_shr (a : W32) (k : Nat) : wI a / 2 ^ k = wI (a >>> k) := by
  unfold wI
  rw [BitVec.toNat_ushiftRight, Nat.shiftRight_eq_div_pow]
  simp
end Go.Proofs.YtmjlpfmacblcpaaDoor
