import Derived.Test.YtmojfdccobebfaaGreatDoorProg
import Derived.WalkKit
import Derived.WalkSpells
import Derived.Test.YtmojfdccobebfaaGreatDoorPb
import Derived.Test.YtmojfdccobebfaaGreatDoorPa
import Derived.Deep.QuietTactic
import Derived.BigQuiet
import Derived.Deep.RegionHeld3
import Derived.Test.YtmojfdccobebfaaGreatDoorPd
import Derived.Test.YtmojfdccobebfaaGreatDoorPc
import Derived.Laws.EntriesVeiled
namespace Go.Proofs.YtmojfdccobebfaaGreatDoor
open Go.RowKit
set_option linter.unusedVariables false

/-! Steps in memory: three cells each. -/
def sv16 (s : St16) : Value := .agg #[.int .i64 s.1, .int .i64 s.2.1, .int .i64 s.2.2]
structure SpAt (w : World) (g o : Nat) (s : St16) : Prop where
  c0 : w.cell? ⟨g, o, none⟩ = some (.int .i64 s.1)
  c1 : w.cell? ⟨g, o + 1, none⟩ = some (.int .i64 s.2.1)
  c2 : w.cell? ⟨g, o + 2, none⟩ = some (.int .i64 s.2.2)
theorem SpAt.of_block {w w' : World} {g o : Nat} {x : St16} (h : SpAt w g o x) (hb : w'.heap[g]? = w.heap[g]?) : SpAt w' g o x :=
  ⟨(World.cell?_of_block (a := ⟨g, o, none⟩) hb).trans h.c0, (World.cell?_of_block (a := ⟨g, o + 1, none⟩) hb).trans h.c1, (World.cell?_of_block (a := ⟨g, o + 2, none⟩) hb).trans h.c2⟩
theorem SpAt.lt {w : World} {g o : Nat} {x : St16} (h : SpAt w g o x) : g < w.heap.size := World.block_lt_of_cell? w _ h.c0
def Fit16 (s : St16) : Prop := (-9223372036854775808 ≤ s.1 ∧ s.1 ≤ 9223372036854775807) ∧ (-9223372036854775808 ≤ s.2.1 ∧ s.2.1 ≤ 9223372036854775807) ∧ (-9223372036854775808 ≤ s.2.2 ∧ s.2.2 ≤ 9223372036854775807)
structure SegS (w : World) (a : Option Addr) (l : List St16) : Prop where
  at_ : ∀ i, i < l.length → ∃ b off, a = some ⟨b, off, none⟩ ∧ SpAt w b (off + i * 3) (l.getD i z16)
  fit : ∀ t ∈ l, Fit16 t
theorem SegS.nil (w : World) (a : Option Addr) : SegS w a [] := ⟨fun i h => by simp at h, fun t h => by simp at h⟩
theorem SegS.kp {w w' : World} {S : Nat → Prop} {a : Option Addr} {l : List St16} (h : SegS w a l) (hb : Kp S w w') (hn : ∀ b off, a = some ⟨b, off, none⟩ → 0 < l.length → ¬ S b) : SegS w' a l := by
  refine ⟨fun i hi => ?_, h.fit⟩
  obtain ⟨b, off, ha, ht⟩ := h.at_ i hi
  exact ⟨b, off, ha, ht.of_block (hb.block b ht.lt (hn b off ha (by omega)))⟩
theorem SegS.old {w w' : World} {a : Option Addr} {l : List St16} (h : SegS w a l) (hb : Below w.heap.size w w') : SegS w' a l := h.kp (S := fun _ => False) (Kp.of_below hb) (fun _ _ _ _ e => e)
theorem SegS.drew {w : World} {a : Option Addr} {l : List St16} (h : SegS w a l) : SegS w.drew a l := h.old ((Below.refl _ _).drew)
theorem SegS.lt {w : World} {a : Option Addr} {l : List St16} (h : SegS w a l) : ∀ b off, a = some ⟨b, off, none⟩ → 0 < l.length → b < w.heap.size := by
  intro b off e hl
  obtain ⟨b', off', ha, ht⟩ := h.at_ 0 hl
  rw [e] at ha
  cases ha
  exact ht.lt
theorem getD_memS {l : List St16} {i : Nat} (h : i < l.length) : l.getD i z16 ∈ l := by simp [List.getD, h]
theorem below_box16 {w : World} (cs : Array Value) (t : TypeId) : Below w.heap.size w (w.alloc (.cells cs t)) := (Below.refl _ _).alloc (Nat.le_refl _) _
theorem boxS {w wA : World} {s : St16} {t : TypeId} (hA : wA = w.alloc (.cells #[.int .i64 s.1, .int .i64 s.2.1, .int .i64 s.2.2] t)) : SpAt wA w.heap.size 0 s := by
  have h : wA.heap[w.heap.size]? = some (.cells #[.int .i64 s.1, .int .i64 s.2.1, .int .i64 s.2.2] t (0, 0)) := by rw [hA]; exact heap_alloc_new w _
  refine ⟨?_, ?_, ?_⟩ <;> simp [World.cell?, h]

/-! mayBe, sums. -/
def sumR16 (S : List St16) (n : Nat) : Value := .tuple (if S.all may16 = true then #[.int .i64 (sa16 S n : Int), .int .i64 (sc16 S n : Int), .int .i64 0] else #[.int .i64 0, .int .i64 0, .int .i64 160])
end Go.Proofs.YtmojfdccobebfaaGreatDoor

namespace Go.Proofs.YtmojfdccobebfaaGreatDoor
open Go.RowKit Go.Shelf
set_option linter.unusedVariables false
attribute [local go_sem] Oper.semAt_some

/-! walk: each step, with the place at which it begins. -/
/-- A closure's box: one block more. -/
structure Cb16 (w : World) (v : Array Value) (t : TypeId) (w' : World) : Prop where
  bl : Below w.heap.size w w'
  sz : w'.heap.size = w.heap.size + 1
  cl : w'.heap[w.heap.size]? = some (.cells v t (0, 0))
theorem cb16 (w : World) (v : Array Value) (t : TypeId) : Cb16 w v t (w.alloc (.cells v t)) := ⟨below_box16 _ _, by simp, heap_alloc_new w _⟩
def wl16 (S : List St16) (n : Nat) : List (Array Value) := (List.range n).map fun i => #[.int .i64 (pl16 S i), sv16 (S.getD i z16)]
theorem wl16_len (S : List St16) (n : Nat) : (wl16 S n).length = n := by simp [wl16]
theorem wl16_get {S : List St16} {n i : Nat} (h : i < n) : (wl16 S n)[i]? = some #[.int .i64 (pl16 S i), sv16 (S.getD i z16)] := by simp [wl16, h]
theorem SegS.kr {w w' : World} {D : Nat → Prop} {a : Option Addr} {l : List St16} (h : SegS w a l) (hb : Kr16 D w w') (hn : ∀ b off, a = some ⟨b, off, none⟩ → 0 < l.length → D b) : SegS w' a l := by
  refine ⟨fun i hi => ?_, h.fit⟩
  obtain ⟨b, off, ha, ht⟩ := h.at_ i hi
  exact ⟨b, off, ha, ht.of_block (hb.block b ht.lt (hn b off ha (by omega)))⟩
end Go.Proofs.YtmojfdccobebfaaGreatDoor

namespace Go.Proofs.YtmojfdccobebfaaGreatDoor
open Go.RowKit
set_option linter.unusedVariables false

/-! frame: a header's fields. -/
structure Hd18 where
  o : Int
  n : Int
  so : Int
  sn : Int
  wi : Int
  lo : Int
def Hd18.cs (h : Hd18) : Array Value := #[.int .i64 h.o, .int .i64 h.n, .int .u32 h.so, .int .u32 h.sn, .int .i64 h.wi, .int .i64 h.lo]
def Hd18.Ok (h : Hd18) : Prop := (0 ≤ h.o ∧ h.o ≤ 16777216) ∧ (0 ≤ h.n ∧ h.n ≤ 16777216) ∧ (64 ≤ h.wi ∧ h.wi ≤ 65536) ∧ 1 ≤ h.lo ∧ h.lo ≤ 32768
instance (h : Hd18) : Decidable h.Ok := by unfold Hd18.Ok; infer_instance
def bt18 (p : Nat) : Value := .func (.func 79) #[] #[.pointer (some ⟨p, 0, none⟩), .pointer (some ⟨p + 1, 0, none⟩)]
def fl18 (B : Nat) : Array Value := #[.func (.func 51) #[] #[], bt18 B, .func (.func 53) #[] #[], bt18 (B + 2), .func (.func 54) #[] #[], bt18 (B + 4), .func (.func 55) #[] #[], bt18 (B + 6)]
set_option maxRecDepth 100000 in
theorem pbtw18 (x y : Int) (w : World) : Calls Tryz.prog 52 #[.int .i64 x, .int .i64 y] w fun e w' => e = .returned (.func (.func 79) #[] #[.pointer (some ⟨w.heap.size, 0, none⟩), .pointer (some ⟨w.heap.size + 1, 0, none⟩)]) ∧ w' = (w.alloc (.cells #[.int .i64 x] 3)).alloc (.cells #[.int .i64 y] 3) := by
  have hmf : ∀ (fn : Fn) (first cap : Array Value) (w : World), (Instr.makeFunc fn first cap).run Tryz.prog w = .ok (.func fn first cap) w := fun _ _ _ _ => rfl
  go_enter Tryz.func52, Tryz.ntmps52
  go_wp2
  go_ret
  exact ⟨rfl, rfl⟩
end Go.Proofs.YtmojfdccobebfaaGreatDoor
