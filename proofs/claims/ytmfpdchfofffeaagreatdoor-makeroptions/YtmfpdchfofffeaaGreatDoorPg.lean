import Derived.Test.YtmfpdchfofffeaaGreatDoorProg
import Derived.WalkKit
import Derived.WalkSpells
import Derived.Test.YtmfpdchfofffeaaGreatDoorPa
import Derived.Deep.QuietTactic
import Derived.BigQuiet
import Derived.Deep.RegionHeld3
import Derived.Test.YtmfpdchfofffeaaGreatDoorPf
import Derived.Laws.EntriesVeiled
import Derived.RangeFuncNested
import Derived.RangeFuncBound
import Derived.RangeFuncCalls
import Derived.RangeFuncLeaves
import Derived.Shelf.Abstract
import Derived.OwnWalkIn
import Derived.TacticsInMore
import Derived.LoopNIn
import Derived.LoopIn
import Derived.StillTailTactics
import Derived.OrdersIn
import Derived.OrdersHeld
import Derived.Deep.RegionHeld
namespace Go.Proofs.YtmfpdchfofffeaaGreatDoor
open Go.RowKit
set_option linter.unusedVariables false
def sv16 (s : St16) : Value := .agg #[.int .i64 s.1, .int .i64 s.2.1, .int .i64 s.2.2]
structure SpAt (w : World) (g o : Nat) (s : St16) : Prop where
  c0 : w.cell? ⟨g, o, none⟩ = some (.int .i64 s.1)
  c1 : w.cell? ⟨g, o + 1, none⟩ = some (.int .i64 s.2.1)
  c2 : w.cell? ⟨g, o + 2, none⟩ = some (.int .i64 s.2.2)
theorem SpAt.of_block {w w' : World} {g o : Nat} {x : St16} (h : SpAt w g o x) (hb : w'.heap[g]? = w.heap[g]?) : SpAt w' g o x :=
  ⟨(World.cell?_of_block (a := ⟨g, o, none⟩) hb).trans h.c0, (World.cell?_of_block (a := ⟨g, o + 1, none⟩) hb).trans h.c1, (World.cell?_of_block (a := ⟨g, o + 2, none⟩) hb).trans h.c2⟩
theorem SpAt.lt {w : World} {g o : Nat} {x : St16} (h : SpAt w g o x) : g < w.heap.size := World.block_lt_of_cell? w _ h.c0
def Fit16 (s : St16) : Prop := (-9223372036854775808 ≤ s.1 ∧ s.1 ≤ 9223372036854775807) ∧ (-9223372036854775808 ≤ s.2.1 ∧ s.2.1 ≤ 9223372036854775807) ∧ (-9223372036854775808 ≤ s.2.2 ∧ s.2.2 ≤ 9223372036854775807)
structure SegS (w : World) (a : Option Addr) (l : List St16) : Prop where
  at_ : ∀ i, i < l.length → ∃ b off, a = some ⟨b, off, none⟩ ∧ SpAt w b (off + i * 3) (l.getD i z16)
  fit : ∀ t ∈ l, Fit16 t
theorem SegS.nil (w : World) (a : Option Addr) : SegS w a [] := ⟨fun i h => by simp at h, fun t h => by simp at h⟩
theorem SegS.kp {w w' : World} {S : Nat → Prop} {a : Option Addr} {l : List St16} (h : SegS w a l) (hb : Kp S w w') (hn : ∀ b off, a = some ⟨b, off, none⟩ → 0 < l.length → ¬ S b) : SegS w' a l := by
  refine ⟨fun i hi => ?_, h.fit⟩
  obtain ⟨b, off, ha, ht⟩ := h.at_ i hi
  exact ⟨b, off, ha, ht.of_block (hb.block b ht.lt (hn b off ha (by omega)))⟩
theorem SegS.old {w w' : World} {a : Option Addr} {l : List St16} (h : SegS w a l) (hb : Below w.heap.size w w') : SegS w' a l := h.kp (S := fun _ => False) (Kp.of_below hb) (fun _ _ _ _ e => e)
theorem SegS.drew {w : World} {a : Option Addr} {l : List St16} (h : SegS w a l) : SegS w.drew a l := h.old ((Below.refl _ _).drew)
theorem SegS.lt {w : World} {a : Option Addr} {l : List St16} (h : SegS w a l) : ∀ b off, a = some ⟨b, off, none⟩ → 0 < l.length → b < w.heap.size := by
  intro b off e hl
  obtain ⟨b', off', ha, ht⟩ := h.at_ 0 hl
  rw [e] at ha
  cases ha
  exact ht.lt
theorem below_box16 {w : World} (cs : Array Value) (t : TypeId) : Below w.heap.size w (w.alloc (.cells cs t)) := (Below.refl _ _).alloc (Nat.le_refl _) _
theorem boxS {w wA : World} {s : St16} {t : TypeId} (hA : wA = w.alloc (.cells #[.int .i64 s.1, .int .i64 s.2.1, .int .i64 s.2.2] t)) : SpAt wA w.heap.size 0 s := by
  have h : wA.heap[w.heap.size]? = some (.cells #[.int .i64 s.1, .int .i64 s.2.1, .int .i64 s.2.2] t (0, 0)) := by rw [hA]; exact heap_alloc_new w _
  refine ⟨?_, ?_, ?_⟩ <;> simp [World.cell?, h]

set_option maxRecDepth 100000 in
set_option maxHeartbeats 2000000 in
theorem pmay16 (s : St16) (w : World) : Calls Tryz.prog 85 #[sv16 s] w fun e w' => e = .returned (.bool (may16 s)) ∧ Below w.heap.size w w' := by
  obtain ⟨a, c, k⟩ := s
  unfold sv16
  simp only
  have hno : ¬ (0 ≤ a ∧ a ≤ 16777216 ∧ 0 ≤ c ∧ c ≤ 16777216 ∧ -16777216 ≤ k ∧ k ≤ 16777216) → may16 (a, c, k) = false := fun h => by unfold may16; exact decide_eq_false h
  by_cases h1 : 0 ≤ a
  · by_cases h2 : a ≤ 16777216
    · by_cases h3 : 0 ≤ c
      · by_cases h4 : c ≤ 16777216
        · by_cases h5 : -16777216 ≤ k
          · by_cases h6 : k ≤ 16777216
            · rw [show may16 (a, c, k) = true from may16_iff.2 ⟨h1, h2, h3, h4, h5, h6⟩]
              clear hno
              go_enter Tryz.func85, Tryz.ntmps85
              go_wp2
              go_ret
              exact ⟨rfl, below_box16 _ _⟩
            · rw [hno (by omega)]
              clear hno
              go_enter Tryz.func85, Tryz.ntmps85
              go_wp2
              go_ret
              exact ⟨rfl, below_box16 _ _⟩
          · rw [hno (by omega)]
            clear hno
            go_enter Tryz.func85, Tryz.ntmps85
            go_wp2
            go_ret
            exact ⟨rfl, below_box16 _ _⟩
        · rw [hno (by omega)]
          clear hno
          go_enter Tryz.func85, Tryz.ntmps85
          go_wp2
          go_ret
          exact ⟨rfl, below_box16 _ _⟩
      · rw [hno (by omega)]
        clear hno
        go_enter Tryz.func85, Tryz.ntmps85
        go_wp2
        go_ret
        exact ⟨rfl, below_box16 _ _⟩
    · rw [hno (by omega)]
      clear hno
      go_enter Tryz.func85, Tryz.ntmps85
      go_wp2
      go_ret
      exact ⟨rfl, below_box16 _ _⟩
  · rw [hno (by omega)]
    clear hno
    go_enter Tryz.func85, Tryz.ntmps85
    go_wp2
    go_ret
    exact ⟨rfl, below_box16 _ _⟩
def sumR16 (S : List St16) (n : Nat) : Value := .tuple (if S.all may16 = true then #[.int .i64 (sa16 S n : Int), .int .i64 (sc16 S n : Int), .int .i64 0] else #[.int .i64 0, .int .i64 0, .int .i64 160])
set_option maxRecDepth 100000 in
set_option maxHeartbeats 2000000 in
theorem psum16 (a : Option Addr) (n cap : Nat) (S : List St16) (w : World) (hs : SegS w a S) (hn : Hid (S.length = n)) (hl : n ≤ 1073741824) :
    Calls Tryz.prog 52 #[.slice a n cap] w fun e w' => e = .returned (sumR16 S n) ∧ Below w.heap.size w w' := by
  go_enter Tryz.func52, Tryz.ntmps52
  go_wp2_with fail
  go_loopw [5, 6, 11] (fun ta tc ti wr => ∃ i : Nat, i ≤ n ∧ ti = .int .i64 (i : Int) ∧ ta = .int .i64 (sa16 S i : Int) ∧ tc = .int .i64 (sc16 S i : Int) ∧ Hid (Ok16 S i) ∧ Below w.heap.size w wr) (fun _ _ ti _ => n - (intOf ti).toNat)
  case atStart => exact ⟨0, by omega, rfl, rfl, rfl, Ok16.zero S, Below.refl _ _⟩
  case round =>
    obtain ⟨i, hi, rfl, rfl, rfl, HO, BR⟩ := hrel
    by_cases hin : i < n
    · have hii : (i : Int) < (n : Int) := by omega
      have hil : i < S.length := by rw [hn.out]; exact hin
      obtain ⟨b, off, rfl, hT⟩ := (hs.old BR).at_ i hil
      have hpm := pmay16 (S.getD i z16)
      have hsl := sa16_le i HO.out
      cases hm : may16 (S.getD i z16)
      · have HA : Hid (S.all may16 = false) := not_all16 hil hm
        rw [hm] at hpm
        have hc0 := hT.c0
        have hc1 := hT.c1
        have hc2 := hT.c2
        have CM : Hid (∀ W, Calls Tryz.prog 85 #[sv16 (S.getD i z16)] W fun e w' => e = .returned (.bool false) ∧ Below W.heap.size W w') := hpm
        clear hT hpm hm hsl HO
        generalize S.getD i z16 = s at *
        obtain ⟨sa, sc, sk⟩ := s
        unfold sv16 at CM
        simp only at hc0 hc1 hc2 CM
        obtain ⟨wA, hwA⟩ : ∃ wA, wA = wr.alloc (.cells #[.int .i64 sa, .int .i64 sc, .int .i64 sk] 108) := ⟨_, rfl⟩
        have HWA : Hid (wr.alloc (.cells #[.int .i64 sa, .int .i64 sc, .int .i64 sk] 108) = wA) := hwA.symm
        have tA : SpAt wA wr.heap.size 0 (sa, sc, sk) := boxS hwA
        have BA : Below w.heap.size w wA := by rw [hwA]; exact BR.trans ((below_box16 _ _).mono BR.size)
        clear hwA
        go_wp2_with fail
        rw [HWA.out]
        refine (CM.out wA).mono ?_
        rintro e w1 ⟨rfl, b1⟩
        go_wp2_with fail
        go_ret3
        exact ⟨by unfold sumR16; rw [HA.out]; rfl, BA.trans (b1.mono BA.size)⟩
      · have HO2 : Hid (Ok16 S (i + 1)) := HO.out.succ hm
        have hb2 := ad16_le HO2.out (show i < i + 1 by omega)
        rw [hm] at hpm
        have hc0 := hT.c0
        have hc1 := hT.c1
        have hc2 := hT.c2
        have CM : Hid (∀ W, Calls Tryz.prog 85 #[sv16 (S.getD i z16)] W fun e w' => e = .returned (.bool true) ∧ Below W.heap.size W w') := hpm
        have HSA : Hid (sa16 S (i + 1) = sa16 S i + ad16 S i) := rfl
        have HSC : Hid (sc16 S (i + 1) = sc16 S i + cp16 S i) := rfl
        clear hT hpm hm HO
        obtain ⟨hb3, hb4, hb5, hb6, hb7, hb8⟩ := hb2
        generalize S.getD i z16 = s at *
        obtain ⟨sa, sc, sk⟩ := s
        unfold sv16 at CM
        simp only at hc0 hc1 hc2 CM hb5 hb6
        subst hb5 hb6
        have hw1 : IntKind.i64.wrap ((sa16 S i : Int) + (ad16 S i : Int)) = (sa16 S (i + 1) : Int) := by rw [HSA.out, IntWalk.i64_in _ (by omega)]; omega
        have hw2 : IntKind.i64.wrap ((sc16 S i : Int) + (cp16 S i : Int)) = (sc16 S (i + 1) : Int) := by rw [HSC.out, IntWalk.i64_in _ (by omega)]; omega
        obtain ⟨wA, hwA⟩ : ∃ wA, wA = wr.alloc (.cells #[.int .i64 (ad16 S i : Int), .int .i64 (cp16 S i : Int), .int .i64 sk] 108) := ⟨_, rfl⟩
        have HWA : Hid (wr.alloc (.cells #[.int .i64 (ad16 S i : Int), .int .i64 (cp16 S i : Int), .int .i64 sk] 108) = wA) := hwA.symm
        have tA : SpAt wA wr.heap.size 0 ((ad16 S i : Int), (cp16 S i : Int), sk) := boxS hwA
        have BA : Below w.heap.size w wA := by rw [hwA]; exact BR.trans ((below_box16 _ _).mono BR.size)
        obtain ⟨ob, hob⟩ : ∃ ob, ob = wr.heap.size := ⟨_, rfl⟩
        have HOB : Hid (wr.heap.size = ob) := hob.symm
        rw [← hob] at tA
        have hol := tA.lt
        have HTA : Hid (∀ W, Below wA.heap.size wA W → SpAt W ob 0 ((ad16 S i : Int), (cp16 S i : Int), sk)) := fun W hW => tA.of_block (hW.block ob hol)
        clear hwA hob tA hb3 hb4 hb7 hb8 hsl
        obtain ⟨A1, hA1⟩ : ∃ A1, A1 = sa16 S (i + 1) := ⟨_, rfl⟩
        obtain ⟨C1, hC1⟩ : ∃ C1, C1 = sc16 S (i + 1) := ⟨_, rfl⟩
        rw [← hA1] at hw1
        rw [← hC1] at hw2
        have HA1 : Hid (A1 = sa16 S (i + 1)) := hA1
        have HC1 : Hid (C1 = sc16 S (i + 1)) := hC1
        clear hA1 hC1 HSA HSC
        generalize sa16 S i = A0 at *
        generalize sc16 S i = C0 at *
        generalize ad16 S i = a1 at *
        generalize cp16 S i = c1 at *
        go_wp2_with fail
        rw [HWA.out, HOB.out]
        refine (CM.out wA).mono ?_
        rintro e w1 ⟨rfl, b1⟩
        obtain ⟨e0, e1, e2⟩ := HTA.out w1 b1
        simp only at e0 e1 e2
        go_wp2_with fail
        go_roundw
        case rel => exact ⟨i + 1, by omega, by simp, by rw [HA1.out], by rw [HC1.out], HO2, BA.trans (b1.mono BA.size)⟩
        case measure => simp [intOf]; omega
    · have hk2 : i = n := by omega
      have HA : Hid (S.all may16 = true) := by have := HO.out; rw [hk2, ← hn.out] at this; exact this.all
      have hneg : ¬ (i : Int) < (n : Int) := by omega
      subst hk2
      go_wp2_with fail
      go_ret3
      exact ⟨by unfold sumR16; rw [HA.out]; rfl, BR⟩
end Go.Proofs.YtmfpdchfofffeaaGreatDoor

namespace Go.Proofs.YtmfpdchfofffeaaGreatDoor
open Go.RowKit Go.Shelf
set_option linter.unusedVariables false
attribute [local go_sem] Oper.semAt_some
/-- A closure's box: one block more. -/
structure Cb16 (w : World) (v : Array Value) (t : TypeId) (w' : World) : Prop where
  bl : Below w.heap.size w w'
  sz : w'.heap.size = w.heap.size + 1
  cl : w'.heap[w.heap.size]? = some (.cells v t (0, 0))
theorem cb16 (w : World) (v : Array Value) (t : TypeId) : Cb16 w v t (w.alloc (.cells v t)) := ⟨below_box16 _ _, by simp, heap_alloc_new w _⟩
set_option maxRecDepth 100000 in
theorem pwalk16 (a : Option Addr) (n cap : Nat) (w : World) : Calls Tryz.prog 55 #[.slice a n cap] w fun e w' => e = .returned (.func (.func 87) #[] #[.pointer (some ⟨w.heap.size, 0, none⟩)]) ∧ Cb16 w #[.slice a n cap] 46 w' := by
  go_enter Tryz.func55, Tryz.ntmps55
  go_wp2
  go_ret
  exact ⟨rfl, cb16 _ _ _⟩
def wl16 (S : List St16) (n : Nat) : List (Array Value) := (List.range n).map fun i => #[.int .i64 (pl16 S i), sv16 (S.getD i z16)]
theorem wl16_len (S : List St16) (n : Nat) : (wl16 S n).length = n := by simp [wl16]
theorem wl16_get {S : List St16} {n i : Nat} (h : i < n) : (wl16 S n)[i]? = some #[.int .i64 (pl16 S i), sv16 (S.getD i z16)] := by simp [wl16, h]
theorem SegS.kr {w w' : World} {D : Nat → Prop} {a : Option Addr} {l : List St16} (h : SegS w a l) (hb : Kr16 D w w') (hn : ∀ b off, a = some ⟨b, off, none⟩ → 0 < l.length → D b) : SegS w' a l := by
  refine ⟨fun i hi => ?_, h.fit⟩
  obtain ⟨b, off, ha, ht⟩ := h.at_ i hi
  exact ⟨b, off, ha, ht.of_block (hb.block b ht.lt (hn b off ha (by omega)))⟩
set_option maxRecDepth 100000 in
set_option maxHeartbeats 4000000 in
theorem wk16 (m : Nat) (hm2 : 2 ≤ m) (B : Nat) (a : Option Addr) (n cap : Nat) (S : List St16) (R : Nat → Prop) (w : World) (hB : w.cell? ⟨B, 0, none⟩ = some (.slice a n cap)) (hs : SegS w a S) (hn : Hid (S.length = n)) (hl : n ≤ 1073741824) (hok : Hid (Ok16 S n)) (hRB : R B) (hRa : ∀ b off, a = some ⟨b, off, none⟩ → 0 < S.length → R b) :
    Seq16 m Tryz.prog 87 #[.pointer (some ⟨B, 0, none⟩)] (wl16 S n) R w := by
  intro l J PX W hW hJ hP hY h0
  have hBW := hW.cell hB hRB
  have hsW := hs.kr hW hRa
  clear hB hs
  refine callsIn_of_wp Tryz.func87 rfl trivial ?_ rfl
  simp only [Tryz.ntmps87, List.size_toArray, List.length_cons, List.length_nil, Nat.reduceAdd, Nat.reduceSub, Array.replicate_succ, Array.replicate_zero, List.push_toArray, List.append_toArray, List.nil_append, List.cons_append]
  gi_wp2
  gi_loopw [3, 8] (fun t3 t8 wr => ∃ (i : Nat) (E : Nat → Prop), i ≤ n ∧ t8 = .int .i64 (i : Int) ∧ t3 = .int .i64 (pl16 S i) ∧ J i E wr ∧ Lo16 W.heap.size E wr ∧ Kr16 R W wr) (fun _ t8 _ => n - (intOf t8).toNat)
  case atStart => exact ⟨0, fun _ => False, Nat.zero_le _, rfl, rfl, h0, fun k hk => hk.elim, Kr16.refl _ _⟩
  case round =>
    obtain ⟨i, E, hi, rfl, rfl, hJi, hlo, hkr⟩ := hrel
    by_cases hlt : i < n
    · have hii : (i : Int) < (n : Int) := by omega
      have hi0 : (0 : Int) ≤ (i : Int) := by omega
      have hil : i < S.length := by rw [hn.out]; exact hlt
      obtain ⟨b, off, rfl, hT⟩ := (hsW.kr hkr hRa).at_ i hil
      have hc0 := hT.c0
      have hc1 := hT.c1
      have hc2 := hT.c2
      have hbd := ad16_le hok.out hlt
      have hpl := sa16_le i (hok.out.mono hi)
      obtain ⟨q1, q2, q3, q4, q5, q6⟩ := hbd
      obtain ⟨p1, p2, p3, p4⟩ := hpl
      have HPL : Hid (pl16 S (i + 1) = pl16 S i + (ad16 S i : Int) + sk16 S i) := rfl
      have hget := wl16_get (S := S) hlt
      have hsk : (S.getD i z16).2.2 = sk16 S i := rfl
      rw [← q3] at hc0
      rw [← q4] at hc1
      rw [hsk] at hc2
      have hsv : sv16 (S.getD i z16) = .agg #[.int .i64 (ad16 S i : Int), .int .i64 (cp16 S i : Int), .int .i64 (sk16 S i)] := by unfold sv16; rw [← q3, ← q4, hsk]
      rw [hsv] at hget
      obtain ⟨wA, hwA⟩ : ∃ wA, wA = wr.alloc (.cells #[.int .i64 (ad16 S i : Int), .int .i64 (cp16 S i : Int), .int .i64 (sk16 S i)] 108) := ⟨_, rfl⟩
      have tA : SpAt wA wr.heap.size 0 ((ad16 S i : Int), (cp16 S i : Int), sk16 S i) := boxS hwA
      have bA : Below wr.heap.size wr wA := by rw [hwA]; exact below_box16 _ _
      have szA : wA.heap.size = wr.heap.size + 1 := by rw [hwA]; simp
      obtain ⟨E', hE'⟩ : ∃ E' : Nat → Prop, E' = fun k => E k ∨ k = wr.heap.size := ⟨_, rfl⟩
      have hszr := hkr.size
      have hlo' : Lo16 W.heap.size E' wA := by
        intro k hk
        rw [hE'] at hk
        rcases hk with hk | hk
        · have := hlo k hk; omega
        · omega
      have hJA : J i E' wA := hJ i E E' wr wA hJi hlo (Kp.of_below bA) (fun k hk => by rw [hE']; exact .inl hk) (fun k hk => by rw [hE'] at hk; rcases hk with hk | hk; exact .inl hk; exact .inr (by omega)) hlo'
      have hkA : Kr16 R W wA := hkr.trans ⟨bA.size, fun k hk _ => bA.block k hk⟩
      have hEB : E' wr.heap.size := by rw [hE']; exact .inr rfl
      obtain ⟨fn, tmps, assign, body, hy, hR⟩ := hY i _ E' wA hget hJA hlo' hkA
      have hol := tA.lt
      have HTA : Hid (∀ W3, Kr16 (fun k => E' k ∨ R k) wA W3 → SpAt W3 wr.heap.size 0 ((ad16 S i : Int), (cp16 S i : Int), sk16 S i)) := fun W3 h3 => tA.of_block (h3.block _ hol (.inl hEB))
      have a0 := tA.c0
      have a1 := tA.c1
      have a2 := tA.c2
      obtain ⟨P0, hP0⟩ : ∃ P0, P0 = pl16 S (i + 1) := ⟨_, rfl⟩
      have hw1 : IntKind.i64.wrap ((ad16 S i : Int) + sk16 S i) = (ad16 S i : Int) + sk16 S i := IntWalk.i64_in _ (by omega)
      have hw2 : IntKind.i64.wrap (pl16 S i + ((ad16 S i : Int) + sk16 S i)) = P0 := by rw [hP0, HPL.out, IntWalk.i64_in _ (by omega)]; omega
      have HP0 : Hid (P0 = pl16 S (i + 1)) := hP0
      have HLO : Hid (Lo16 W.heap.size E' wA) := hlo'
      have HKA : Hid (Kr16 R W wA) := hkA
      rw [hwA] at hy a0 a1 a2
      have HWA : Hid (wA = wr.alloc (.cells #[.int .i64 (ad16 S i : Int), .int .i64 (cp16 S i : Int), .int .i64 (sk16 S i)] 108)) := hwA
      clear hT hget hsk hsv tA bA szA hE' hlo' hJA hkA hJi hP0 hwA q3 q4 hlo hkr HPL
      generalize pl16 S i = p at *
      generalize ad16 S i = ai at *
      generalize cp16 S i = ci at *
      generalize sk16 S i = si at *
      gi_wp2
      refine ⟨fun _ => by omega, ?_⟩
      rw [← HWA.out]
      refine hR.mono ?_
      rintro e W3 hyd
      cases e with
      | returned v =>
        obtain ⟨rfl, hJ3, hk3⟩ := hyd
        obtain ⟨e0, e1, e2⟩ := HTA.out W3 hk3
        simp only at e0 e1 e2
        have HJ3 : Hid (J (i + 1) E' W3) := hJ3
        have HL3 : Hid (Lo16 W.heap.size E' W3) := fun k hk => ⟨(HLO.out k hk).1, Nat.lt_of_lt_of_le (HLO.out k hk).2 hk3.size⟩
        have HK3 : Hid (Kr16 R W W3) := HKA.out.trans (hk3.mono fun k hk => .inr hk)
        clear hJ3 hk3 hR hy HTA HLO HKA
        gi_wp2
        go_roundw
        case rel => exact ⟨i + 1, E', by omega, by simp, by rw [HP0.out], HJ3.out, HL3.out, HK3.out⟩
        case measure => simp [intOf]; omega
      | panicked ch =>
        obtain ⟨hx, hk3⟩ := hyd
        have HL3 : Hid (Lo16 W.heap.size E' W3) := fun k hk => ⟨(HLO.out k hk).1, Nat.lt_of_lt_of_le (HLO.out k hk).2 hk3.size⟩
        have HX : Hid (PX ch E' W3) := hx
        clear hx hk3 hR hy HTA HLO HKA
        gi_wp2
        exact ⟨rfl, E', HL3.out, HX.out⟩
      | outgrown => exact hyd.elim
    · have hk2 : i = n := by omega
      have hneg : ¬ (i : Int) < (n : Int) := by omega
      have HJ : Hid (J (wl16 S n).length E wr) := by show J _ _ _; rw [wl16_len, ← hk2]; exact hJi
      clear hk2 hJi
      gi_wp2
      go_end0
      exact ⟨E, hlo, HJ.out⟩
end Go.Proofs.YtmfpdchfofffeaaGreatDoor

namespace Go.Proofs.YtmfpdchfofffeaaGreatDoor
open Go.RowKit
set_option linter.unusedVariables false
structure Hd18 where
  o : Int
  n : Int
  so : Int
  sn : Int
  wi : Int
  lo : Int
def Hd18.cs (h : Hd18) : Array Value := #[.int .i64 h.o, .int .i64 h.n, .int .u32 h.so, .int .u32 h.sn, .int .i64 h.wi, .int .i64 h.lo]
def Hd18.Ok (h : Hd18) : Prop := (0 ≤ h.o ∧ h.o ≤ 16777216) ∧ (0 ≤ h.n ∧ h.n ≤ 16777216) ∧ (64 ≤ h.wi ∧ h.wi ≤ 65536) ∧ 1 ≤ h.lo ∧ h.lo ≤ 32768
instance (h : Hd18) : Decidable h.Ok := by unfold Hd18.Ok; infer_instance
def bt18 (p : Nat) : Value := .func (.func 167) #[] #[.pointer (some ⟨p, 0, none⟩), .pointer (some ⟨p + 1, 0, none⟩)]
def fl18 (B : Nat) : Array Value := #[.func (.func 126) #[] #[], bt18 B, .func (.func 128) #[] #[], bt18 (B + 2), .func (.func 129) #[] #[], bt18 (B + 4), .func (.func 130) #[] #[], bt18 (B + 6)]
set_option maxRecDepth 100000 in
theorem pbtw18 (x y : Int) (w : World) : Calls Tryz.prog 127 #[.int .i64 x, .int .i64 y] w fun e w' => e = .returned (.func (.func 167) #[] #[.pointer (some ⟨w.heap.size, 0, none⟩), .pointer (some ⟨w.heap.size + 1, 0, none⟩)]) ∧ w' = (w.alloc (.cells #[.int .i64 x] 3)).alloc (.cells #[.int .i64 y] 3) := by
  have hmf : ∀ (fn : Fn) (first cap : Array Value) (w : World), (Instr.makeFunc fn first cap).run Tryz.prog w = .ok (.func fn first cap) w := fun _ _ _ _ => rfl
  go_enter Tryz.func127, Tryz.ntmps127
  go_wp2
  go_ret
  exact ⟨rfl, rfl⟩
end Go.Proofs.YtmfpdchfofffeaaGreatDoor

namespace Go.Proofs.YtmfpdchfofffeaaGreatDoor
open Go.RowKit
set_option linter.unusedVariables false
open Go.RowKit Go.Shelf
open Go.RowKit Go.Shelf
def nodef14 (ops : Array Oper) : Bool := ops.all fun o => match o.op with | .defer _ => false | _ => true
theorem nodef14_spec {ops : Array Oper} (h : nodef14 ops = true) {i : Nat} {o : Oper} (ho : ops[i]? = some o) : ∀ c, o.op ≠ .defer c := by
  intro c e
  obtain ⟨hi, rfl⟩ := Array.getElem?_eq_some_iff.1 ho
  have := (Array.all_eq_true.1 h) i hi
  rw [e] at this
  cases this
open Go.RowKit Go.Shelf
attribute [local go_sem] Oper.semAt_some
/-- Below n₀ nothing has turned, but for blocks of E. -/
structure KeepE (n₀ : Nat) (E : Nat → Prop) (W W' : World) : Prop where
  size : W.heap.size ≤ W'.heap.size
  block : ∀ k, k < n₀ → ¬ E k → W'.heap[k]? = W.heap[k]?
theorem KeepE.refl (n₀ : Nat) (E : Nat → Prop) (W : World) : KeepE n₀ E W W := ⟨Nat.le_refl _, fun _ _ _ => rfl⟩
theorem KeepE.trans {n₀ : Nat} {E : Nat → Prop} {A B C : World} (h : KeepE n₀ E A B) (k : KeepE n₀ E B C) : KeepE n₀ E A C := ⟨Nat.le_trans h.size k.size, fun i hi hn => (k.block i hi hn).trans (h.block i hi hn)⟩
theorem KeepE.of_below {n₀ : Nat} {E : Nat → Prop} {A B : World} (h : Below n₀ A B) : KeepE n₀ E A B := ⟨h.size, fun k hk _ => h.block k hk⟩
theorem KeepE.cell {n₀ : Nat} {E : Nat → Prop} {A B : World} (h : KeepE n₀ E A B) {p : Addr} (hp : p.block < n₀) (hn : ¬ E p.block) : B.cell? p = A.cell? p := World.cell?_of_block (w := A) (h.block p.block hp hn)
theorem KeepE.set {n₀ : Nat} {E : Nat → Prop} {W : World} {b i : Nat} (hb : n₀ ≤ b ∨ E b) (v : Value) : KeepE n₀ E W (W.setCell ⟨b, i, none⟩ v) := by
  refine ⟨by simp, fun k hk hn => heap_setCell_other _ _ _ _ ?_⟩
  intro e
  have e' : k = b := e
  subst e'
  rcases hb with h | h
  · omega
  · exact hn h
end Go.Proofs.YtmfpdchfofffeaaGreatDoor

namespace Go.Proofs.YtmfpdchfofffeaaGreatDoor
open Go.RowKit Go.Shelf
set_option linter.unusedVariables false
def nrm14 (Q : Exit → Act → World → Prop) : Exit → Act → World → Prop := fun e a w => e = .normal ∧ Q .normal a w
theorem nrm14_lets (Q : Exit → Act → World → Prop) : ¬ LetsOut (nrm14 Q) := by
  rintro ⟨a, w, h, _⟩
  cases h
theorem opIn_of_op14 {P : Program} {ops : Array Oper} {l n i : Nat} {w : World} {a : Act} {K K' : Act → World → Prop} {Q : Exit → Act → World → Prop} (hd : nodef14 ops = true) (h : ∀ a w, K a w → K' a w) (hh : wpOp P ops (nrm14 Q) i K a w) : wpOpIn (Fence.wide.inRound l) n P ops (nrm14 Q) i K' a w := by
  unfold wpOp at hh
  unfold wpOpIn
  split
  · rename_i ho; simp only [ho] at hh; exact h _ _ hh
  · rename_i o ho
    simp only [ho] at hh
    split
    · rename_i hw
      simp only [hw, if_true] at hh
      rcases hh with hh | ⟨_, hh⟩
      · refine ⟨fun _ _ => trivial, ?_⟩
        rw [Oper.semAt_eq _ _ _ (nodef14_spec hd ho)]
        unfold Oper.wp at hh
        generalize (execOp a.eval o).run P w = r at *
        cases r with
        | ok x w' =>
          cases x <;> simp only [Oper.upon] at hh
          case value v => exact h _ _ hh
          case skip => exact h _ _ hh
          case defer d => exact h _ _ hh
          case enter f args =>
            refine ⟨fun h => (by cases h), ?_⟩
            refine (CallsIn.inRound l (callsIn_wide.2 hh)).mono ?_
            intro e w2 he
            cases e with
            | returned v => exact h _ _ he
            | panicked c => exact he
            | outgrown => exact he
          case row row args =>
            refine ⟨fun h => (by cases h), fun c cs _ => ?_⟩
            obtain ⟨v, w2, r, s⟩ := hh c cs
            exact ⟨v, w2, h _ _ r, stepsIn_wide.2 s⟩
        | halt x w' => cases x <;> simp only [Oper.upon] at hh <;> exact hh
      · exact absurd hh (nrm14_lets Q)
    · rename_i hw
      simp only [hw] at hh
      exact ⟨fun _ _ => trivial, h _ _ hh⟩
theorem anyIn_of_any14 {P : Program} {ops : Array Oper} {md : Region.Mode} {l n : Nat} {Q : Exit → Act → World → Prop} (hd : nodef14 ops = true) :
    ∀ (f : Nat) (listed : Array Bool) (a : Act) (w : World), wpAny P md ops (nrm14 Q) f listed a w → wpAnyIn (Fence.wide.inRound l) n P md ops (nrm14 Q) f listed a w
  | 0, _, _, _, h => h
  | f + 1, _, _, _, h => ⟨h.1, fun i hi => opIn_of_op14 hd (fun a' w' h' => anyIn_of_any14 hd f _ a' w' h') (h.2 i hi)⟩
end Go.Proofs.YtmfpdchfofffeaaGreatDoor

namespace Go.Proofs.YtmfpdchfofffeaaGreatDoor
open Go.RowKit Go.Shelf
set_option linter.unusedVariables false
section
variable {P : Program} {ops : Array Oper} {Q : Exit → Act → World → Prop} {md : Region.Mode} {S : World → Prop} {fin : Nat}
def wpAnyK (P : Program) (md : Region.Mode) (ops : Array Oper) (Q : Exit → Act → World → Prop) (S : World → Prop) (fin : Nat) : Nat → Array Bool → Act → World → Prop
  | 0, listed, a, w => Region.ready md ops listed = [] ∧ Q .normal a w
  | fuel + 1, listed, a, w =>
    (Region.ready md ops listed = [] → Q .normal a w) ∧
    ∀ i ∈ Region.ready md ops listed, wpOp P ops Q i (fun a' w' => (i ≠ fin → S w') ∧ wpAnyK P md ops Q S fin fuel (listed.setIfInBounds i true) a' w') a w
theorem wpAny_of_K : ∀ (fuel : Nat) (listed : Array Bool) (a : Act) (w : World), wpAnyK P md ops Q S fin fuel listed a w → wpAny P md ops Q fuel listed a w
  | 0, _, _, _, h => h
  | fuel + 1, _, _, _, h => ⟨h.1, fun i hi => wpOp_mono (fun a' w' h' => wpAny_of_K fuel _ a' w' h'.2) (h.2 i hi)⟩
theorem wpAnyK_first {i : Nat} {oi : Oper} {v : Value} (hi : ops[i]? = some oi) (hsel : ∀ (j : Nat) (o : Oper) cs b, ops[j]? = some o → o.op ≠ .select cs b)
    (hQ : ∀ c a w, Q (.panic c) (a.put oi.dst v) w → Q (.panic c) a w) (hfin : ∀ o, ops[fin]? = some o → ∃ e ∈ o.after, Region.binds md e = true ∧ e.on = i) :
    ∀ (fuel : Nat) (listed : Array Bool) (a : Act) (w : World),
      (∀ j oj, ops[j]? = some oj → j ≠ i → listed.getD j true = false → (∀ e ∈ oj.after, Region.binds md e = true → e.on ≠ i) → oi.apart ops oj = true) →
      i ∈ Region.ready md ops listed → YieldsIf P ops S oi v a → S w →
      wpAnyK P md ops Q S fin fuel (listed.setIfInBounds i true) (a.put oi.dst v) w → wpAnyK P md ops Q S fin (fuel + 1) listed a w := by
  intro fuel
  induction fuel with
  | zero =>
    intro listed a w _ hr hy hS H
    refine ⟨fun h => (by rw [h] at hr; cases hr), fun j hj => ?_⟩
    by_cases hji : j = i
    · subst hji; exact hy.wpOp hi hS ⟨fun _ => hS, H⟩
    · have := ready_mono hj hji
      rw [H.1] at this
      cases this
  | succ fuel ih =>
    intro listed a w hfree hr hy hS H
    refine ⟨fun h => (by rw [h] at hr; cases hr), fun j hj => ?_⟩
    by_cases hji : j = i
    · subst hji; exact hy.wpOp hi hS ⟨fun _ => hS, H⟩
    · have h1 := H.2 j (ready_mono hj hji)
      obtain ⟨hjun, oj, hoj, hall⟩ := mem_ready.1 hj
      have hnot : ∀ e ∈ oj.after, Region.binds md e = true → e.on ≠ i := fun e he hb heq => by
        have h1 := hall e he hb
        have h0 := (mem_ready.1 hr).1
        rw [heq] at h1
        rcases Nat.lt_or_ge i listed.size with h' | h'
        · simp [h'] at h0 h1; rw [h0] at h1; cases h1
        · simp [Array.getElem?_eq_none h'] at h1
      have hjf : j ≠ fin := by
        intro e
        subst e
        obtain ⟨e, he, hb, ho⟩ := hfin oj hoj
        exact hnot e he hb ho
      have h2 := wpOp_putIf hoj (hfree j oj hoj hji hjun hnot) (fun cs b => hsel i oi cs b hi) (fun cs b => hsel j oj cs b hoj) hQ hy h1
      have hfree' : ∀ k ok, ops[k]? = some ok → k ≠ i → (listed.setIfInBounds j true).getD k true = false →
          (∀ e ∈ ok.after, Region.binds md e = true → e.on ≠ i) → oi.apart ops ok = true := fun k ok hk hki hun hno => by
        refine hfree k ok hk hki ?_ hno
        by_cases hjk : j = k
        · subst hjk; exact hjun
        · rw [getD_set_ne true hjk] at hun; exact hun
      refine wpOp_mono (fun a' w' h3 => ⟨h3.2.1, ih (listed.setIfInBounds j true) a' w' hfree' (ready_mono hr (Ne.symm hji)) h3.1 (h3.2.1 hjf) ?_⟩) h2
      rw [Array.setIfInBounds_comm _ _ hji]
      exact h3.2.2
def fin16 (md : Region.Mode) (ops : Array Oper) (fin i : Nat) : Bool := decide (ops.size ≤ fin) || Region.waitsFor md ops fin i
theorem fin16_spec {i : Nat} (h : fin16 md ops fin i = true) : ∀ o, ops[fin]? = some o → ∃ e ∈ o.after, Region.binds md e = true ∧ e.on = i := by
  intro o ho
  simp only [fin16, Bool.or_eq_true, decide_eq_true_eq] at h
  rcases h with h | h
  · rw [Array.getElem?_eq_none h] at ho; cases ho
  · obtain ⟨oj, hj, e, he, hb⟩ := Region.waitsFor_spec h
    rw [ho] at hj
    cases hj
    exact ⟨e, he, hb⟩
theorem wpAnyK_take {i : Nat} {oi : Oper} {v : Value} {fuel : Nat} {listed : Array Bool} {a : Act} {w : World} (hi : ops[i]? = some oi)
    (hs : Region.noSelect ops = true) (hf : Region.free md ops listed i = true) (hr : (Region.ready md ops listed).contains i = true) (hfin : fin16 md ops fin i = true)
    (hQ : ∀ c a w, Q (.panic c) (a.put oi.dst v) w → Q (.panic c) a w) (hy : YieldsIf P ops S oi v a) (hS : S w)
    (h : wpAnyK P md ops Q S fin fuel (listed.setIfInBounds i true) (a.put oi.dst v) w) : wpAnyK P md ops Q S fin (fuel + 1) listed a w :=
  wpAnyK_first hi (Region.noSelect_spec hs) hQ (fin16_spec hfin) fuel listed a w (Region.free_spec hi hf) (by simpa using hr) hy hS h
/-- The one that may come up. -/
theorem wpAnyK_one {i : Nat} {fuel : Nat} {listed : Array Bool} {a : Act} {w : World} {o : Oper} (hr : Region.ready md ops listed = [i]) (ho : ops[i]? = some o)
    (h : ∀ K' : Act → World → Prop, Shut (∀ a w, (i ≠ fin → S w) → ((i ≠ fin → S w) → wpAnyK P md ops Q S fin fuel (listed.setIfInBounds i true) a w) → K' a w) → if Region.wanted o (yielded ops a.tmps) = true then Oper.wp P o a w K' Q else K' (a.put o.dst undef) w) :
    wpAnyK P md ops Q S fin (fuel + 1) listed a w :=
  ⟨fun h0 => (by rw [hr] at h0; cases h0), fun j hj => by
    rw [hr] at hj
    have : j = i := by simpa using hj
    subst this
    exact wpOp_step ho (fun K' hK => h K' (fun a w hS hW => hK a w ⟨hS, hW hS⟩))⟩
theorem wpAnyK_done {listed : Array Bool} {a : Act} {w : World} (hr : Region.ready md ops listed = []) (h : Q .normal a w) :
    ∀ fuel, wpAnyK P md ops Q S fin fuel listed a w
  | 0 => ⟨hr, h⟩
  | _ + 1 => ⟨fun _ => h, by rw [hr]; simp⟩
end
theorem round_region16 {P : Program} {n id rd : Nat} {Q : Exit → Act → World → Prop} {a : Act} {w : World} {ops : Array Oper} (S : World → Prop) (fin : Nat) (hm : P.follows .mixedOrders = true) (hd : nodef14 ops = true) (hS : S w.drew)
    (h : S w.drew → wpAnyK P .any ops (nrm14 Q) S fin ops.size (Array.replicate ops.size false) a w.drew) : (Code.region id ops true).wpIn (Fence.wide.inRound rd) n P Q a w :=
  wpIn_mono (wpIn_region_any hm (anyIn_of_any14 hd _ _ _ _ (wpAny_of_K _ _ _ _ (h hS)))) fun e a' w' he => by
    obtain ⟨rfl, h2⟩ := he
    exact h2
/-- The same outside of a round. -/
theorem plain_region16 {P : Program} {id : Nat} {Q : Exit → Act → World → Prop} {a : Act} {w : World} {ops : Array Oper} (S : World → Prop) (fin : Nat) (hm : P.follows .mixedOrders = true) (hS : S w.drew)
    (h : S w.drew → wpAnyK P .any ops Q S fin ops.size (Array.replicate ops.size false) a w.drew) : (Code.region id ops true).wp P Q a w :=
  wp_region_any hm (wpAny_of_K _ _ _ _ (h hS))
end Go.Proofs.YtmfpdchfofffeaaGreatDoor

namespace Go.Proofs.YtmfpdchfofffeaaGreatDoor
open Go.RowKit Go.Shelf
set_option linter.unusedVariables false
attribute [local go_sem] Oper.semAt_some
theorem fn16_ofP {f : FuncId} {P : Program} {c : Code} {Q : Exit → Act → World → Prop} {a : Act} {w : World} (h : c.wp P Q a w) : fn16 f P c Q a w := fn16_of (n := 0) (wpIn_wide.2 h)
theorem one_cell16 {w : World} {b : Nat} {x : Value} {t : TypeId} (h : w.heap[b]? = some (.cells #[x] t (0, 0))) : w.cell? ⟨b, 0, none⟩ = some x := by simp [World.cell?, h]
theorem one_free16 {w : World} {b i : Nat} {x : Value} {t : TypeId} (h : w.heap[b]? = some (.cells #[x] t (0, 0))) : w.frozen? ⟨b, i, none⟩ = false := by simp [World.frozen?, h]
theorem one_set16 {w : World} {b : Nat} {x : Value} {t : TypeId} (h : w.heap[b]? = some (.cells #[x] t (0, 0))) (u : Value) : (w.setCell ⟨b, 0, none⟩ u).heap[b]? = some (.cells #[u] t (0, 0)) := by
  simp [World.setCell, Array.getElem?_modify, h]
theorem below_drewN16 {B : Nat} {a b : World} (h : Below B a b) (n : Nat) : Below B a (b.drewN n) := ⟨h.os, h.tape, h.output, h.size, h.block⟩
theorem cell_far16 {w : World} {b i b' j : Nat} {v x : Value} (hc : w.cell? ⟨b', j, none⟩ = some x) (h : b' ≠ b) : (w.setCell ⟨b, i, none⟩ v).cell? ⟨b', j, none⟩ = some x := by
  rw [World.cell?_of_block (w := w) (a := ⟨b', j, none⟩) (heap_setCell_other _ _ _ _ h)]; exact hc
structure Sq16 (w : World) (f1 f2 : Nat) (x y : Int) (W : World) : Prop where
  h1 : W.heap[f1]? = some (.cells #[.int .i64 x] 3 (0, 0))
  h2 : W.heap[f2]? = some (.cells #[.int .i64 y] 3 (0, 0))
  bl : Below w.heap.size w W
theorem Sq16.kp {w W W' : World} {f1 f2 : Nat} {x y : Int} {E : Nat → Prop} (h : Sq16 w f1 f2 x y W) (hk : Kp E W W') (h1 : ¬ E f1) (h2 : ¬ E f2) (hE : ∀ k, E k → w.heap.size ≤ k) : Sq16 w f1 f2 x y W' :=
  ⟨hk.heap h.h1 h1, hk.heap h.h2 h2, h.bl.trans (hk.below hE h.bl.size)⟩
set_option maxRecDepth 100000 in
set_option maxHeartbeats 4000000 in
theorem pspan16 (a : Option Addr) (n cap : Nat) (S : List St16) (w : World) (hs : SegS w a S) (hn : Hid (S.length = n)) (hl : n ≤ 1073741824) (hok : Hid (Ok16 S n)) :
    Calls Tryz.prog 86 #[.slice a n cap] w fun e w' => e = .returned (.tuple #[.int .i64 (fi16 S n), .int .i64 (en16 S n)]) ∧ Below w.heap.size w w' := by
  refine callsIn_wide.1 (callsIn_of_fn16 (n := 5) Tryz.func86 rfl ?_)
  simp only [Tryz.ntmps86, List.size_toArray, List.length_cons, List.length_nil, Nat.reduceAdd, Nat.reduceSub, Array.replicate_succ, Array.replicate_zero, List.push_toArray, List.append_toArray, List.nil_append, List.cons_append]
  refine fn16_seq (fn16_ofP ?_)
  go_wp2
  refine fn16_seq (fn16_ofP ?_)
  go_wp2
  obtain ⟨w1, hw1⟩ : ∃ w1, w1 = (w.alloc (.cells #[.int .i64 0] 3)).alloc (.cells #[.int .i64 0] 3) := ⟨_, rfl⟩
  have b1 : Below w.heap.size w w1 := by rw [hw1]; exact (below_box16 _ _).trans ((below_box16 _ _).mono (by simp))
  have z1 : Hid (w1.heap.size = w.heap.size + 2) := by show _ = _; rw [hw1]; simp
  have q2 : w1.heap[w.heap.size + 1]? = some (.cells #[.int .i64 0] 3 (0, 0)) := by
    rw [hw1]
    have := heap_alloc_new (w.alloc (.cells #[.int .i64 0] 3)) (.cells #[.int .i64 0] 3 (0, 0))
    simpa using this
  have q1 : w1.heap[w.heap.size]? = some (.cells #[.int .i64 0] 3 (0, 0)) := by
    rw [hw1]
    exact (Below.heap_alloc (w.alloc (.cells #[.int .i64 0] 3)) _ w.heap.size (by simp)).trans (heap_alloc_new w _)
  have CW := pwalk16 a n cap w1
  rw [← hw1]
  clear hw1
  refine fn16_seq (fn16_seq (fn16_ofP ?_))
  go_wp2_with (first
    | (go_at_call 55; refine CW.mono ?_; rintro e1 w2 ⟨rfl, cb⟩; clear CW))
  obtain ⟨b12, z2, q3⟩ := cb
  obtain ⟨ob, hob⟩ : ∃ ob, ob = w1.heap.size := ⟨_, rfl⟩
  rw [← hob] at q3
  rw [← hob]
  have z1 := z1.out
  have b2 : Below w.heap.size w w2 := b1.trans (b12.mono b1.size)
  have hs2 : SegS w2 a S := hs.old b2
  have hlt := hs2.lt
  have hlt0 := hs.lt
  obtain ⟨R, hRB, hRa, HRd⟩ : ∃ R : Nat → Prop, R ob ∧ (∀ b off, a = some ⟨b, off, none⟩ → 0 < S.length → R b) ∧ Hid (∀ k, R k → k = ob ∨ (0 < S.length ∧ ∃ off, a = some ⟨k, off, none⟩)) :=
    ⟨fun k => k = ob ∨ (0 < S.length ∧ ∃ off, a = some ⟨k, off, none⟩), .inl rfl, fun b off h1 h2 => .inr ⟨h2, off, h1⟩, fun k h => h⟩
  have SQ := wk16 5 (by omega) ob a n cap S R w2 (one_cell16 q3) hs2 hn hl hok hRB hRa
  have SQ0 : Sq16 w w.heap.size (w.heap.size + 1) 0 0 w2 := ⟨(b12.block _ (by omega)).trans q1, (b12.block _ (by omega)).trans q2, b2⟩
  refine fn16_block ?_
  refine range16 (n := 5) (w := w2) Tryz.func86 (gf := 87) (lb := #[.pointer (some ⟨ob, 0, none⟩)]) ?_ ?_ ?_ SQ ?_
    (fun i E W => Sq16 w w.heap.size (w.heap.size + 1) (fi16 S i) (en16 S i) W) ?_ (fun _ _ _ => False) ?_ SQ0 ?_ ?_ ?_
  · rfl
  · intro _ _; rfl
  · intro k hk
    rcases HRd.out k hk with rfl | ⟨h1, off, h2⟩
    · omega
    · exact hlt k off h2 h1
  · intro v hv
    simp only [wl16, List.mem_map] at hv
    obtain ⟨i, _, rfl⟩ := hv
    rfl
  · intro i E E' A B hA hlo hk _ _ _
    exact hA.kp hk (fun h => by have := (hlo _ h).1; omega) (fun h => by have := (hlo _ h).1; omega) (fun k h => by have := (hlo _ h).1; omega)
  · intro _ _ _ _ _ h; exact h.elim
  · intro l i v E W hv hI hlo hEl hlr hkr
    have hi : i < n := by
      have := (List.getElem?_eq_some_iff.1 hv).1
      rwa [wl16_len] at this
    rw [wl16_get hi] at hv
    obtain rfl := Option.some.inj hv
    have hbd := ad16_le hok.out hi
    have hpl := sa16_le i (hok.out.mono (Nat.le_of_lt hi))
    have hfe := fe16_bd i (hok.out.mono (Nat.le_of_lt hi))
    have HKR : Hid (∀ k, (E k ∨ R k) → k ≠ w.heap.size ∧ k ≠ w.heap.size + 1) := by
      rintro k (h | h)
      · have := (hlo k h).1; omega
      · rcases HRd.out k h with h | ⟨h1, off, h2⟩
        · omega
        · have := hlt0 k off h2 h1; omega
    have hsk : (S.getD i z16).2.2 = sk16 S i := rfl
    have hsv : sv16 (S.getD i z16) = .agg #[.int .i64 (ad16 S i : Int), .int .i64 (cp16 S i : Int), .int .i64 (sk16 S i)] := by unfold sv16; rw [← hbd.2.2.1, ← hbd.2.2.2.1, hsk]
    rw [hsv]
    have HF : Hid (fi16 S (i + 1) = if 0 < ad16 S i then min (fi16 S i) (pl16 S i) else fi16 S i) := rfl
    have HE : Hid (en16 S (i + 1) = if 0 < ad16 S i then max (en16 S i) (pl16 S i + (ad16 S i : Int)) else en16 S i) := rfl
    obtain ⟨wA, hwA⟩ : ∃ wA, wA = W.alloc (.cells #[.int .i64 (ad16 S i : Int), .int .i64 (cp16 S i : Int), .int .i64 (sk16 S i)] 108) := ⟨_, rfl⟩
    have HWA : Hid (W.alloc (.cells #[.int .i64 (ad16 S i : Int), .int .i64 (cp16 S i : Int), .int .i64 (sk16 S i)] 108) = wA) := hwA.symm
    have tA : SpAt wA W.heap.size 0 ((ad16 S i : Int), (cp16 S i : Int), sk16 S i) := boxS hwA
    have bA : Below W.heap.size W wA := by rw [hwA]; exact below_box16 _ _
    have hIA : Sq16 w w.heap.size (w.heap.size + 1) (fi16 S i) (en16 S i) wA := hI.kp (E := fun _ => False) (Kp.of_below bA) (fun h => h) (fun h => h) (fun _ h => h.elim)
    clear hwA hsv hsk
    obtain ⟨ad, had⟩ : ∃ ad, ad = ad16 S i := ⟨_, rfl⟩
    obtain ⟨p, hp⟩ : ∃ p, p = pl16 S i := ⟨_, rfl⟩
    rw [← had, ← hp] at HF HE
    rw [← had] at HWA tA hbd
    rw [← hp] at hpl
    rw [← had, ← hp]
    obtain ⟨hb1, -⟩ := hbd
    obtain ⟨-, -, hp1, hp2⟩ := hpl
    generalize cp16 S i = cp at *
    generalize sk16 S i = sk at *
    have HZ : Hid (w2.heap.size = w.heap.size + 3) := (by omega : w2.heap.size = w.heap.size + 3)
    clear had hp z1 z2 hob q1 q2 q3 b1 b12
    gi_wp2
    rw [HWA.out]
    refine As16.mk ⟨bA.size, fun k hk _ => bA.block k hk⟩ hIA (fun W2 hk2 _ hI2 => ?_)
    have hob2 : W.heap.size ≠ l := by have := (hlo l hEl).2; omega
    have t2 : SpAt W2 W.heap.size 0 ((ad : Int), (cp : Int), sk) := tA.of_block (hk2.block _ tA.lt hob2)
    have a0 := t2.c0
    simp only at a0
    have hltb : W.heap.size < W2.heap.size := t2.lt
    have hgeb : w2.heap.size ≤ W.heap.size := hkr.size
    have HI2 : Hid (Sq16 w w.heap.size (w.heap.size + 1) (fi16 S i) (en16 S i) W2) := hI2
    have c1 := one_cell16 hI2.h1
    have c2 := one_cell16 hI2.h2
    have f1 := one_free16 (i := 0) hI2.h1
    have f2 := one_free16 (i := 0) hI2.h2
    clear hk2 tA t2 hIA hI hlr hkr hlo hEl bA HWA hI2
    by_cases h0 : 0 < ad
    · have hgt : (0 : Int) < (ad : Int) := by omega
      have hpw : IntKind.i64.wrap (p + (ad : Int)) = p + (ad : Int) := IntWalk.i64_in _ (by omega)
      gi_wp2
      generalize fi16 S i = x at *
      generalize en16 S i = y at *
      refine round_region16 (fun V => V.cell? ⟨W.heap.size, 0, none⟩ = some (.int .i64 (ad : Int)) ∧ V.cell? ⟨w.heap.size + 1, 0, none⟩ = some (.int .i64 y)) 10 (by kernel_rfl) (by kernel_rfl) ⟨a0, c2⟩ (fun hHeld => ?_)
      refine wpAnyK_take (i := 1) (v := .int .i64 p) rfl (by kernel_rfl) (by kernel_rfl) (by kernel_rfl) (by kernel_rfl) (fun _ _ _ h => nomatch h.1) (Or.inl ⟨by rfl, fun w hSw => by go_simp⟩) hHeld ?_
      simp only [List.getElem_toArray, List.getElem_cons_zero, List.getElem_cons_succ, Act.put, List.setIfInBounds_toArray, List.set_cons_zero, List.set_cons_succ]
      refine wpAnyK_take (i := 3) (v := .int .i64 y) rfl (by kernel_rfl) (by kernel_rfl) (by kernel_rfl) (by kernel_rfl) (fun _ _ _ h => nomatch h.1) (Or.inl ⟨by rfl, fun w hSw => by go_simp⟩) hHeld ?_
      simp only [List.getElem_toArray, List.getElem_cons_zero, List.getElem_cons_succ, Act.put, List.setIfInBounds_toArray, List.set_cons_zero, List.set_cons_succ]
      refine wpAnyK_take (i := 4) (v := .int .i64 p) rfl (by kernel_rfl) (by kernel_rfl) (by kernel_rfl) (by kernel_rfl) (fun _ _ _ h => nomatch h.1) (Or.inl ⟨by rfl, fun w hSw => by go_simp⟩) hHeld ?_
      simp only [List.getElem_toArray, List.getElem_cons_zero, List.getElem_cons_succ, Act.put, List.setIfInBounds_toArray, List.set_cons_zero, List.set_cons_succ]
      refine wpAnyK_take (i := 5) (v := .pointer (some ⟨W.heap.size, 0, none⟩)) rfl (by kernel_rfl) (by kernel_rfl) (by kernel_rfl) (by kernel_rfl) (fun _ _ _ h => nomatch h.1) (Or.inl ⟨by rfl, fun w hSw => by go_simp⟩) hHeld ?_
      simp only [List.getElem_toArray, List.getElem_cons_zero, List.getElem_cons_succ, Act.put, List.setIfInBounds_toArray, List.set_cons_zero, List.set_cons_succ]
      refine wpAnyK_take (i := 6) (v := .int .i64 (ad : Int)) rfl (by kernel_rfl) (by kernel_rfl) (by kernel_rfl) (by kernel_rfl) (fun _ _ _ h => nomatch h.1) (Or.inl ⟨by rfl, fun w hSw => by go_simp⟩) hHeld ?_
      simp only [List.getElem_toArray, List.getElem_cons_zero, List.getElem_cons_succ, Act.put, List.setIfInBounds_toArray, List.set_cons_zero, List.set_cons_succ]
      refine wpAnyK_take (i := 7) (v := .int .i64 (p + (ad : Int))) rfl (by kernel_rfl) (by kernel_rfl) (by kernel_rfl) (by kernel_rfl) (fun _ _ _ h => nomatch h.1) (Or.inl ⟨by rfl, fun w hSw => by go_simp⟩) hHeld ?_
      simp only [List.getElem_toArray, List.getElem_cons_zero, List.getElem_cons_succ, Act.put, List.setIfInBounds_toArray, List.set_cons_zero, List.set_cons_succ]
      refine wpAnyK_take (i := 8) (v := .int .i64 (if y < p + (ad : Int) then p + (ad : Int) else y)) rfl (by kernel_rfl) (by kernel_rfl) (by kernel_rfl) (by kernel_rfl) (fun _ _ _ h => nomatch h.1) (Or.inl ⟨by rfl, fun w hSw => by go_simp⟩) hHeld ?_
      simp only [List.getElem_toArray, List.getElem_cons_zero, List.getElem_cons_succ, Act.put, List.setIfInBounds_toArray, List.set_cons_zero, List.set_cons_succ]
      refine wpAnyK_one (i := 0) (by kernel_rfl) rfl (fun K hK => ?_)
      (try simp only [List.getElem_toArray, List.getElem_cons_zero, Act.put, List.setIfInBounds_toArray, List.set_cons_zero, List.set_cons_succ])
      go_simp
      refine hK.out _ _ (fun _ => ⟨a0, c2⟩) (fun hHeld0 => ?_)
      have hHeld := hHeld0 (by decide)
      clear hHeld0 hK K
      (try simp only [List.getElem_toArray, List.getElem_cons_zero, List.getElem_cons_succ, Act.put, List.setIfInBounds_toArray, List.set_cons_zero, List.set_cons_succ])
      refine wpAnyK_one (i := 2) (by kernel_rfl) rfl (fun K hK => ?_)
      (try simp only [List.getElem_toArray, List.getElem_cons_zero, List.getElem_cons_succ, Act.put, List.setIfInBounds_toArray, List.set_cons_zero, List.set_cons_succ])
      go_simp
      refine hK.out _ _ (fun _ => ⟨a0, c2⟩) (fun hHeld0 => ?_)
      have hHeld := hHeld0 (by decide)
      clear hHeld0 hK K
      (try simp only [List.getElem_toArray, List.getElem_cons_zero, List.getElem_cons_succ, Act.put, List.setIfInBounds_toArray, List.set_cons_zero, List.set_cons_succ])
      rw [if_pos h0] at HF HE
      have HMX : Hid (en16 S (i + 1) = if y < p + (ad : Int) then p + (ad : Int) else y) := by show _ = _; rw [HE.out]; split <;> omega
      have HMN : Hid (fi16 S (i + 1) = if p < x then p else x) := by show _ = _; rw [HF.out]; split <;> omega
      generalize (if y < p + (ad : Int) then p + (ad : Int) else y) = mx at *
      generalize (if p < x then p else x) = mn at *
      refine wpAnyK_one (i := 9) (by kernel_rfl) rfl (fun K hK => ?_)
      simp only [List.getElem_toArray, List.getElem_cons_zero, List.getElem_cons_succ, Act.put]
      go_simp
      have HSQ := HI2.out
      have e2 : (W2.drew.setCell ⟨w.heap.size, 0, none⟩ (.int .i64 mn)).heap[w.heap.size + 1]? = some (.cells #[.int .i64 y] 3 (0, 0)) := (heap_setCell_other _ _ _ _ (by show w.heap.size + 1 ≠ w.heap.size; omega)).trans HSQ.h2
      have g2 := one_cell16 e2
      have g3 := one_free16 (i := 0) e2
      have HE2 : Hid ((W2.drew.setCell ⟨w.heap.size, 0, none⟩ (.int .i64 mn)).heap[w.heap.size + 1]? = some (.cells #[.int .i64 y] 3 (0, 0))) := e2
      have hne : W.heap.size ≠ w.heap.size := by have := HZ.out; omega
      clear e2 HSQ
      refine hK.out _ _ (fun _ => ⟨cell_far16 a0 hne, g2⟩) (fun hHeld0 => ?_)
      have hHeld := hHeld0 (by decide)
      clear hHeld0 hK K
      refine wpAnyK_one (i := 10) (by kernel_rfl) rfl (fun K hK => ?_)
      simp only [List.getElem_toArray, List.getElem_cons_zero, List.getElem_cons_succ, Act.put]
      go_simp
      refine hK.out _ _ (fun h => absurd rfl h) (fun _ => ?_)
      clear hK K
      refine wpAnyK_done (by kernel_rfl) ?_ _
      refine ⟨rfl, ?_⟩
      refine ⟨?_, ?_⟩
      · show Sq16 _ _ _ _ _ _
        rw [HMN.out, HMX.out]
        have HSQ := HI2.out
        exact ⟨(heap_setCell_other _ _ _ _ (by show w.heap.size ≠ w.heap.size + 1; omega)).trans (one_set16 (w := W2.drew) HSQ.h1 _), one_set16 HE2.out _, HSQ.bl.drew.trans (((Kp.set (S := fun k => w.heap.size ≤ k) (Nat.le_refl _) _).trans (Kp.set (S := fun k => w.heap.size ≤ k) (by show _ ≤ w.heap.size + 1; omega) _) (fun _ _ h => h)).below (fun _ h => h) HSQ.bl.size)⟩
      · refine ⟨by simp, fun k hk hd => ?_⟩
        have := HKR.out k hd
        exact (heap_setCell_other _ _ _ _ this.2).trans (heap_setCell_other _ _ _ _ this.1)
    · have hgt : ¬ (0 : Int) < (ad : Int) := by omega
      rw [if_neg h0] at HF HE
      gi_wp2
      refine ⟨?_, Kr16.refl _ _⟩
      show Sq16 _ _ _ _ _ _
      rw [HF.out, HE.out]
      exact HI2.out
  · intro D E W hED hlo hI hD
    rw [wl16_len] at hI
    have c1 := one_cell16 hI.h1
    have c2 := one_cell16 hI.h2
    have HDw : Hid (w.heap.size ≤ D) := (by have := (hlo D hED).1; omega : w.heap.size ≤ D)
    have HB : Hid (Below w.heap.size w W) := hI.bl
    clear hI hlo SQ0 SQ hs2 hlt hlt0 b2 q3 b12 b1 q1 q2 z1 z2 hob
    refine fn16_ofP ?_
    go_wp2_with fail
    go_quiet (fail)
    go_wp2_with fail
    refine ⟨by simp, .inl ⟨_, _, rfl, run_takeDeferred (w := W.drewN nq) hD, ?_⟩⟩
    refine ⟨_, results_tmp2 rfl _ _ _, rfl, ?_⟩
    exact (below_drewN16 HB.out nq).trans ((Kp.put16 (S := fun k => w.heap.size ≤ k) HDw.out _).below (fun _ h => h) HB.out.size)
  · intro ch D E W _ _ h; exact h.elim
end Go.Proofs.YtmfpdchfofffeaaGreatDoor

namespace Go.Proofs.YtmfpdchfofffeaaGreatDoor
open Go.RowKit
set_option linter.unusedVariables false
def bd18 : Nat → Int
  | 0 => 0
  | 1 => 16777216
  | 2 => 0
  | 3 => 16777216
  | 4 => 64
  | 5 => 65536
  | 6 => 1
  | _ => 32768
structure Fl18 (B : Nat) (W : World) : Prop where
  fl : W.heap[B + 8]? = some (.cells (fl18 B) 202 (0, 0))
  bx : ∀ k, k < 8 → W.heap[B + k]? = some (.cells #[.int .i64 (bd18 k)] 3 (0, 0))
theorem Fl18.old {B : Nat} {W W' : World} (h : Fl18 B W) (hb : Below W.heap.size W W') : Fl18 B W' :=
  ⟨(hb.block _ (Array.getElem?_eq_some_iff.1 h.fl).1).trans h.fl, fun k hk => (hb.block _ (Array.getElem?_eq_some_iff.1 (h.bx k hk)).1).trans (h.bx k hk)⟩
structure Tw18 (w : World) (x y : Int) (w' : World) : Prop where
  bl : Below w.heap.size w w'
  sz : w'.heap.size = w.heap.size + 2
  c0 : w'.heap[w.heap.size]? = some (.cells #[.int .i64 x] 3 (0, 0))
  c1 : w'.heap[w.heap.size + 1]? = some (.cells #[.int .i64 y] 3 (0, 0))
theorem tw18 (w : World) (x y : Int) : Tw18 w x y ((w.alloc (.cells #[.int .i64 x] 3)).alloc (.cells #[.int .i64 y] 3)) := by
  have a := cb16 w #[.int .i64 x] 3
  have b := cb16 (w.alloc (.cells #[.int .i64 x] 3)) #[.int .i64 y] 3
  refine ⟨a.bl.trans (b.bl.mono a.bl.size), by rw [b.sz, a.sz], ?_, ?_⟩
  · exact (b.bl.block _ (by rw [a.sz]; omega)).trans a.cl
  · have := b.cl; rw [a.sz] at this; exact this
set_option maxRecDepth 100000 in
theorem pbt18 (p q : Nat) (v : Value) (x y : Int) (w : World) (hp : w.heap[p]? = some (.cells #[.int .i64 x] 3 (0, 0))) (hq : w.heap[q]? = some (.cells #[.int .i64 y] 3 (0, 0))) :
    Calls Tryz.prog 167 #[v, .pointer (some ⟨p, 0, none⟩), .pointer (some ⟨q, 0, none⟩)] w fun e w' => e = .returned (.tuple #[.int .i64 x, .int .i64 y]) ∧ Below w.heap.size w w' := by
  have c1 : w.drew.cell? ⟨p, 0, none⟩ = some (.int .i64 x) := one_cell16 hp
  have c2 : w.drew.cell? ⟨q, 0, none⟩ = some (.int .i64 y) := one_cell16 hq
  go_enter Tryz.func167, Tryz.ntmps167
  go_wp2
  go_region
  all_goals
    go_wp2
    go_ret2
    exact ⟨rfl, (Below.refl _ _).drew⟩
set_option maxRecDepth 100000 in
theorem phf18_1 (b : Nat) (w : World) (h : ∃ v, w.cell? ⟨b, 0, none⟩ = some v) : Calls Tryz.prog 126 #[.pointer (some ⟨b, 0, none⟩)] w fun e w' => e = .returned (.pointer (some ⟨b, 0, none⟩)) ∧ w' = w := by
  obtain ⟨v, h⟩ := h
  go_enter Tryz.func126, Tryz.ntmps126
  go_wp2
  go_ret
  exact ⟨rfl, rfl⟩
set_option maxRecDepth 100000 in
theorem phf18_2 (b : Nat) (w : World) (h : ∃ v, w.cell? ⟨b, 0, none⟩ = some v) : Calls Tryz.prog 128 #[.pointer (some ⟨b, 0, none⟩)] w fun e w' => e = .returned (.pointer (some ⟨b, 1, none⟩)) ∧ w' = w := by
  obtain ⟨v, h⟩ := h
  go_enter Tryz.func128, Tryz.ntmps128
  go_wp2
  go_ret
  exact ⟨rfl, rfl⟩
set_option maxRecDepth 100000 in
theorem phf18_3 (b : Nat) (w : World) (h : ∃ v, w.cell? ⟨b, 0, none⟩ = some v) : Calls Tryz.prog 129 #[.pointer (some ⟨b, 0, none⟩)] w fun e w' => e = .returned (.pointer (some ⟨b, 4, none⟩)) ∧ w' = w := by
  obtain ⟨v, h⟩ := h
  go_enter Tryz.func129, Tryz.ntmps129
  go_wp2
  go_ret
  exact ⟨rfl, rfl⟩
set_option maxRecDepth 100000 in
theorem phf18_4 (b : Nat) (w : World) (h : ∃ v, w.cell? ⟨b, 0, none⟩ = some v) : Calls Tryz.prog 130 #[.pointer (some ⟨b, 0, none⟩)] w fun e w' => e = .returned (.pointer (some ⟨b, 5, none⟩)) ∧ w' = w := by
  obtain ⟨v, h⟩ := h
  go_enter Tryz.func130, Tryz.ntmps130
  go_wp2
  go_ret
  exact ⟨rfl, rfl⟩
set_option maxRecDepth 100000 in
set_option maxHeartbeats 4000000 in
theorem phf18 (w : World) : Calls Tryz.prog 95 #[] w fun e w' => e = .returned (.slice (some ⟨w.heap.size + 8, 0, none⟩) 4 4) ∧ Fl18 w.heap.size w' ∧ Below w.heap.size w w' := by
  go_enter Tryz.func95, Tryz.ntmps95
  go_wp2_with fail
  refine (pbtw18 0 16777216 w).mono ?_
  rintro e1 w1 ⟨rfl, h1⟩
  have t1 : Tw18 w 0 16777216 w1 := by rw [h1]; exact tw18 _ _ _
  clear h1
  go_wp2_with fail
  refine (pbtw18 0 16777216 w1).mono ?_
  rintro e2 w2 ⟨rfl, h2⟩
  have t2 : Tw18 w1 0 16777216 w2 := by rw [h2]; exact tw18 _ _ _
  clear h2
  go_wp2_with fail
  refine (pbtw18 64 65536 w2).mono ?_
  rintro e3 w3 ⟨rfl, h3⟩
  have t3 : Tw18 w2 64 65536 w3 := by rw [h3]; exact tw18 _ _ _
  clear h3
  go_wp2_with fail
  refine (pbtw18 1 32768 w3).mono ?_
  rintro e4 w4 ⟨rfl, h4⟩
  have t4 : Tw18 w3 1 32768 w4 := by rw [h4]; exact tw18 _ _ _
  clear h4
  have HT : Hid (Tw18 w 0 16777216 w1 ∧ Tw18 w1 0 16777216 w2 ∧ Tw18 w2 64 65536 w3 ∧ Tw18 w3 1 32768 w4) := ⟨t1, t2, t3, t4⟩
  clear t1 t2 t3 t4
  go_wp2_with fail
  obtain ⟨t1, t2, t3, t4⟩ := HT.out
  have z1 := t1.sz
  have z2 := t2.sz
  have z3 := t3.sz
  have z4 := t4.sz
  have y2 : w2.heap.size = w.heap.size + 4 := by omega
  have y3 : w3.heap.size = w.heap.size + 6 := by omega
  have y4 : w4.heap.size = w.heap.size + 8 := by omega
  have cL := cb16 w4 (fl18 w.heap.size) 202
  have b14 : Below w1.heap.size w1 w4 := t2.bl.trans ((t3.bl.trans (t4.bl.mono t3.bl.size)).mono t2.bl.size)
  have b24 : Below w2.heap.size w2 w4 := t3.bl.trans (t4.bl.mono t3.bl.size)
  have b04 : Below w.heap.size w w4 := t1.bl.trans (b14.mono t1.bl.size)
  have b1L := b14.trans (cL.bl.mono b14.size)
  have b2L := b24.trans (cL.bl.mono b24.size)
  have b3L := t4.bl.trans (cL.bl.mono t4.bl.size)
  rw [z1, y2, y3, y4]
  go_ret
  refine ⟨rfl, ⟨?_, ?_⟩, b04.trans (cL.bl.mono b04.size)⟩
  · have := cL.cl; rw [y4] at this; exact this
  · intro k hk
    match k, hk with
    | 0, _ => exact (b1L.block _ (by omega)).trans t1.c0
    | 1, _ => exact (b1L.block _ (by omega)).trans t1.c1
    | 2, _ => have h := t2.c0; rw [z1] at h; exact (b2L.block _ (by omega)).trans h
    | 3, _ => have h := t2.c1; rw [z1] at h; exact (b2L.block _ (by omega)).trans h
    | 4, _ => have h := t3.c0; rw [y2] at h; exact (b3L.block _ (by omega)).trans h
    | 5, _ => have h := t3.c1; rw [y2] at h; exact (b3L.block _ (by omega)).trans h
    | 6, _ => have h := t4.c0; rw [y3] at h; exact (cL.bl.block _ (by omega)).trans h
    | 7, _ => have h := t4.c1; rw [y3] at h; exact (cL.bl.block _ (by omega)).trans h
end Go.Proofs.YtmfpdchfofffeaaGreatDoor
