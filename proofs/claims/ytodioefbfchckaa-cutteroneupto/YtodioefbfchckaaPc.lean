import Derived.Test.YtodioefbfchckaaProg
import Derived.WalkKit
import Derived.WalkSpells
import Derived.Test.YtodioefbfchckaaPa
import Derived.Deep.QuietTactic
import Derived.BigQuiet
import Derived.Deep.RegionHeld3
import Derived.Test.YtodioefbfchckaaPb
import Derived.RangeFuncNested
import Derived.RangeFuncBound
import Derived.RangeFuncCalls
import Derived.RangeFuncLeaves
import Derived.Shelf.Abstract
import Derived.OwnWalkIn
import Derived.TacticsInMore
import Derived.LoopNIn
import Derived.LoopIn
import Derived.StillTailTactics
import Derived.OrdersIn
import Derived.OrdersHeld
namespace Go.Proofs.Ytodioefbfchckaa
open Go.RowKit
set_option linter.unusedVariables false

/-! Steps in memory: three cells each. -/
def sv16 (s : St16) : Value := .agg #[.int .i64 s.1, .int .i64 s.2.1, .int .i64 s.2.2]
structure SpAt (w : World) (g o : Nat) (s : St16) : Prop where
  c0 : w.cell? ⟨g, o, none⟩ = some (.int .i64 s.1)
  c1 : w.cell? ⟨g, o + 1, none⟩ = some (.int .i64 s.2.1)
  c2 : w.cell? ⟨g, o + 2, none⟩ = some (.int .i64 s.2.2)
theorem SpAt.of_block {w w' : World} {g o : Nat} {x : St16} (h : SpAt w g o x) (hb : w'.heap[g]? = w.heap[g]?) : SpAt w' g o x :=
  ⟨(World.cell?_of_block (a := ⟨g, o, none⟩) hb).trans h.c0, (World.cell?_of_block (a := ⟨g, o + 1, none⟩) hb).trans h.c1, (World.cell?_of_block (a := ⟨g, o + 2, none⟩) hb).trans h.c2⟩
theorem SpAt.lt {w : World} {g o : Nat} {x : St16} (h : SpAt w g o x) : g < w.heap.size := World.block_lt_of_cell? w _ h.c0
def Fit16 (s : St16) : Prop := (-9223372036854775808 ≤ s.1 ∧ s.1 ≤ 9223372036854775807) ∧ (-9223372036854775808 ≤ s.2.1 ∧ s.2.1 ≤ 9223372036854775807) ∧ (-9223372036854775808 ≤ s.2.2 ∧ s.2.2 ≤ 9223372036854775807)
structure SegS (w : World) (a : Option Addr) (l : List St16) : Prop where
  at_ : ∀ i, i < l.length → ∃ b off, a = some ⟨b, off, none⟩ ∧ SpAt w b (off + i * 3) (l.getD i z16)
  fit : ∀ t ∈ l, Fit16 t
theorem SegS.nil (w : World) (a : Option Addr) : SegS w a [] := ⟨fun i h => by simp at h, fun t h => by simp at h⟩
theorem SegS.kp {w w' : World} {S : Nat → Prop} {a : Option Addr} {l : List St16} (h : SegS w a l) (hb : Kp S w w') (hn : ∀ b off, a = some ⟨b, off, none⟩ → 0 < l.length → ¬ S b) : SegS w' a l := by
  refine ⟨fun i hi => ?_, h.fit⟩
  obtain ⟨b, off, ha, ht⟩ := h.at_ i hi
  exact ⟨b, off, ha, ht.of_block (hb.block b ht.lt (hn b off ha (by omega)))⟩
theorem SegS.old {w w' : World} {a : Option Addr} {l : List St16} (h : SegS w a l) (hb : Below w.heap.size w w') : SegS w' a l := h.kp (S := fun _ => False) (Kp.of_below hb) (fun _ _ _ _ e => e)
theorem SegS.drew {w : World} {a : Option Addr} {l : List St16} (h : SegS w a l) : SegS w.drew a l := h.old ((Below.refl _ _).drew)
theorem SegS.lt {w : World} {a : Option Addr} {l : List St16} (h : SegS w a l) : ∀ b off, a = some ⟨b, off, none⟩ → 0 < l.length → b < w.heap.size := by
  intro b off e hl
  obtain ⟨b', off', ha, ht⟩ := h.at_ 0 hl
  rw [e] at ha
  cases ha
  exact ht.lt
theorem getD_memS {l : List St16} {i : Nat} (h : i < l.length) : l.getD i z16 ∈ l := by simp [List.getD, h]
theorem below_box16 {w : World} (cs : Array Value) (t : TypeId) : Below w.heap.size w (w.alloc (.cells cs t)) := (Below.refl _ _).alloc (Nat.le_refl _) _
theorem boxS {w wA : World} {s : St16} {t : TypeId} (hA : wA = w.alloc (.cells #[.int .i64 s.1, .int .i64 s.2.1, .int .i64 s.2.2] t)) : SpAt wA w.heap.size 0 s := by
  have h : wA.heap[w.heap.size]? = some (.cells #[.int .i64 s.1, .int .i64 s.2.1, .int .i64 s.2.2] t (0, 0)) := by rw [hA]; exact heap_alloc_new w _
  refine ⟨?_, ?_, ?_⟩ <;> simp [World.cell?, h]

/-! mayBe, sums. -/
set_option maxRecDepth 100000 in
set_option maxHeartbeats 2000000 in
theorem pmay16 (s : St16) (w : World) : Calls Try.prog 76 #[sv16 s] w fun e w' => e = .returned (.bool (may16 s)) ∧ Below w.heap.size w w' := by
  obtain ⟨a, c, k⟩ := s
  unfold sv16
  simp only
  have hno : ¬ (0 ≤ a ∧ a ≤ 16777216 ∧ 0 ≤ c ∧ c ≤ 16777216 ∧ -16777216 ≤ k ∧ k ≤ 16777216) → may16 (a, c, k) = false := fun h => by unfold may16; exact decide_eq_false h
  by_cases h1 : 0 ≤ a
  · by_cases h2 : a ≤ 16777216
    · by_cases h3 : 0 ≤ c
      · by_cases h4 : c ≤ 16777216
        · by_cases h5 : -16777216 ≤ k
          · by_cases h6 : k ≤ 16777216
            · rw [show may16 (a, c, k) = true from may16_iff.2 ⟨h1, h2, h3, h4, h5, h6⟩]
              clear hno
              go_enter Try.func76, Try.ntmps76
              go_wp2
              go_ret
              exact ⟨rfl, below_box16 _ _⟩
            · rw [hno (by omega)]
              clear hno
              go_enter Try.func76, Try.ntmps76
              go_wp2
              go_ret
              exact ⟨rfl, below_box16 _ _⟩
          · rw [hno (by omega)]
            clear hno
            go_enter Try.func76, Try.ntmps76
            go_wp2
            go_ret
            exact ⟨rfl, below_box16 _ _⟩
        · rw [hno (by omega)]
          clear hno
          go_enter Try.func76, Try.ntmps76
          go_wp2
          go_ret
          exact ⟨rfl, below_box16 _ _⟩
      · rw [hno (by omega)]
        clear hno
        go_enter Try.func76, Try.ntmps76
        go_wp2
        go_ret
        exact ⟨rfl, below_box16 _ _⟩
    · rw [hno (by omega)]
      clear hno
      go_enter Try.func76, Try.ntmps76
      go_wp2
      go_ret
      exact ⟨rfl, below_box16 _ _⟩
  · rw [hno (by omega)]
    clear hno
    go_enter Try.func76, Try.ntmps76
    go_wp2
    go_ret
    exact ⟨rfl, below_box16 _ _⟩
def sumR16 (S : List St16) (n : Nat) : Value := .tuple (if S.all may16 = true then #[.int .i64 (sa16 S n : Int), .int .i64 (sc16 S n : Int), .int .i64 0] else #[.int .i64 0, .int .i64 0, .int .i64 160])
set_option maxRecDepth 100000 in
set_option maxHeartbeats 2000000 in
theorem psum16 (a : Option Addr) (n cap : Nat) (S : List St16) (w : World) (hs : SegS w a S) (hn : Hid (S.length = n)) (hl : n ≤ 1073741824) :
    Calls Try.prog 72 #[.slice a n cap] w fun e w' => e = .returned (sumR16 S n) ∧ Below w.heap.size w w' := by
  go_enter Try.func72, Try.ntmps72
  go_wp2_with fail
  go_loopw [5, 6, 11] (fun ta tc ti wr => ∃ i : Nat, i ≤ n ∧ ti = .int .i64 (i : Int) ∧ ta = .int .i64 (sa16 S i : Int) ∧ tc = .int .i64 (sc16 S i : Int) ∧ Hid (Ok16 S i) ∧ Below w.heap.size w wr) (fun _ _ ti _ => n - (intOf ti).toNat)
  case atStart => exact ⟨0, by omega, rfl, rfl, rfl, Ok16.zero S, Below.refl _ _⟩
  case round =>
    obtain ⟨i, hi, rfl, rfl, rfl, HO, BR⟩ := hrel
    by_cases hin : i < n
    · have hii : (i : Int) < (n : Int) := by omega
      have hil : i < S.length := by rw [hn.out]; exact hin
      obtain ⟨b, off, rfl, hT⟩ := (hs.old BR).at_ i hil
      have hpm := pmay16 (S.getD i z16)
      have hsl := sa16_le i HO.out
      cases hm : may16 (S.getD i z16)
      · have HA : Hid (S.all may16 = false) := not_all16 hil hm
        rw [hm] at hpm
        have hc0 := hT.c0
        have hc1 := hT.c1
        have hc2 := hT.c2
        have CM : Hid (∀ W, Calls Try.prog 76 #[sv16 (S.getD i z16)] W fun e w' => e = .returned (.bool false) ∧ Below W.heap.size W w') := hpm
        clear hT hpm hm hsl HO
        generalize S.getD i z16 = s at *
        obtain ⟨sa, sc, sk⟩ := s
        unfold sv16 at CM
        simp only at hc0 hc1 hc2 CM
        obtain ⟨wA, hwA⟩ : ∃ wA, wA = wr.alloc (.cells #[.int .i64 sa, .int .i64 sc, .int .i64 sk] 98) := ⟨_, rfl⟩
        have HWA : Hid (wr.alloc (.cells #[.int .i64 sa, .int .i64 sc, .int .i64 sk] 98) = wA) := hwA.symm
        have tA : SpAt wA wr.heap.size 0 (sa, sc, sk) := boxS hwA
        have BA : Below w.heap.size w wA := by rw [hwA]; exact BR.trans ((below_box16 _ _).mono BR.size)
        clear hwA
        go_wp2_with fail
        rw [HWA.out]
        refine (CM.out wA).mono ?_
        rintro e w1 ⟨rfl, b1⟩
        go_wp2_with fail
        go_ret3
        exact ⟨by unfold sumR16; rw [HA.out]; rfl, BA.trans (b1.mono BA.size)⟩
      · have HO2 : Hid (Ok16 S (i + 1)) := HO.out.succ hm
        have hb2 := ad16_le HO2.out (show i < i + 1 by omega)
        rw [hm] at hpm
        have hc0 := hT.c0
        have hc1 := hT.c1
        have hc2 := hT.c2
        have CM : Hid (∀ W, Calls Try.prog 76 #[sv16 (S.getD i z16)] W fun e w' => e = .returned (.bool true) ∧ Below W.heap.size W w') := hpm
        have HSA : Hid (sa16 S (i + 1) = sa16 S i + ad16 S i) := rfl
        have HSC : Hid (sc16 S (i + 1) = sc16 S i + cp16 S i) := rfl
        clear hT hpm hm HO
        obtain ⟨hb3, hb4, hb5, hb6, hb7, hb8⟩ := hb2
        generalize S.getD i z16 = s at *
        obtain ⟨sa, sc, sk⟩ := s
        unfold sv16 at CM
        simp only at hc0 hc1 hc2 CM hb5 hb6
        subst hb5 hb6
        have hw1 : IntKind.i64.wrap ((sa16 S i : Int) + (ad16 S i : Int)) = (sa16 S (i + 1) : Int) := by rw [HSA.out, IntWalk.i64_in _ (by omega)]; omega
        have hw2 : IntKind.i64.wrap ((sc16 S i : Int) + (cp16 S i : Int)) = (sc16 S (i + 1) : Int) := by rw [HSC.out, IntWalk.i64_in _ (by omega)]; omega
        obtain ⟨wA, hwA⟩ : ∃ wA, wA = wr.alloc (.cells #[.int .i64 (ad16 S i : Int), .int .i64 (cp16 S i : Int), .int .i64 sk] 98) := ⟨_, rfl⟩
        have HWA : Hid (wr.alloc (.cells #[.int .i64 (ad16 S i : Int), .int .i64 (cp16 S i : Int), .int .i64 sk] 98) = wA) := hwA.symm
        have tA : SpAt wA wr.heap.size 0 ((ad16 S i : Int), (cp16 S i : Int), sk) := boxS hwA
        have BA : Below w.heap.size w wA := by rw [hwA]; exact BR.trans ((below_box16 _ _).mono BR.size)
        obtain ⟨ob, hob⟩ : ∃ ob, ob = wr.heap.size := ⟨_, rfl⟩
        have HOB : Hid (wr.heap.size = ob) := hob.symm
        rw [← hob] at tA
        have hol := tA.lt
        have HTA : Hid (∀ W, Below wA.heap.size wA W → SpAt W ob 0 ((ad16 S i : Int), (cp16 S i : Int), sk)) := fun W hW => tA.of_block (hW.block ob hol)
        clear hwA hob tA hb3 hb4 hb7 hb8 hsl
        obtain ⟨A1, hA1⟩ : ∃ A1, A1 = sa16 S (i + 1) := ⟨_, rfl⟩
        obtain ⟨C1, hC1⟩ : ∃ C1, C1 = sc16 S (i + 1) := ⟨_, rfl⟩
        rw [← hA1] at hw1
        rw [← hC1] at hw2
        have HA1 : Hid (A1 = sa16 S (i + 1)) := hA1
        have HC1 : Hid (C1 = sc16 S (i + 1)) := hC1
        clear hA1 hC1 HSA HSC
        generalize sa16 S i = A0 at *
        generalize sc16 S i = C0 at *
        generalize ad16 S i = a1 at *
        generalize cp16 S i = c1 at *
        go_wp2_with fail
        rw [HWA.out, HOB.out]
        refine (CM.out wA).mono ?_
        rintro e w1 ⟨rfl, b1⟩
        obtain ⟨e0, e1, e2⟩ := HTA.out w1 b1
        simp only at e0 e1 e2
        go_wp2_with fail
        go_roundw
        case rel => exact ⟨i + 1, by omega, by simp, by rw [HA1.out], by rw [HC1.out], HO2, BA.trans (b1.mono BA.size)⟩
        case measure => simp [intOf]; omega
    · have hk2 : i = n := by omega
      have HA : Hid (S.all may16 = true) := by have := HO.out; rw [hk2, ← hn.out] at this; exact this.all
      have hneg : ¬ (i : Int) < (n : Int) := by omega
      subst hk2
      go_wp2_with fail
      go_ret3
      exact ⟨by unfold sumR16; rw [HA.out]; rfl, BR⟩
end Go.Proofs.Ytodioefbfchckaa

namespace Go.Proofs.Ytodioefbfchckaa
open Go.RowKit Go.Shelf
set_option linter.unusedVariables false
attribute [local go_sem] Oper.semAt_some

/-! walk: each step, with the place at which it begins. -/
/-- A closure's box: one block more. -/
structure Cb16 (w : World) (v : Array Value) (t : TypeId) (w' : World) : Prop where
  bl : Below w.heap.size w w'
  sz : w'.heap.size = w.heap.size + 1
  cl : w'.heap[w.heap.size]? = some (.cells v t (0, 0))
theorem cb16 (w : World) (v : Array Value) (t : TypeId) : Cb16 w v t (w.alloc (.cells v t)) := ⟨below_box16 _ _, by simp, heap_alloc_new w _⟩
set_option maxRecDepth 100000 in
theorem pwalk16 (a : Option Addr) (n cap : Nat) (w : World) : Calls Try.prog 69 #[.slice a n cap] w fun e w' => e = .returned (.func (.func 75) #[] #[.pointer (some ⟨w.heap.size, 0, none⟩)]) ∧ Cb16 w #[.slice a n cap] 26 w' := by
  go_enter Try.func69, Try.ntmps69
  go_wp2
  go_ret
  exact ⟨rfl, cb16 _ _ _⟩
def wl16 (S : List St16) (n : Nat) : List (Array Value) := (List.range n).map fun i => #[.int .i64 (pl16 S i), sv16 (S.getD i z16)]
theorem wl16_len (S : List St16) (n : Nat) : (wl16 S n).length = n := by simp [wl16]
theorem wl16_get {S : List St16} {n i : Nat} (h : i < n) : (wl16 S n)[i]? = some #[.int .i64 (pl16 S i), sv16 (S.getD i z16)] := by simp [wl16, h]
theorem SegS.kr {w w' : World} {D : Nat → Prop} {a : Option Addr} {l : List St16} (h : SegS w a l) (hb : Kr16 D w w') (hn : ∀ b off, a = some ⟨b, off, none⟩ → 0 < l.length → D b) : SegS w' a l := by
  refine ⟨fun i hi => ?_, h.fit⟩
  obtain ⟨b, off, ha, ht⟩ := h.at_ i hi
  exact ⟨b, off, ha, ht.of_block (hb.block b ht.lt (hn b off ha (by omega)))⟩
set_option maxRecDepth 100000 in
set_option maxHeartbeats 4000000 in
theorem wk16 (m : Nat) (hm2 : 2 ≤ m) (B : Nat) (a : Option Addr) (n cap : Nat) (S : List St16) (R : Nat → Prop) (w : World) (hB : w.cell? ⟨B, 0, none⟩ = some (.slice a n cap)) (hs : SegS w a S) (hn : Hid (S.length = n)) (hl : n ≤ 1073741824) (hok : Hid (Ok16 S n)) (hRB : R B) (hRa : ∀ b off, a = some ⟨b, off, none⟩ → 0 < S.length → R b) :
    Seq16 m Try.prog 75 #[.pointer (some ⟨B, 0, none⟩)] (wl16 S n) R w := by
  intro l J PX W hW hJ hP hY h0
  have hBW := hW.cell hB hRB
  have hsW := hs.kr hW hRa
  clear hB hs
  refine callsIn_of_wp Try.func75 rfl trivial ?_ rfl
  simp only [Try.ntmps75, List.size_toArray, List.length_cons, List.length_nil, Nat.reduceAdd, Nat.reduceSub, Array.replicate_succ, Array.replicate_zero, List.push_toArray, List.append_toArray, List.nil_append, List.cons_append]
  gi_wp2
  gi_loopw [3, 8] (fun t3 t8 wr => ∃ (i : Nat) (E : Nat → Prop), i ≤ n ∧ t8 = .int .i64 (i : Int) ∧ t3 = .int .i64 (pl16 S i) ∧ J i E wr ∧ Lo16 W.heap.size E wr ∧ Kr16 R W wr) (fun _ t8 _ => n - (intOf t8).toNat)
  case atStart => exact ⟨0, fun _ => False, Nat.zero_le _, rfl, rfl, h0, fun k hk => hk.elim, Kr16.refl _ _⟩
  case round =>
    obtain ⟨i, E, hi, rfl, rfl, hJi, hlo, hkr⟩ := hrel
    by_cases hlt : i < n
    · have hii : (i : Int) < (n : Int) := by omega
      have hi0 : (0 : Int) ≤ (i : Int) := by omega
      have hil : i < S.length := by rw [hn.out]; exact hlt
      obtain ⟨b, off, rfl, hT⟩ := (hsW.kr hkr hRa).at_ i hil
      have hc0 := hT.c0
      have hc1 := hT.c1
      have hc2 := hT.c2
      have hbd := ad16_le hok.out hlt
      have hpl := sa16_le i (hok.out.mono hi)
      obtain ⟨q1, q2, q3, q4, q5, q6⟩ := hbd
      obtain ⟨p1, p2, p3, p4⟩ := hpl
      have HPL : Hid (pl16 S (i + 1) = pl16 S i + (ad16 S i : Int) + sk16 S i) := rfl
      have hget := wl16_get (S := S) hlt
      have hsk : (S.getD i z16).2.2 = sk16 S i := rfl
      rw [← q3] at hc0
      rw [← q4] at hc1
      rw [hsk] at hc2
      have hsv : sv16 (S.getD i z16) = .agg #[.int .i64 (ad16 S i : Int), .int .i64 (cp16 S i : Int), .int .i64 (sk16 S i)] := by unfold sv16; rw [← q3, ← q4, hsk]
      rw [hsv] at hget
      obtain ⟨wA, hwA⟩ : ∃ wA, wA = wr.alloc (.cells #[.int .i64 (ad16 S i : Int), .int .i64 (cp16 S i : Int), .int .i64 (sk16 S i)] 98) := ⟨_, rfl⟩
      have tA : SpAt wA wr.heap.size 0 ((ad16 S i : Int), (cp16 S i : Int), sk16 S i) := boxS hwA
      have bA : Below wr.heap.size wr wA := by rw [hwA]; exact below_box16 _ _
      have szA : wA.heap.size = wr.heap.size + 1 := by rw [hwA]; simp
      obtain ⟨E', hE'⟩ : ∃ E' : Nat → Prop, E' = fun k => E k ∨ k = wr.heap.size := ⟨_, rfl⟩
      have hszr := hkr.size
      have hlo' : Lo16 W.heap.size E' wA := by
        intro k hk
        rw [hE'] at hk
        rcases hk with hk | hk
        · have := hlo k hk; omega
        · omega
      have hJA : J i E' wA := hJ i E E' wr wA hJi hlo (Kp.of_below bA) (fun k hk => by rw [hE']; exact .inl hk) (fun k hk => by rw [hE'] at hk; rcases hk with hk | hk; exact .inl hk; exact .inr (by omega)) hlo'
      have hkA : Kr16 R W wA := hkr.trans ⟨bA.size, fun k hk _ => bA.block k hk⟩
      have hEB : E' wr.heap.size := by rw [hE']; exact .inr rfl
      obtain ⟨fn, tmps, assign, body, hy, hR⟩ := hY i _ E' wA hget hJA hlo' hkA
      have hol := tA.lt
      have HTA : Hid (∀ W3, Kr16 (fun k => E' k ∨ R k) wA W3 → SpAt W3 wr.heap.size 0 ((ad16 S i : Int), (cp16 S i : Int), sk16 S i)) := fun W3 h3 => tA.of_block (h3.block _ hol (.inl hEB))
      have a0 := tA.c0
      have a1 := tA.c1
      have a2 := tA.c2
      obtain ⟨P0, hP0⟩ : ∃ P0, P0 = pl16 S (i + 1) := ⟨_, rfl⟩
      have hw1 : IntKind.i64.wrap ((ad16 S i : Int) + sk16 S i) = (ad16 S i : Int) + sk16 S i := IntWalk.i64_in _ (by omega)
      have hw2 : IntKind.i64.wrap (pl16 S i + ((ad16 S i : Int) + sk16 S i)) = P0 := by rw [hP0, HPL.out, IntWalk.i64_in _ (by omega)]; omega
      have HP0 : Hid (P0 = pl16 S (i + 1)) := hP0
      have HLO : Hid (Lo16 W.heap.size E' wA) := hlo'
      have HKA : Hid (Kr16 R W wA) := hkA
      rw [hwA] at hy a0 a1 a2
      have HWA : Hid (wA = wr.alloc (.cells #[.int .i64 (ad16 S i : Int), .int .i64 (cp16 S i : Int), .int .i64 (sk16 S i)] 98)) := hwA
      clear hT hget hsk hsv tA bA szA hE' hlo' hJA hkA hJi hP0 hwA q3 q4 hlo hkr HPL
      generalize pl16 S i = p at *
      generalize ad16 S i = ai at *
      generalize cp16 S i = ci at *
      generalize sk16 S i = si at *
      gi_wp2
      refine ⟨fun _ => by omega, ?_⟩
      rw [← HWA.out]
      refine hR.mono ?_
      rintro e W3 hyd
      cases e with
      | returned v =>
        obtain ⟨rfl, hJ3, hk3⟩ := hyd
        obtain ⟨e0, e1, e2⟩ := HTA.out W3 hk3
        simp only at e0 e1 e2
        have HJ3 : Hid (J (i + 1) E' W3) := hJ3
        have HL3 : Hid (Lo16 W.heap.size E' W3) := fun k hk => ⟨(HLO.out k hk).1, Nat.lt_of_lt_of_le (HLO.out k hk).2 hk3.size⟩
        have HK3 : Hid (Kr16 R W W3) := HKA.out.trans (hk3.mono fun k hk => .inr hk)
        clear hJ3 hk3 hR hy HTA HLO HKA
        gi_wp2
        go_roundw
        case rel => exact ⟨i + 1, E', by omega, by simp, by rw [HP0.out], HJ3.out, HL3.out, HK3.out⟩
        case measure => simp [intOf]; omega
      | panicked ch =>
        obtain ⟨hx, hk3⟩ := hyd
        have HL3 : Hid (Lo16 W.heap.size E' W3) := fun k hk => ⟨(HLO.out k hk).1, Nat.lt_of_lt_of_le (HLO.out k hk).2 hk3.size⟩
        have HX : Hid (PX ch E' W3) := hx
        clear hx hk3 hR hy HTA HLO HKA
        gi_wp2
        exact ⟨rfl, E', HL3.out, HX.out⟩
      | outgrown => exact hyd.elim
    · have hk2 : i = n := by omega
      have hneg : ¬ (i : Int) < (n : Int) := by omega
      have HJ : Hid (J (wl16 S n).length E wr) := by show J _ _ _; rw [wl16_len, ← hk2]; exact hJi
      clear hk2 hJi
      gi_wp2
      go_end0
      exact ⟨E, hlo, HJ.out⟩
end Go.Proofs.Ytodioefbfchckaa

namespace Go.Proofs.Ytodioefbfchckaa
open Go.RowKit
set_option linter.unusedVariables false
open Go.RowKit Go.Shelf

/-! A range over a function whose iterator keeps a state of its own in cells; the loop's body never leaves the loop. -/
/-- What is said of a world abides new blocks, and turns of cells that lie from block B on. -/
structure Abd14 {α : Type} (B : Nat) (J : List α → World → Prop) : Prop where
  old : ∀ s W W', J s W → Below W.heap.size W W' → J s W'
  set : ∀ s W r c t i v, B ≤ r → W.heap[r]? = some (.cells c t (0, 0)) → J s W → J s (W.setCell ⟨r, i, none⟩ v)
/-- An iterator: it tells a row that S says, one after the other. -/
def Seq14 {α : Type} (n : Nat) (P : Program) (g : Nat) (lb : Array Value) (encs : α → Array Value) (Kq : World → World → Prop) (S : List α → Prop) (N : Nat) (w : World) : Prop :=
  ∀ (l : Nat) (J : List α → World → Prop) (W : World), Below w.heap.size w W → Abd14 W.heap.size J →
    (∀ pre x W1, J pre W1 → pre.length < N → YieldAt Fence.wide (n - 1) P l (encs x) W1 fun e W' => e = .returned (.bool true) ∧ J (pre ++ [x]) W' ∧ Kq W1 W') →
    J [] W → CallsIn Fence.wide n P g (#[.func (.yield l) #[] #[]] ++ lb) W fun e W' => (∃ v, e = .returned v) ∧ ∃ xs, S xs ∧ J xs W'
/-- Cells lie as they lay. -/
def Cel14 (W W' : World) : Prop := W.heap.size = W'.heap.size ∧ ∀ (k : Nat) (o : Obj), W.heap[k]? = some o → o.isCells = true → W'.heap[k]? = some o
theorem put_cel14 {W : World} {l : Nat} {r : Loop} (o : Obj) (h : W.heap[l]? = some (.loop r)) : Cel14 W (W.putObj l o) := by
  refine ⟨by simp [World.putObj], fun k x hk hc => ?_⟩
  rw [World.putObj_heap_other (fun e => by subst e; rw [h] at hk; cases hk; cases hc)]
  exact hk
theorem range14 {α : Type} {P : Program} {n : Nat} {g : Operand} {ps : Array Tmp} {assign body : Code} {Q : Exit → Act → World → Prop} {a : Act} {w : World} (h1 : 1 ≤ n) {gf : Nat} {lb : Array Value} (hg : a.eval g = .func (.func gf) #[] lb) (eg : ∀ args w, (callFunc gf args).run P w = .ok (.enter gf args) w)
    {encs : α → Array Value} {Kq : World → World → Prop} {S : List α → Prop} {N : Nat} (hseq : Seq14 (n - 1) P gf lb encs Kq S N w)
    (hKt : ∀ {A B C : World}, Kq A B → Kq B C → Kq A C) (hKb : ∀ (W : World) (l : Nat) (o : Obj) (r : Loop), w.heap.size ≤ l → W.heap[l]? = some (.loop r) → Kq W (W.putObj l o)) (hps : ∀ x, (encs x).size = ps.size)
    (I : List α → World → Prop) (hI : Abd14 w.heap.size I) (hIp : ∀ s W l o r, w.heap.size ≤ l → W.heap[l]? = some (.loop r) → I s W → I s (W.putObj l o)) (h0 : I [] w)
    (hround : ∀ (l : Nat) (pre : List α) (x : α) (W : World), I pre W → pre.length < N → assign.wpIn (Fence.wide.inRound l) (n - 1 - 1) P (Exit.then (fun a1 W1 => KeepsOthers W W1 ∧ Kq W W1 ∧ I pre W1 ∧
        ∀ W2, Cel14 W1 W2 → I pre W2 → body.wpIn (Fence.wide.inRound l) (n - 1 - 1) P (fun e _ W3 => e = .normal ∧ KeepsOthers W2 W3 ∧ Kq W2 W3 ∧ I (pre ++ [x]) W3) a1 W2) (fun _ _ _ => False))
      { tmps := (ps.zip (encs x)).foldl (fun t (p, v) => t.setIfInBounds p v) a.tmps, defers := [] } W)
    (hdone : ∀ (D : Nat) (xs : List α) (W : World), w.heap.size ≤ D → S xs → I xs W → W.heap[D]? = some (.deferred (some [])) → Q .normal { a with defers := { target := .collected D, args := #[] } :: a.defers } W) :
    (Code.rangeFunc g ps assign body).wpIn Fence.wide n P Q a w := by
  refine wpIn_rangeFunc fun fn hfn => ?_
  let R : LoopState → Loop := fun st => { state := st, pending := none, fn, tmps := a.tmps, params := ps, assign, body, defers := w.heap.size }
  have hsz : ((w.alloc (.deferred (some []))).alloc (.loop (R .ready))).heap.size = w.heap.size + 2 := by simp
  have e0 : (w.alloc (.deferred (some []))).heap.size = w.heap.size + 1 := by simp
  have hl0 : ((w.alloc (.deferred (some []))).alloc (.loop (R .ready))).heap[w.heap.size + 1]? = some (.loop (R .ready)) := by
    rw [← e0]; exact heap_alloc_new _ _
  have hd0 : ((w.alloc (.deferred (some []))).alloc (.loop (R .ready))).heap[w.heap.size]? = some (.deferred (some [])) := by
    exact (Below.heap_alloc (w.alloc (.deferred (some []))) _ w.heap.size (by omega)).trans (heap_alloc_new w _)
  have hb0 : Below w.heap.size w ((w.alloc (.deferred (some []))).alloc (.loop (R .ready))) := ((Below.refl _ _).alloc (Nat.le_refl _) _).alloc (by omega) _
  have hi0 : I [] ((w.alloc (.deferred (some []))).alloc (.loop (R .ready))) := hI.old _ _ _ h0 hb0
  have hent := run_enterLoop_outer (P := P) (w := w) fn a.tmps ps assign body
  obtain ⟨W1, hW1⟩ : ∃ W1, W1 = (w.alloc (.deferred (some []))).alloc (.loop (R .ready)) := ⟨_, rfl⟩
  rw [← hW1] at hsz hl0 hd0 hb0 hi0
  refine ⟨w.heap.size + 1, [{ target := .collected w.heap.size, args := #[] }], W1, { target := .fn (.func gf) lb, args := #[.func (.yield (w.heap.size + 1)) #[] #[]] }, W1, gf, #[.func (.yield (w.heap.size + 1)) #[] #[]] ++ lb, W1, ?_, ?_, ?_, ?_, fun _ => h1, ?_⟩
  · rw [hW1]; exact hent
  · simp only [resolve, hg]
    simp [go_sem]
  · intro f' hf'
    trivial
  · simp [invoke, go_sem, eg]
  · refine (hseq (w.heap.size + 1) (fun pre W => I pre W ∧ W.heap[w.heap.size + 1]? = some (.loop (R .ready)) ∧ W.heap[w.heap.size]? = some (.deferred (some []))) _ hb0 ⟨?_, ?_⟩ ?_ ⟨hi0, hl0, hd0⟩).mono ?_
    · rintro s A B ⟨x1, x2, x3⟩ hb
      exact ⟨hI.old s A B x1 hb, (hb.block _ (Array.getElem?_eq_some_iff.1 x2).1).trans x2, (hb.block _ (Array.getElem?_eq_some_iff.1 x3).1).trans x3⟩
    · rintro s A r c t i v hr hc ⟨x1, x2, x3⟩
      refine ⟨hI.set s A r c t i v (by omega) hc x1, ?_, ?_⟩
      · rw [heap_setCell_other _ _ _ _ (by show _ ≠ r; omega)]; exact x2
      · rw [heap_setCell_other _ _ _ _ (by show _ ≠ r; omega)]; exact x3
    · rintro pre x A ⟨x1, x2, x3⟩ hlen
      refine ⟨fn, _, assign, body, run_yield x2 (hps x), roundIn_of_wpIn hfn ?_⟩
      refine wpIn_mono (hround (w.heap.size + 1) pre x A x1 hlen) ?_
      rintro e a1 A1 he
      cases e with
      | normal =>
        obtain ⟨k1, k2, k3, k4⟩ := he
        have y2 := k1.same _ _ x2 rfl
        have y3 := k1.same _ _ x3 rfl
        refine ⟨_, run_beginRound y2 rfl, ?_⟩
        have z2 : (A1.putObj (w.heap.size + 1) (.loop { R .ready with state := .busy })).heap[w.heap.size + 1]? = some (.loop { R .ready with state := .busy }) := World.putObj_heap_same (Array.getElem?_eq_some_iff.1 y2).1
        have z3 := (World.putObj_heap_other (w := A1) (o := .loop { R .ready with state := .busy }) (show w.heap.size ≠ w.heap.size + 1 by omega)).trans y3
        refine wpIn_mono (k4 _ (put_cel14 _ y2) (hIp _ _ _ _ _ (by omega) y2 k3)) ?_
        rintro e2 a2 A3 ⟨rfl, j1, j2, j3⟩
        have u2 := j1.same _ _ z2 rfl
        have u3 := j1.same _ _ z3 rfl
        refine ⟨_, _, run_endRound none u2, rfl, ⟨hIp _ _ _ _ _ (by omega) u2 j3, ?_, ?_⟩, hKt (hKt (hKt k2 (hKb _ _ _ _ (by omega) y2)) j2) (hKb _ _ _ _ (by omega) u2)⟩
        · exact World.putObj_heap_same (Array.getElem?_eq_some_iff.1 u2).1
        · exact (World.putObj_heap_other (by omega)).trans u3
      | ret => exact he.elim
      | exit id => exact he.elim
      | goto t => exact he.elim
      | panic ch => exact he.elim
      | outgrown => exact he.elim
    · rintro e A ⟨⟨v, rfl⟩, xs, hS, x1, x2, x3⟩
      exact ⟨none, _, run_endLoop x2 (by intro h; cases h), hdone _ xs _ (Nat.le_refl _) hS (hIp _ _ _ _ _ (by omega) x2 x1) ((World.putObj_heap_other (by omega)).trans x3)⟩
open Go.RowKit Go.Shelf

/-! A region that draws its order, in a loop's round: what looks stands first and leaves the world alone; what follows goes one after the other. -/
def nodef14 (ops : Array Oper) : Bool := ops.all fun o => match o.op with | .defer _ => false | _ => true
theorem nodef14_spec {ops : Array Oper} (h : nodef14 ops = true) {i : Nat} {o : Oper} (ho : ops[i]? = some o) : ∀ c, o.op ≠ .defer c := by
  intro c e
  obtain ⟨hi, rfl⟩ := Array.getElem?_eq_some_iff.1 ho
  have := (Array.all_eq_true.1 h) i hi
  rw [e] at this
  cases this
theorem opIn_still14 {P : Program} {ops : Array Oper} {l n i : Nat} {w : World} {a : Act} {K : Act → Prop} {K' : Act → World → Prop} {Q : Exit → Act → World → Prop} (hd : nodef14 ops = true) (h : ∀ a, K a → K' a w) (hh : stOp P ops w i K a) : wpOpIn (Fence.wide.inRound l) n P ops Q i K' a w := by
  unfold stOp at hh
  unfold wpOpIn
  split
  · rename_i ho; simp only [ho] at hh; exact h _ hh
  · rename_i o ho
    simp only [ho] at hh
    split
    · rename_i hw
      simp only [hw, if_true] at hh
      refine ⟨fun _ _ => trivial, ?_⟩
      rw [Oper.semAt_eq _ _ _ (nodef14_spec hd ho)]
      unfold Oper.still at hh
      generalize (execOp a.eval o).run P w = r at *
      cases r with
      | ok x w' =>
        cases x <;> simp only [Oper.stillUpon] at hh <;> try exact hh.elim
        case value v => obtain ⟨rfl, hh⟩ := hh; exact h _ hh
        case skip => obtain ⟨rfl, hh⟩ := hh; exact h _ hh
        case enter f args =>
          obtain ⟨rfl, v, hc, hn⟩ := hh
          refine ⟨fun h => (by cases h), ?_⟩
          refine (CallsIn.inRound l (callsIn_wide.2 hc)).mono ?_
          rintro e w2 ⟨rfl, rfl⟩
          exact h _ hn
      | halt x w' => simp only [Oper.stillUpon] at hh
    · rename_i hw
      simp only [hw] at hh
      exact ⟨fun _ _ => trivial, h _ hh⟩
theorem anyIn_head14 {P : Program} {ops : Array Oper} {md : Region.Mode} {w : World} {l n k g : Nat} {L : Array Bool → Act → Prop} {Q : Exit → Act → World → Prop} (hd : nodef14 ops = true) (hL : ∀ listed a, L listed a → wpAnyIn (Fence.wide.inRound l) n P md ops Q g listed a w) :
    ∀ (f : Nat) (listed : Array Bool) (a : Act), wpAnyL P md ops w k L f listed a → wpAnyIn (Fence.wide.inRound l) n P md ops Q (f + g) listed a w
  | 0, listed, a, h => by rw [Nat.zero_add]; exact hL _ _ h
  | f + 1, listed, a, h => by
    rw [show f + 1 + g = (f + g) + 1 by omega]
    exact ⟨fun h0 => absurd h0 h.1, fun i hi => opIn_still14 hd (fun a' h' => anyIn_head14 hd hL f _ a' h') (h.2 i hi).2⟩
theorem anyIn_seq14 {F : Fence} {P : Program} {ops : Array Oper} {md : Region.Mode} {n : Nat} {Q : Exit → Act → World → Prop} : ∀ (l : List Oper) (k : Nat) (listed : Array Bool) (a : Act) (w : World), (∀ j, l[j]? = ops[k + j]?) →
    Region.seqB md ops l.length k listed = true → wpListIn F n P ops Q l a w → wpAnyIn F n P md ops Q l.length listed a w
  | [], _, _, _, _, _, hB, h => ⟨by simpa [Region.seqB] using hB, h⟩
  | o :: l, k, listed, a, w, hl, hB, h => by
    have h0 : ops[k]? = some o := by simpa using (hl 0).symm
    simp only [List.length_cons, Region.seqB, Bool.and_eq_true, decide_eq_true_eq] at hB
    refine ⟨fun h1 => (by rw [hB.1] at h1; cases h1), fun i hi => ?_⟩
    rw [hB.1] at hi
    have hik : i = k := by simpa using hi
    subst hik
    have hw : wpOpIn F n P ops Q i (wpListIn F n P ops Q l) a w := by unfold wpOpIn; simp only [h0]; exact h
    exact wpOpIn_mono (fun a' w' h' => anyIn_seq14 l (i + 1) _ a' w' (fun j => by have := hl (j + 1); simpa [Nat.add_assoc, Nat.add_comm 1 j] using this) hB.2 h') hw
theorem still_tail14 {P : Program} {n id rd : Nat} {Q : Exit → Act → World → Prop} {a : Act} {w : World} {l : List Oper} (k : Nat) (hm : P.follows .mixedOrders = true) (hd : nodef14 l.toArray = true) (hB : Region.lexTailB .any l.toArray k = true)
    (h : wpStill P l.toArray w.drew (fun a' => wpListIn (Fence.wide.inRound rd) n P l.toArray Q (l.drop k) a' w.drew) (l.take k) a) : (Code.region id l.toArray true).wpIn (Fence.wide.inRound rd) n P Q a w := by
  simp only [Region.lexTailB, Bool.and_eq_true, decide_eq_true_eq] at hB
  obtain ⟨⟨⟨⟨hsel, hn⟩, hs⟩, hc⟩, hlex⟩ := hB
  have hn' : k < l.length := by simpa using hn
  have htl : (l.take k).length = k := by simp; omega
  have hdl : (l.drop k).length = l.toArray.size - k := by simp
  have inv0 : HeadInv .any l.toArray k (Array.replicate l.toArray.size false) :=
    ⟨by simp, fun j oj _ hl => (by rw [getD_replicate_false] at hl; cases hl), fun t _ ht => getD_in (by simpa using ht) (getD_replicate_false _ _)⟩
  have H := wpAnyL_lex (md := .any) (g := l.toArray.size - k) hsel hs hc hn (l.take k) 0 _ a (fun j hj => by
    have hj' : j < k := by rw [htl] at hj; exact hj
    simp [hj']) (by simpa using htl) inv0 (by rw [htl]; exact hlex) h
  refine wpIn_region_any hm ?_
  have := anyIn_head14 (l := rd) (n := n) (Q := Q) (g := l.toArray.size - k) hd (fun listed a' hL => by
    have := anyIn_seq14 (F := Fence.wide.inRound rd) (n := n) (md := .any) (Q := Q) (l.drop k) k listed a' w.drew (fun j => by simp [List.getElem?_drop]) (by rw [hdl]; exact hL.1) hL.2
    rwa [hdl] at this) _ _ _ H
  rw [htl, show k + (l.toArray.size - k) = l.toArray.size by omega] at this
  exact this
open Go.RowKit Go.Shelf
attribute [local go_sem] Oper.semAt_some

/-! slices.Backward's iterator over bytes. -/
/-- Below n₀ nothing has turned, but for blocks of E. -/
structure KeepE (n₀ : Nat) (E : Nat → Prop) (W W' : World) : Prop where
  size : W.heap.size ≤ W'.heap.size
  block : ∀ k, k < n₀ → ¬ E k → W'.heap[k]? = W.heap[k]?
theorem KeepE.refl (n₀ : Nat) (E : Nat → Prop) (W : World) : KeepE n₀ E W W := ⟨Nat.le_refl _, fun _ _ _ => rfl⟩
theorem KeepE.trans {n₀ : Nat} {E : Nat → Prop} {A B C : World} (h : KeepE n₀ E A B) (k : KeepE n₀ E B C) : KeepE n₀ E A C := ⟨Nat.le_trans h.size k.size, fun i hi hn => (k.block i hi hn).trans (h.block i hi hn)⟩
theorem KeepE.of_below {n₀ : Nat} {E : Nat → Prop} {A B : World} (h : Below n₀ A B) : KeepE n₀ E A B := ⟨h.size, fun k hk _ => h.block k hk⟩
theorem KeepE.cell {n₀ : Nat} {E : Nat → Prop} {A B : World} (h : KeepE n₀ E A B) {p : Addr} (hp : p.block < n₀) (hn : ¬ E p.block) : B.cell? p = A.cell? p := World.cell?_of_block (w := A) (h.block p.block hp hn)
theorem keepE_b {n₀ : Nat} {E : Nat → Prop} {w : World} (hn : n₀ ≤ w.heap.size) (W : World) (l : Nat) (o : Obj) (r : Loop) (hl : w.heap.size ≤ l) (h : W.heap[l]? = some (.loop r)) : KeepE n₀ E W (W.putObj l o) :=
  ⟨by simp [World.putObj], fun k hk _ => World.putObj_heap_other (by omega)⟩
theorem KeepE.set {n₀ : Nat} {E : Nat → Prop} {W : World} {b i : Nat} (hb : n₀ ≤ b ∨ E b) (v : Value) : KeepE n₀ E W (W.setCell ⟨b, i, none⟩ v) := by
  refine ⟨by simp, fun k hk hn => heap_setCell_other _ _ _ _ ?_⟩
  intro e
  have e' : k = b := e
  subst e'
  rcases hb with h | h
  · omega
  · exact hn h
abbrev BwE14 (m : Nat) : Type := { x : Nat × Int // x.1 < m ∧ 0 ≤ x.2 ∧ x.2 ≤ 255 }
def bwk14 (p : List Int) (k : Nat) : List (Nat × Int) := (List.range k).map fun j => (p.length - 1 - j, p.getD (p.length - 1 - j) 0)
theorem bwk14_succ (p : List Int) (k : Nat) : bwk14 p (k + 1) = bwk14 p k ++ [(p.length - 1 - k, p.getD (p.length - 1 - k) 0)] := by
  unfold bwk14
  rw [List.range_succ, List.map_append]
  rfl
end Go.Proofs.Ytodioefbfchckaa

namespace Go.Proofs.Ytodioefbfchckaa
open Go.RowKit Go.Shelf
set_option linter.unusedVariables false

/-! A region that draws its order, in a loop's round, under a condition of the world that every operation keeps. -/
def nrm14 (Q : Exit → Act → World → Prop) : Exit → Act → World → Prop := fun e a w => e = .normal ∧ Q .normal a w
theorem nrm14_lets (Q : Exit → Act → World → Prop) : ¬ LetsOut (nrm14 Q) := by
  rintro ⟨a, w, h, _⟩
  cases h
theorem opIn_of_op14 {P : Program} {ops : Array Oper} {l n i : Nat} {w : World} {a : Act} {K K' : Act → World → Prop} {Q : Exit → Act → World → Prop} (hd : nodef14 ops = true) (h : ∀ a w, K a w → K' a w) (hh : wpOp P ops (nrm14 Q) i K a w) : wpOpIn (Fence.wide.inRound l) n P ops (nrm14 Q) i K' a w := by
  unfold wpOp at hh
  unfold wpOpIn
  split
  · rename_i ho; simp only [ho] at hh; exact h _ _ hh
  · rename_i o ho
    simp only [ho] at hh
    split
    · rename_i hw
      simp only [hw, if_true] at hh
      rcases hh with hh | ⟨_, hh⟩
      · refine ⟨fun _ _ => trivial, ?_⟩
        rw [Oper.semAt_eq _ _ _ (nodef14_spec hd ho)]
        unfold Oper.wp at hh
        generalize (execOp a.eval o).run P w = r at *
        cases r with
        | ok x w' =>
          cases x <;> simp only [Oper.upon] at hh
          case value v => exact h _ _ hh
          case skip => exact h _ _ hh
          case defer d => exact h _ _ hh
          case enter f args =>
            refine ⟨fun h => (by cases h), ?_⟩
            refine (CallsIn.inRound l (callsIn_wide.2 hh)).mono ?_
            intro e w2 he
            cases e with
            | returned v => exact h _ _ he
            | panicked c => exact he
            | outgrown => exact he
          case row row args =>
            refine ⟨fun h => (by cases h), fun c cs _ => ?_⟩
            obtain ⟨v, w2, r, s⟩ := hh c cs
            exact ⟨v, w2, h _ _ r, stepsIn_wide.2 s⟩
        | halt x w' => cases x <;> simp only [Oper.upon] at hh <;> exact hh
      · exact absurd hh (nrm14_lets Q)
    · rename_i hw
      simp only [hw] at hh
      exact ⟨fun _ _ => trivial, h _ _ hh⟩
theorem anyIn_of_any14 {P : Program} {ops : Array Oper} {md : Region.Mode} {l n : Nat} {Q : Exit → Act → World → Prop} (hd : nodef14 ops = true) :
    ∀ (f : Nat) (listed : Array Bool) (a : Act) (w : World), wpAny P md ops (nrm14 Q) f listed a w → wpAnyIn (Fence.wide.inRound l) n P md ops (nrm14 Q) f listed a w
  | 0, _, _, _, h => h
  | f + 1, _, _, _, h => ⟨h.1, fun i hi => opIn_of_op14 hd (fun a' w' h' => anyIn_of_any14 hd f _ a' w' h') (h.2 i hi)⟩
theorem held_round14 {P : Program} {n id rd : Nat} {Q : Exit → Act → World → Prop} {a : Act} {w : World} {ops : Array Oper} {S : World → Prop} (hm : P.follows .mixedOrders = true) (hd : nodef14 ops = true) (hS : S w.drew)
    (h : S w.drew → wpAnyH P .any ops (nrm14 Q) S ops.size (Array.replicate ops.size false) a w.drew) : (Code.region id ops true).wpIn (Fence.wide.inRound rd) n P Q a w :=
  wpIn_mono (wpIn_region_any hm (anyIn_of_any14 hd _ _ _ _ (wpAny_of_held _ _ _ _ (h hS)))) fun e a' w' he => by
    obtain ⟨rfl, h2⟩ := he
    exact h2
end Go.Proofs.Ytodioefbfchckaa
