import Derived.Test.YtmfpdchfofffeaaGreatDoorProg
import Derived.WalkKit
import Derived.WalkSpells
import Derived.Test.YtmfpdchfofffeaaGreatDoorBtMem
import Derived.Test.YtmfpdchfofffeaaGreatDoorPush
import Derived.Deep.QuietTactic
import Derived.BigQuiet
import Derived.Deep.RegionHeld3
import Derived.Test.YtmfpdchfofffeaaGreatDoorEdM
namespace Go.Proofs.YtmfpdchfofffeaaGreatDoor
open Go.RowKit
set_option linter.unusedVariables false
def sv16 (s : St16) : Value := .agg #[.int .i64 s.1, .int .i64 s.2.1, .int .i64 s.2.2]
structure SpAt (w : World) (g o : Nat) (s : St16) : Prop where
  c0 : w.cell? ⟨g, o, none⟩ = some (.int .i64 s.1)
  c1 : w.cell? ⟨g, o + 1, none⟩ = some (.int .i64 s.2.1)
  c2 : w.cell? ⟨g, o + 2, none⟩ = some (.int .i64 s.2.2)
theorem SpAt.of_block {w w' : World} {g o : Nat} {x : St16} (h : SpAt w g o x) (hb : w'.heap[g]? = w.heap[g]?) : SpAt w' g o x :=
  ⟨(World.cell?_of_block (a := ⟨g, o, none⟩) hb).trans h.c0, (World.cell?_of_block (a := ⟨g, o + 1, none⟩) hb).trans h.c1, (World.cell?_of_block (a := ⟨g, o + 2, none⟩) hb).trans h.c2⟩
theorem SpAt.lt {w : World} {g o : Nat} {x : St16} (h : SpAt w g o x) : g < w.heap.size := World.block_lt_of_cell? w _ h.c0
def Fit16 (s : St16) : Prop := (-9223372036854775808 ≤ s.1 ∧ s.1 ≤ 9223372036854775807) ∧ (-9223372036854775808 ≤ s.2.1 ∧ s.2.1 ≤ 9223372036854775807) ∧ (-9223372036854775808 ≤ s.2.2 ∧ s.2.2 ≤ 9223372036854775807)
structure SegS (w : World) (a : Option Addr) (l : List St16) : Prop where
  at_ : ∀ i, i < l.length → ∃ b off, a = some ⟨b, off, none⟩ ∧ SpAt w b (off + i * 3) (l.getD i z16)
  fit : ∀ t ∈ l, Fit16 t
theorem SegS.nil (w : World) (a : Option Addr) : SegS w a [] := ⟨fun i h => by simp at h, fun t h => by simp at h⟩
theorem SegS.kp {w w' : World} {S : Nat → Prop} {a : Option Addr} {l : List St16} (h : SegS w a l) (hb : Kp S w w') (hn : ∀ b off, a = some ⟨b, off, none⟩ → 0 < l.length → ¬ S b) : SegS w' a l := by
  refine ⟨fun i hi => ?_, h.fit⟩
  obtain ⟨b, off, ha, ht⟩ := h.at_ i hi
  exact ⟨b, off, ha, ht.of_block (hb.block b ht.lt (hn b off ha (by omega)))⟩
theorem SegS.old {w w' : World} {a : Option Addr} {l : List St16} (h : SegS w a l) (hb : Below w.heap.size w w') : SegS w' a l := h.kp (S := fun _ => False) (Kp.of_below hb) (fun _ _ _ _ e => e)
theorem SegS.drew {w : World} {a : Option Addr} {l : List St16} (h : SegS w a l) : SegS w.drew a l := h.old ((Below.refl _ _).drew)
theorem SegS.lt {w : World} {a : Option Addr} {l : List St16} (h : SegS w a l) : ∀ b off, a = some ⟨b, off, none⟩ → 0 < l.length → b < w.heap.size := by
  intro b off e hl
  obtain ⟨b', off', ha, ht⟩ := h.at_ 0 hl
  rw [e] at ha
  cases ha
  exact ht.lt
theorem below_box16 {w : World} (cs : Array Value) (t : TypeId) : Below w.heap.size w (w.alloc (.cells cs t)) := (Below.refl _ _).alloc (Nat.le_refl _) _
theorem boxS {w wA : World} {s : St16} {t : TypeId} (hA : wA = w.alloc (.cells #[.int .i64 s.1, .int .i64 s.2.1, .int .i64 s.2.2] t)) : SpAt wA w.heap.size 0 s := by
  have h : wA.heap[w.heap.size]? = some (.cells #[.int .i64 s.1, .int .i64 s.2.1, .int .i64 s.2.2] t (0, 0)) := by rw [hA]; exact heap_alloc_new w _
  refine ⟨?_, ?_, ?_⟩ <;> simp [World.cell?, h]

set_option maxRecDepth 100000 in
set_option maxHeartbeats 2000000 in
theorem pmay16 (s : St16) (w : World) : Calls Tryz.prog 85 #[sv16 s] w fun e w' => e = .returned (.bool (may16 s)) ∧ Below w.heap.size w w' := by
  obtain ⟨a, c, k⟩ := s
  unfold sv16
  simp only
  have hno : ¬ (0 ≤ a ∧ a ≤ 16777216 ∧ 0 ≤ c ∧ c ≤ 16777216 ∧ -16777216 ≤ k ∧ k ≤ 16777216) → may16 (a, c, k) = false := fun h => by unfold may16; exact decide_eq_false h
  by_cases h1 : 0 ≤ a
  · by_cases h2 : a ≤ 16777216
    · by_cases h3 : 0 ≤ c
      · by_cases h4 : c ≤ 16777216
        · by_cases h5 : -16777216 ≤ k
          · by_cases h6 : k ≤ 16777216
            · rw [show may16 (a, c, k) = true from may16_iff.2 ⟨h1, h2, h3, h4, h5, h6⟩]
              clear hno
              go_enter Tryz.func85, Tryz.ntmps85
              go_wp2
              go_ret
              exact ⟨rfl, below_box16 _ _⟩
            · rw [hno (by omega)]
              clear hno
              go_enter Tryz.func85, Tryz.ntmps85
              go_wp2
              go_ret
              exact ⟨rfl, below_box16 _ _⟩
          · rw [hno (by omega)]
            clear hno
            go_enter Tryz.func85, Tryz.ntmps85
            go_wp2
            go_ret
            exact ⟨rfl, below_box16 _ _⟩
        · rw [hno (by omega)]
          clear hno
          go_enter Tryz.func85, Tryz.ntmps85
          go_wp2
          go_ret
          exact ⟨rfl, below_box16 _ _⟩
      · rw [hno (by omega)]
        clear hno
        go_enter Tryz.func85, Tryz.ntmps85
        go_wp2
        go_ret
        exact ⟨rfl, below_box16 _ _⟩
    · rw [hno (by omega)]
      clear hno
      go_enter Tryz.func85, Tryz.ntmps85
      go_wp2
      go_ret
      exact ⟨rfl, below_box16 _ _⟩
  · rw [hno (by omega)]
    clear hno
    go_enter Tryz.func85, Tryz.ntmps85
    go_wp2
    go_ret
    exact ⟨rfl, below_box16 _ _⟩
def sumR16 (S : List St16) (n : Nat) : Value := .tuple (if S.all may16 = true then #[.int .i64 (sa16 S n : Int), .int .i64 (sc16 S n : Int), .int .i64 0] else #[.int .i64 0, .int .i64 0, .int .i64 160])
set_option maxRecDepth 100000 in
set_option maxHeartbeats 2000000 in
theorem psum16 (a : Option Addr) (n cap : Nat) (S : List St16) (w : World) (hs : SegS w a S) (hn : Hid (S.length = n)) (hl : n ≤ 1073741824) :
    Calls Tryz.prog 52 #[.slice a n cap] w fun e w' => e = .returned (sumR16 S n) ∧ Below w.heap.size w w' := by
  go_enter Tryz.func52, Tryz.ntmps52
  go_wp2_with fail
  go_loopw [5, 6, 11] (fun ta tc ti wr => ∃ i : Nat, i ≤ n ∧ ti = .int .i64 (i : Int) ∧ ta = .int .i64 (sa16 S i : Int) ∧ tc = .int .i64 (sc16 S i : Int) ∧ Hid (Ok16 S i) ∧ Below w.heap.size w wr) (fun _ _ ti _ => n - (intOf ti).toNat)
  case atStart => exact ⟨0, by omega, rfl, rfl, rfl, Ok16.zero S, Below.refl _ _⟩
  case round =>
    obtain ⟨i, hi, rfl, rfl, rfl, HO, BR⟩ := hrel
    by_cases hin : i < n
    · have hii : (i : Int) < (n : Int) := by omega
      have hil : i < S.length := by rw [hn.out]; exact hin
      obtain ⟨b, off, rfl, hT⟩ := (hs.old BR).at_ i hil
      have hpm := pmay16 (S.getD i z16)
      have hsl := sa16_le i HO.out
      cases hm : may16 (S.getD i z16)
      · have HA : Hid (S.all may16 = false) := not_all16 hil hm
        rw [hm] at hpm
        have hc0 := hT.c0
        have hc1 := hT.c1
        have hc2 := hT.c2
        have CM : Hid (∀ W, Calls Tryz.prog 85 #[sv16 (S.getD i z16)] W fun e w' => e = .returned (.bool false) ∧ Below W.heap.size W w') := hpm
        clear hT hpm hm hsl HO
        generalize S.getD i z16 = s at *
        obtain ⟨sa, sc, sk⟩ := s
        unfold sv16 at CM
        simp only at hc0 hc1 hc2 CM
        obtain ⟨wA, hwA⟩ : ∃ wA, wA = wr.alloc (.cells #[.int .i64 sa, .int .i64 sc, .int .i64 sk] 108) := ⟨_, rfl⟩
        have HWA : Hid (wr.alloc (.cells #[.int .i64 sa, .int .i64 sc, .int .i64 sk] 108) = wA) := hwA.symm
        have tA : SpAt wA wr.heap.size 0 (sa, sc, sk) := boxS hwA
        have BA : Below w.heap.size w wA := by rw [hwA]; exact BR.trans ((below_box16 _ _).mono BR.size)
        clear hwA
        go_wp2_with fail
        rw [HWA.out]
        refine (CM.out wA).mono ?_
        rintro e w1 ⟨rfl, b1⟩
        go_wp2_with fail
        go_ret3
        exact ⟨by unfold sumR16; rw [HA.out]; rfl, BA.trans (b1.mono BA.size)⟩
      · have HO2 : Hid (Ok16 S (i + 1)) := HO.out.succ hm
        have hb2 := ad16_le HO2.out (show i < i + 1 by omega)
        rw [hm] at hpm
        have hc0 := hT.c0
        have hc1 := hT.c1
        have hc2 := hT.c2
        have CM : Hid (∀ W, Calls Tryz.prog 85 #[sv16 (S.getD i z16)] W fun e w' => e = .returned (.bool true) ∧ Below W.heap.size W w') := hpm
        have HSA : Hid (sa16 S (i + 1) = sa16 S i + ad16 S i) := rfl
        have HSC : Hid (sc16 S (i + 1) = sc16 S i + cp16 S i) := rfl
        clear hT hpm hm HO
        obtain ⟨hb3, hb4, hb5, hb6, hb7, hb8⟩ := hb2
        generalize S.getD i z16 = s at *
        obtain ⟨sa, sc, sk⟩ := s
        unfold sv16 at CM
        simp only at hc0 hc1 hc2 CM hb5 hb6
        subst hb5 hb6
        have hw1 : IntKind.i64.wrap ((sa16 S i : Int) + (ad16 S i : Int)) = (sa16 S (i + 1) : Int) := by rw [HSA.out, IntWalk.i64_in _ (by omega)]; omega
        have hw2 : IntKind.i64.wrap ((sc16 S i : Int) + (cp16 S i : Int)) = (sc16 S (i + 1) : Int) := by rw [HSC.out, IntWalk.i64_in _ (by omega)]; omega
        obtain ⟨wA, hwA⟩ : ∃ wA, wA = wr.alloc (.cells #[.int .i64 (ad16 S i : Int), .int .i64 (cp16 S i : Int), .int .i64 sk] 108) := ⟨_, rfl⟩
        have HWA : Hid (wr.alloc (.cells #[.int .i64 (ad16 S i : Int), .int .i64 (cp16 S i : Int), .int .i64 sk] 108) = wA) := hwA.symm
        have tA : SpAt wA wr.heap.size 0 ((ad16 S i : Int), (cp16 S i : Int), sk) := boxS hwA
        have BA : Below w.heap.size w wA := by rw [hwA]; exact BR.trans ((below_box16 _ _).mono BR.size)
        obtain ⟨ob, hob⟩ : ∃ ob, ob = wr.heap.size := ⟨_, rfl⟩
        have HOB : Hid (wr.heap.size = ob) := hob.symm
        rw [← hob] at tA
        have hol := tA.lt
        have HTA : Hid (∀ W, Below wA.heap.size wA W → SpAt W ob 0 ((ad16 S i : Int), (cp16 S i : Int), sk)) := fun W hW => tA.of_block (hW.block ob hol)
        clear hwA hob tA hb3 hb4 hb7 hb8 hsl
        obtain ⟨A1, hA1⟩ : ∃ A1, A1 = sa16 S (i + 1) := ⟨_, rfl⟩
        obtain ⟨C1, hC1⟩ : ∃ C1, C1 = sc16 S (i + 1) := ⟨_, rfl⟩
        rw [← hA1] at hw1
        rw [← hC1] at hw2
        have HA1 : Hid (A1 = sa16 S (i + 1)) := hA1
        have HC1 : Hid (C1 = sc16 S (i + 1)) := hC1
        clear hA1 hC1 HSA HSC
        generalize sa16 S i = A0 at *
        generalize sc16 S i = C0 at *
        generalize ad16 S i = a1 at *
        generalize cp16 S i = c1 at *
        go_wp2_with fail
        rw [HWA.out, HOB.out]
        refine (CM.out wA).mono ?_
        rintro e w1 ⟨rfl, b1⟩
        obtain ⟨e0, e1, e2⟩ := HTA.out w1 b1
        simp only at e0 e1 e2
        go_wp2_with fail
        go_roundw
        case rel => exact ⟨i + 1, by omega, by simp, by rw [HA1.out], by rw [HC1.out], HO2, BA.trans (b1.mono BA.size)⟩
        case measure => simp [intOf]; omega
    · have hk2 : i = n := by omega
      have HA : Hid (S.all may16 = true) := by have := HO.out; rw [hk2, ← hn.out] at this; exact this.all
      have hneg : ¬ (i : Int) < (n : Int) := by omega
      subst hk2
      go_wp2_with fail
      go_ret3
      exact ⟨by unfold sumR16; rw [HA.out]; rfl, BR⟩
end Go.Proofs.YtmfpdchfofffeaaGreatDoor
