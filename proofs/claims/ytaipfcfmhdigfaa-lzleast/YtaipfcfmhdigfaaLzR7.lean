
import Derived.Test.YtaipfcfmhdigfaaLzR6
import Derived.Deep.OwnRows
namespace Go.Proofs.Ytaipfcfmhdigfaa
open Go.RowKit
set_option linter.unusedVariables false
set_option linter.unusedSimpArgs false

/-! The document's bits and nearest. -/
set_option maxRecDepth 100000 in
set_option maxHeartbeats 1000000 in
theorem rbits7 (D : Nat) (hD : D < 4611686018427387904) (w : World) : Calls Try.prog 43 #[.int .i64 (D : Int)] w fun e w' => e = .returned (.int .i64 (bits7 D : Int)) ∧ w' = w := by
  have hk := bits7_le 62 D (by simpa using hD)
  have HK : Hid (bits7 D ≤ 62) := hk
  clear hk
  go_enter Try.func43, Try.ntmps43
  go_wp2_with fail
  go_loopw [0, 3] (fun td tn wr => ∃ d i : Nat, d ≤ D ∧ td = .int .i64 (d : Int) ∧ tn = .int .i64 (i : Int) ∧ Hid (bits7 D = i + bits7 d) ∧ wr = w) (fun td _ _ => (intOf td).toNat)
  case atStart => exact ⟨D, 0, by omega, rfl, rfl, (show _ = _ by omega), rfl⟩
  case round =>
    obtain ⟨d, i, hd, rfl, rfl, HB, hwr⟩ := hrel
    subst hwr
    by_cases h0 : 0 < d
    · have h0i : (0 : Int) < (d : Int) := by omega
      have HB2 : Hid (bits7 D = (i + 1) + bits7 (d / 2)) := by show _ = _; rw [HB.out, bits7_pos h0]; omega
      obtain ⟨d2, hd2⟩ : ∃ d2, d2 = d / 2 := ⟨_, rfl⟩
      rw [← hd2] at HB2
      have hq : (d : Int).tdiv 2 = (d2 : Int) := by rw [Int.tdiv_eq_ediv_of_nonneg (by omega)]; omega
      have hi : i ≤ 62 := by have := HB.out; have := HK.out; omega
      have hw2 : IntKind.i64.wrap (d2 : Int) = (d2 : Int) := IntWalk.i64_in _ (by omega)
      have hdl : d2 < d := by omega
      have HD2 : Hid ((d : Int) / 2 = (d2 : Int)) := by show _ = _; omega
      clear HB
      go_wp2_with fail
      go_roundw
      case rel => exact ⟨d2, i + 1, by omega, by rw [HD2.out], by go_num, HB2, trivial⟩
      case measure => simp [intOf]; omega
    · obtain rfl : d = 0 := by omega
      have HE : Hid (bits7 D = i) := by show _ = _; rw [HB.out, bits7_zero]; omega
      clear HB
      go_wp2_with fail
      go_ret
      exact ⟨by rw [HE.out]; rfl, rfl⟩
set_option maxRecDepth 100000 in
set_option maxHeartbeats 2000000 in
theorem rnear7 (D : List Int) (a : Option Addr) (n cap p l W : Nat) (hn : Hid (D.length = n)) (w : World) (hs : Seg w a D) (hp : p < n) (hl : n ≤ 1152921504606846976) (hW2 : W ≤ 32768) (hl2 : l ≤ 258) :
    Calls Try.prog 42 #[.slice a n cap, .int .i64 (p : Int), .int .i64 (l : Int), .int .i64 (W : Int)] w fun e w' => e = .returned (.int .i64 (nst7 D p l W : Int)) ∧ Below w.heap.size w w' := by
  have HS : Hid (Seg w a D) := hs
  clear hs
  go_enter Try.func42, Try.ntmps42
  go_wp2_with fail
  go_loopw [9] (fun td wr => ∃ d : Nat, 1 ≤ d ∧ d ≤ p + 1 ∧ td = .int .i64 (d : Int) ∧ Hid (nst7 D p l W = nrg7 D p l W (p + 1 - d) d) ∧ Below w.heap.size w wr) (fun td _ => p + 1 - (intOf td).toNat)
  case atStart => exact ⟨1, by omega, by omega, rfl, (show _ = _ by unfold nst7; simp), Below.refl _ _⟩
  case round =>
    obtain ⟨d, hd1, hdp, rfl, HB, BR⟩ := hrel
    by_cases hc : d ≤ W ∧ d ≤ p
    · have hc1 : (d : Int) ≤ (W : Int) := by omega
      have hc2 : (d : Int) ≤ (p : Int) := by omega
      obtain ⟨q, hq⟩ : ∃ q, q = p - d := ⟨_, rfl⟩
      have hwq : IntKind.i64.wrap ((p : Int) - (d : Int)) = (q : Int) := by rw [IntWalk.i64_in _ (by omega)]; omega
      have HU : Hid (nrg7 D p l W (p + 1 - d) d = if l ≤ al7 D q p then d else nrg7 D p l W (p + 1 - (d + 1)) (d + 1)) := by
        show _ = _
        rw [show p + 1 - d = p + 1 - (d + 1) + 1 by omega, nrg7, if_pos hc, ← hq]
      have sr : Seg wr a D := (show Seg w a D from HS.out).below BR (show Seg w a D from HS.out).lt
      have CA := ralike7 D a n cap q p hn wr sr (by omega) (by omega) hl
      have hqp : q ≤ p := by omega
      clear hq sr
      generalize al7 D q p = al at *
      go_wp2_with fail
      refine CA.mono ?_
      rintro e w2 ⟨rfl, b2⟩
      have B2 : Below w.heap.size w w2 := BR.trans (b2.mono BR.size)
      by_cases hal : l ≤ al
      · have hali : (l : Int) ≤ (al : Int) := by omega
        have HE : Hid (nst7 D p l W = d) := by show _ = _; rw [HB.out, HU.out, if_pos hal]
        clear HB HU
        go_wp2_with fail
        go_ret
        exact ⟨by rw [HE.out]; rfl, B2⟩
      · have hali : ¬ (l : Int) ≤ (al : Int) := by omega
        have HE : Hid (nst7 D p l W = nrg7 D p l W (p + 1 - (d + 1)) (d + 1)) := by show _ = _; rw [HB.out, HU.out, if_neg hal]
        clear HB HU
        go_wp2_with fail
        go_roundw
        case rel => exact ⟨d + 1, by omega, by omega, by go_num, HE, B2⟩
        case measure => simp [intOf]; omega
    · have HE : Hid (nst7 D p l W = 0) := by
        show _ = _
        rw [HB.out]
        by_cases h0 : p + 1 - d = 0
        · rw [h0, nrg7]
        · rw [show p + 1 - d = p + 1 - (d + 1) + 1 by omega, nrg7, if_neg hc]
      clear HB
      by_cases hc1 : (d : Int) ≤ (W : Int)
      · have hc2 : ¬ (d : Int) ≤ (p : Int) := by omega
        go_wp2_with fail
        go_ret
        exact ⟨by rw [HE.out]; rfl, BR⟩
      · go_wp2_with fail
        go_ret
        exact ⟨by rw [HE.out]; rfl, BR⟩
/-! Rows of ints and of tokens that are written place by place. -/
structure RowI (w : World) (g n : Nat) (A : Nat → Int) : Prop where
  at_ : ∀ q, q < n → w.cell? ⟨g, q, none⟩ = some (.int .i64 (A q))
  fr : ∀ k, w.frozen? ⟨g, k, none⟩ = false
structure RowK (w : World) (g n : Nat) (F : Nat → Tok7) : Prop where
  at_ : ∀ q, q < n → TkAt w g (q * 3) (F q)
  fr : ∀ k, w.frozen? ⟨g, k, none⟩ = false
theorem frozen_block {w w' : World} {g : Nat} (h : w'.heap[g]? = w.heap[g]?) (k : Nat) : w'.frozen? ⟨g, k, none⟩ = w.frozen? ⟨g, k, none⟩ := by simp only [World.frozen?, h]
theorem RowI.of_block {w w' : World} {g n : Nat} {A : Nat → Int} (h : RowI w g n A) (hb : w'.heap[g]? = w.heap[g]?) : RowI w' g n A :=
  ⟨fun q hq => (World.cell?_of_block (a := ⟨g, q, none⟩) hb).trans (h.at_ q hq), fun k => (frozen_block hb k).trans (h.fr k)⟩
theorem RowK.of_block {w w' : World} {g n : Nat} {F : Nat → Tok7} (h : RowK w g n F) (hb : w'.heap[g]? = w.heap[g]?) : RowK w' g n F :=
  ⟨fun q hq => (h.at_ q hq).of_block hb, fun k => (frozen_block hb k).trans (h.fr k)⟩
def updI (A : Nat → Int) (i : Nat) (x : Int) : Nat → Int := fun k => if k = i then x else A k
def updK (F : Nat → Tok7) (i : Nat) (x : Tok7) : Nat → Tok7 := fun k => if k = i then x else F k
theorem sc_same7 {w : World} {g o : Nat} {v : Value} {u : Value} (h : w.cell? ⟨g, o, none⟩ = some u) : (w.setCell ⟨g, o, none⟩ v).cell? ⟨g, o, none⟩ = some v := World.cell?_setCell_same _ _ _ h
theorem sc_other7 {w : World} {g o p : Nat} {v : Value} (h : o ≠ p) : (w.setCell ⟨g, o, none⟩ v).cell? ⟨g, p, none⟩ = w.cell? ⟨g, p, none⟩ := World.cell?_setCell_other _ _ _ _ (by intro e; cases e; exact h rfl)
theorem RowI.set {w : World} {g n i : Nat} {A : Nat → Int} (h : RowI w g n A) (hi : i < n) (x : Int) : RowI (w.setCell ⟨g, i, none⟩ (.int .i64 x)) g n (updI A i x) := by
  refine ⟨fun q hq => ?_, fun k => by rw [World.frozen?_setCell]; exact h.fr k⟩
  unfold updI
  by_cases e : q = i
  · subst e; rw [if_pos rfl]; exact sc_same7 (h.at_ q hq)
  · rw [if_neg e, sc_other7 (Ne.symm e)]; exact h.at_ q hq
/-- Three cells set. -/
def setTk (w : World) (g o : Nat) (x : Tok7) : World := ((w.setCell ⟨g, o, none⟩ (.int .u8 x.lit)).setCell ⟨g, o + 1, none⟩ (.int .i64 x.len)).setCell ⟨g, o + 2, none⟩ (.int .i64 x.dist)
theorem RowK.set {w : World} {g n i : Nat} {F : Nat → Tok7} (h : RowK w g n F) (hi : i < n) (x : Tok7) : RowK (setTk w g (i * 3) x) g n (updK F i x) := by
  refine ⟨fun q hq => ?_, fun k => by unfold setTk; rw [World.frozen?_setCell, World.frozen?_setCell, World.frozen?_setCell]; exact h.fr k⟩
  unfold updK setTk
  by_cases e : q = i
  · subst e
    rw [if_pos rfl]
    have t := h.at_ q hq
    refine ⟨?_, ?_, ?_⟩
    · rw [sc_other7 (by omega), sc_other7 (by omega)]; exact sc_same7 t.c0
    · rw [sc_other7 (by omega)]; exact sc_same7 (by rw [sc_other7 (by omega)]; exact t.c1)
    · exact sc_same7 (by rw [sc_other7 (by omega), sc_other7 (by omega)]; exact t.c2)
  · rw [if_neg e]
    have t := h.at_ q hq
    refine ⟨?_, ?_, ?_⟩
    · rw [sc_other7 (by omega), sc_other7 (by omega), sc_other7 (by omega)]; exact t.c0
    · rw [sc_other7 (by omega), sc_other7 (by omega), sc_other7 (by omega)]; exact t.c1
    · rw [sc_other7 (by omega), sc_other7 (by omega), sc_other7 (by omega)]; exact t.c2
theorem rowI_made (w : World) (n : Nat) (t : TypeId) : RowI (w.alloc (.cells (madeCells #[.int .i64 0] n) t)) w.heap.size n (fun _ => 0) := by
  obtain ⟨wA, hA⟩ : ∃ wA, wA = w.alloc (.cells (madeCells #[.int .i64 0] n) t) := ⟨_, rfl⟩
  rw [← hA]
  have h : wA.heap[w.heap.size]? = some (.cells (madeCells #[.int .i64 0] n) t (0, 0)) := by rw [hA]; exact heap_alloc_new w _
  refine ⟨fun q hq => ?_, fun k => by simp [World.frozen?, h]⟩
  simp [World.cell?, h, madeCells, hq, Nat.mod_one]
theorem rowK_made (w : World) (n : Nat) (t : TypeId) : RowK (w.alloc (.cells (madeCells #[.int .u8 0, .int .i64 0, .int .i64 0] (n * 3)) t)) w.heap.size n (fun _ => tk0) := by
  obtain ⟨wA, hA⟩ : ∃ wA, wA = w.alloc (.cells (madeCells #[.int .u8 0, .int .i64 0, .int .i64 0] (n * 3)) t) := ⟨_, rfl⟩
  rw [← hA]
  have h : wA.heap[w.heap.size]? = some (.cells (madeCells #[.int .u8 0, .int .i64 0, .int .i64 0] (n * 3)) t (0, 0)) := by rw [hA]; exact heap_alloc_new w _
  refine ⟨fun q hq => ⟨?_, ?_, ?_⟩, fun k => by simp [World.frozen?, h]⟩
  · simp [World.cell?, h, madeCells, show q * 3 < n * 3 by omega]
  · simp [World.cell?, h, madeCells, show q * 3 + 1 < n * 3 by omega, show (q * 3 + 1) % 3 = 1 by omega]
  · simp [World.cell?, h, madeCells, show q * 3 + 2 < n * 3 by omega, show (q * 3 + 2) % 3 = 2 by omega]
end Go.Proofs.Ytaipfcfmhdigfaa
