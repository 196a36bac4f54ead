import Derived.Test.YtaipfcfmhdigfaaPaf
import Derived.Deep.OwnRows
import Derived.Test.YtaipfcfmhdigfaaPaq
import Derived.Test.YtaipfcfmhdigfaaPag
namespace Go.Proofs.Ytaipfcfmhdigfaa
open Go.RowKit
set_option linter.unusedVariables false
set_option linter.unusedSimpArgs false

/-! The document's bits and nearest. -/
set_option maxRecDepth 100000 in
set_option maxHeartbeats 1000000 in
theorem rbits7 (D : Nat) (hD : D < 4611686018427387904) (w : World) : Calls Try.prog 43 #[.int .i64 (D : Int)] w fun e w' => e = .returned (.int .i64 (bits7 D : Int)) ∧ w' = w := by
  have hk := bits7_le 62 D (by simpa using hD)
  have HK : Hid (bits7 D ≤ 62) := hk
  clear hk
  go_enter Try.func43, Try.ntmps43
  go_wp2_with fail
  go_loopw [0, 3] (fun td tn wr => ∃ d i : Nat, d ≤ D ∧ td = .int .i64 (d : Int) ∧ tn = .int .i64 (i : Int) ∧ Hid (bits7 D = i + bits7 d) ∧ wr = w) (fun td _ _ => (intOf td).toNat)
  case atStart => exact ⟨D, 0, by omega, rfl, rfl, (show _ = _ by omega), rfl⟩
  case round =>
    obtain ⟨d, i, hd, rfl, rfl, HB, hwr⟩ := hrel
    subst hwr
    by_cases h0 : 0 < d
    · have h0i : (0 : Int) < (d : Int) := by omega
      have HB2 : Hid (bits7 D = (i + 1) + bits7 (d / 2)) := by show _ = _; rw [HB.out, bits7_pos h0]; omega
      obtain ⟨d2, hd2⟩ : ∃ d2, d2 = d / 2 := ⟨_, rfl⟩
      rw [← hd2] at HB2
      have hq : (d : Int).tdiv 2 = (d2 : Int) := by rw [Int.tdiv_eq_ediv_of_nonneg (by omega)]; omega
      have hi : i ≤ 62 := by have := HB.out; have := HK.out; omega
      have hw2 : IntKind.i64.wrap (d2 : Int) = (d2 : Int) := IntWalk.i64_in _ (by omega)
      have hdl : d2 < d := by omega
      have HD2 : Hid ((d : Int) / 2 = (d2 : Int)) := by show _ = _; omega
      clear HB
      go_wp2_with fail
      go_roundw
      case rel => exact ⟨d2, i + 1, by omega, by rw [HD2.out], by go_num, HB2, trivial⟩
      case measure => simp [intOf]; omega
    · obtain rfl : d = 0 := by omega
      have HE : Hid (bits7 D = i) := by show _ = _; rw [HB.out, bits7_zero]; omega
      clear HB
      go_wp2_with fail
      go_ret
      exact ⟨by rw [HE.out]; rfl, rfl⟩
set_option maxRecDepth 100000 in
set_option maxHeartbeats 2000000 in
theorem rnear7 (D : List Int) (a : Option Addr) (n cap p l W : Nat) (hn : Hid (D.length = n)) (w : World) (hs : Seg w a D) (hp : p < n) (hl : n ≤ 1152921504606846976) (hW2 : W ≤ 32768) (hl2 : l ≤ 258) :
    Calls Try.prog 42 #[.slice a n cap, .int .i64 (p : Int), .int .i64 (l : Int), .int .i64 (W : Int)] w fun e w' => e = .returned (.int .i64 (nst7 D p l W : Int)) ∧ Below w.heap.size w w' := by
  have HS : Hid (Seg w a D) := hs
  clear hs
  go_enter Try.func42, Try.ntmps42
  go_wp2_with fail
  go_loopw [9] (fun td wr => ∃ d : Nat, 1 ≤ d ∧ d ≤ p + 1 ∧ td = .int .i64 (d : Int) ∧ Hid (nst7 D p l W = nrg7 D p l W (p + 1 - d) d) ∧ Below w.heap.size w wr) (fun td _ => p + 1 - (intOf td).toNat)
  case atStart => exact ⟨1, by omega, by omega, rfl, (show _ = _ by unfold nst7; simp), Below.refl _ _⟩
  case round =>
    obtain ⟨d, hd1, hdp, rfl, HB, BR⟩ := hrel
    by_cases hc : d ≤ W ∧ d ≤ p
    · have hc1 : (d : Int) ≤ (W : Int) := by omega
      have hc2 : (d : Int) ≤ (p : Int) := by omega
      obtain ⟨q, hq⟩ : ∃ q, q = p - d := ⟨_, rfl⟩
      have hwq : IntKind.i64.wrap ((p : Int) - (d : Int)) = (q : Int) := by rw [IntWalk.i64_in _ (by omega)]; omega
      have HU : Hid (nrg7 D p l W (p + 1 - d) d = if l ≤ al7 D q p then d else nrg7 D p l W (p + 1 - (d + 1)) (d + 1)) := by
        show _ = _
        rw [show p + 1 - d = p + 1 - (d + 1) + 1 by omega, nrg7, if_pos hc, ← hq]
      have sr : Seg wr a D := (show Seg w a D from HS.out).below BR (show Seg w a D from HS.out).lt
      have CA := ralike7 D a n cap q p hn wr sr (by omega) (by omega) hl
      have hqp : q ≤ p := by omega
      clear hq sr
      generalize al7 D q p = al at *
      go_wp2_with fail
      refine CA.mono ?_
      rintro e w2 ⟨rfl, b2⟩
      have B2 : Below w.heap.size w w2 := BR.trans (b2.mono BR.size)
      by_cases hal : l ≤ al
      · have hali : (l : Int) ≤ (al : Int) := by omega
        have HE : Hid (nst7 D p l W = d) := by show _ = _; rw [HB.out, HU.out, if_pos hal]
        clear HB HU
        go_wp2_with fail
        go_ret
        exact ⟨by rw [HE.out]; rfl, B2⟩
      · have hali : ¬ (l : Int) ≤ (al : Int) := by omega
        have HE : Hid (nst7 D p l W = nrg7 D p l W (p + 1 - (d + 1)) (d + 1)) := by show _ = _; rw [HB.out, HU.out, if_neg hal]
        clear HB HU
        go_wp2_with fail
        go_roundw
        case rel => exact ⟨d + 1, by omega, by omega, by go_num, HE, B2⟩
        case measure => simp [intOf]; omega
    · have HE : Hid (nst7 D p l W = 0) := by
        show _ = _
        rw [HB.out]
        by_cases h0 : p + 1 - d = 0
        · rw [h0, nrg7]
        · rw [show p + 1 - d = p + 1 - (d + 1) + 1 by omega, nrg7, if_neg hc]
      clear HB
      by_cases hc1 : (d : Int) ≤ (W : Int)
      · have hc2 : ¬ (d : Int) ≤ (p : Int) := by omega
        go_wp2_with fail
        go_ret
        exact ⟨by rw [HE.out]; rfl, BR⟩
      · go_wp2_with fail
        go_ret
        exact ⟨by rw [HE.out]; rfl, BR⟩
/-! Rows of ints and of tokens that are written place by place. -/
structure RowI (w : World) (g n : Nat) (A : Nat → Int) : Prop where
  at_ : ∀ q, q < n → w.cell? ⟨g, q, none⟩ = some (.int .i64 (A q))
  fr : ∀ k, w.frozen? ⟨g, k, none⟩ = false
structure RowK (w : World) (g n : Nat) (F : Nat → Tok7) : Prop where
  at_ : ∀ q, q < n → TkAt w g (q * 3) (F q)
  fr : ∀ k, w.frozen? ⟨g, k, none⟩ = false
theorem frozen_block {w w' : World} {g : Nat} (h : w'.heap[g]? = w.heap[g]?) (k : Nat) : w'.frozen? ⟨g, k, none⟩ = w.frozen? ⟨g, k, none⟩ := by simp only [World.frozen?, h]
theorem RowI.of_block {w w' : World} {g n : Nat} {A : Nat → Int} (h : RowI w g n A) (hb : w'.heap[g]? = w.heap[g]?) : RowI w' g n A :=
  ⟨fun q hq => (World.cell?_of_block (a := ⟨g, q, none⟩) hb).trans (h.at_ q hq), fun k => (frozen_block hb k).trans (h.fr k)⟩
theorem RowK.of_block {w w' : World} {g n : Nat} {F : Nat → Tok7} (h : RowK w g n F) (hb : w'.heap[g]? = w.heap[g]?) : RowK w' g n F :=
  ⟨fun q hq => (h.at_ q hq).of_block hb, fun k => (frozen_block hb k).trans (h.fr k)⟩
def updI (A : Nat → Int) (i : Nat) (x : Int) : Nat → Int := fun k => if k = i then x else A k
def updK (F : Nat → Tok7) (i : Nat) (x : Tok7) : Nat → Tok7 := fun k => if k = i then x else F k
theorem sc_same7 {w : World} {g o : Nat} {v : Value} {u : Value} (h : w.cell? ⟨g, o, none⟩ = some u) : (w.setCell ⟨g, o, none⟩ v).cell? ⟨g, o, none⟩ = some v := World.cell?_setCell_same _ _ _ h
theorem sc_other7 {w : World} {g o p : Nat} {v : Value} (h : o ≠ p) : (w.setCell ⟨g, o, none⟩ v).cell? ⟨g, p, none⟩ = w.cell? ⟨g, p, none⟩ := World.cell?_setCell_other _ _ _ _ (by intro e; cases e; exact h rfl)
theorem RowI.set {w : World} {g n i : Nat} {A : Nat → Int} (h : RowI w g n A) (hi : i < n) (x : Int) : RowI (w.setCell ⟨g, i, none⟩ (.int .i64 x)) g n (updI A i x) := by
  refine ⟨fun q hq => ?_, fun k => by rw [World.frozen?_setCell]; exact h.fr k⟩
  unfold updI
  by_cases e : q = i
  · subst e; rw [if_pos rfl]; exact sc_same7 (h.at_ q hq)
  · rw [if_neg e, sc_other7 (Ne.symm e)]; exact h.at_ q hq
/-- Three cells set. -/
def setTk (w : World) (g o : Nat) (x : Tok7) : World := ((w.setCell ⟨g, o, none⟩ (.int .u8 x.lit)).setCell ⟨g, o + 1, none⟩ (.int .i64 x.len)).setCell ⟨g, o + 2, none⟩ (.int .i64 x.dist)
theorem RowK.set {w : World} {g n i : Nat} {F : Nat → Tok7} (h : RowK w g n F) (hi : i < n) (x : Tok7) : RowK (setTk w g (i * 3) x) g n (updK F i x) := by
  refine ⟨fun q hq => ?_, fun k => by unfold setTk; rw [World.frozen?_setCell, World.frozen?_setCell, World.frozen?_setCell]; exact h.fr k⟩
  unfold updK setTk
  by_cases e : q = i
  · subst e
    rw [if_pos rfl]
    have t := h.at_ q hq
    refine ⟨?_, ?_, ?_⟩
    · rw [sc_other7 (by omega), sc_other7 (by omega)]; exact sc_same7 t.c0
    · rw [sc_other7 (by omega)]; exact sc_same7 (by rw [sc_other7 (by omega)]; exact t.c1)
    · exact sc_same7 (by rw [sc_other7 (by omega), sc_other7 (by omega)]; exact t.c2)
  · rw [if_neg e]
    have t := h.at_ q hq
    refine ⟨?_, ?_, ?_⟩
    · rw [sc_other7 (by omega), sc_other7 (by omega), sc_other7 (by omega)]; exact t.c0
    · rw [sc_other7 (by omega), sc_other7 (by omega), sc_other7 (by omega)]; exact t.c1
    · rw [sc_other7 (by omega), sc_other7 (by omega), sc_other7 (by omega)]; exact t.c2
theorem rowI_made (w : World) (n : Nat) (t : TypeId) : RowI (w.alloc (.cells (madeCells #[.int .i64 0] n) t)) w.heap.size n (fun _ => 0) := by
  obtain ⟨wA, hA⟩ : ∃ wA, wA = w.alloc (.cells (madeCells #[.int .i64 0] n) t) := ⟨_, rfl⟩
  rw [← hA]
  have h : wA.heap[w.heap.size]? = some (.cells (madeCells #[.int .i64 0] n) t (0, 0)) := by rw [hA]; exact heap_alloc_new w _
  refine ⟨fun q hq => ?_, fun k => by simp [World.frozen?, h]⟩
  simp [World.cell?, h, madeCells, hq, Nat.mod_one]
theorem rowK_made (w : World) (n : Nat) (t : TypeId) : RowK (w.alloc (.cells (madeCells #[.int .u8 0, .int .i64 0, .int .i64 0] (n * 3)) t)) w.heap.size n (fun _ => tk0) := by
  obtain ⟨wA, hA⟩ : ∃ wA, wA = w.alloc (.cells (madeCells #[.int .u8 0, .int .i64 0, .int .i64 0] (n * 3)) t) := ⟨_, rfl⟩
  rw [← hA]
  have h : wA.heap[w.heap.size]? = some (.cells (madeCells #[.int .u8 0, .int .i64 0, .int .i64 0] (n * 3)) t (0, 0)) := by rw [hA]; exact heap_alloc_new w _
  refine ⟨fun q hq => ⟨?_, ?_, ?_⟩, fun k => by simp [World.frozen?, h]⟩
  · simp [World.cell?, h, madeCells, show q * 3 < n * 3 by omega]
  · simp [World.cell?, h, madeCells, show q * 3 + 1 < n * 3 by omega, show (q * 3 + 1) % 3 = 1 by omega]
  · simp [World.cell?, h, madeCells, show q * 3 + 2 < n * 3 by omega, show (q * 3 + 2) % 3 = 2 by omega]
end Go.Proofs.Ytaipfcfmhdigfaa

namespace Go.Proofs.Ytaipfcfmhdigfaa
set_option linter.unusedVariables false

/-! Trees in a row of numbers: place p has its two sides at 2p and 2p + 1. -/
def IsT7 (A : Nat → Int) : Int → Bt7 → Prop
  | v, .nil => v = -1
  | v, .node p l r => v = (p : Int) ∧ IsT7 A (A (2 * p)) l ∧ IsT7 A (A (2 * p + 1)) r
def slot7 (t : Bt7) (k : Nat) : Prop := ∃ p, t.mem p ∧ (k = 2 * p ∨ k = 2 * p + 1)
theorem IsT7.congr {A A' : Nat → Int} : ∀ {t : Bt7} {v : Int}, IsT7 A v t → (∀ k, slot7 t k → A' k = A k) → IsT7 A' v t
  | .nil, v, h, _ => h
  | .node p l r, v, ⟨h1, h2, h3⟩, hc => by
    refine ⟨h1, ?_, ?_⟩
    · rw [hc (2 * p) ⟨p, .inl rfl, .inl rfl⟩]
      exact h2.congr (fun k ⟨q, a, b⟩ => hc k ⟨q, .inr (.inl a), b⟩)
    · rw [hc (2 * p + 1) ⟨p, .inl rfl, .inr rfl⟩]
      exact h3.congr (fun k ⟨q, a, b⟩ => hc k ⟨q, .inr (.inr a), b⟩)
def Bt7.Dj : Bt7 → Prop
  | .nil => True
  | .node p l r => (∀ q, l.mem q → ¬ r.mem q) ∧ ¬ l.mem p ∧ ¬ r.mem p ∧ l.Dj ∧ r.Dj
theorem spl7_dj {D : List Int} {at_ W : Nat} : ∀ {t : Bt7}, t.Dj → (spl7 D at_ W t).1.Dj ∧ (spl7 D at_ W t).2.Dj ∧ ∀ q, (spl7 D at_ W t).1.mem q → ¬ (spl7 D at_ W t).2.mem q
  | .nil, _ => by simp [spl7, Bt7.Dj, Bt7.mem]
  | .node p l r, ⟨h1, h2, h3, h4, h5⟩ => by
    rw [spl7]
    split
    · simp [Bt7.Dj, Bt7.mem]
    · split
      · exact ⟨h4, h5, h1⟩
      · split
        · obtain ⟨i1, i2, i3⟩ := spl7_dj (D := D) (at_ := at_) (W := W) h5
          refine ⟨⟨fun q a b => h1 q a (spl7_mem (.inl b)), h2, fun a => h3 (spl7_mem (.inl a)), h4, i1⟩, i2, ?_⟩
          rintro q (rfl | a | a) b
          · exact h3 (spl7_mem (.inr b))
          · exact h1 q a (spl7_mem (.inr b))
          · exact i3 q a b
        · obtain ⟨i1, i2, i3⟩ := spl7_dj (D := D) (at_ := at_) (W := W) h4
          refine ⟨i1, ⟨fun q a b => h1 q (spl7_mem (.inr a)) b, fun a => h2 (spl7_mem (.inr a)), h3, i2, h5⟩, ?_⟩
          rintro q a (rfl | b | b)
          · exact h2 (spl7_mem (.inl a))
          · exact i3 q a b
          · exact h1 q (spl7_mem (.inl a)) b
/-- The row behind the parting of a tree whose sides are hung at less and at more. -/
def Po7 (D : List Int) (at_ W : Nat) (A : Nat → Int) (t : Bt7) (less more : Nat) (A' : Nat → Int) : Prop :=
  (∀ k, k ≠ less → k ≠ more → ¬ slot7 t k → A' k = A k) ∧ IsT7 A' (A' less) (spl7 D at_ W t).1 ∧ IsT7 A' (A' more) (spl7 D at_ W t).2
structure Cn7 (t : Bt7) (less more : Nat) : Prop where
  ne : less ≠ more
  l : ¬ slot7 t less
  m : ¬ slot7 t more
theorem po7_none {D : List Int} {at_ W : Nat} {A : Nat → Int} {t : Bt7} {less more : Nat} (hc : Cn7 t less more) (hs : spl7 D at_ W t = (.nil, .nil)) : Po7 D at_ W A t less more (updI (updI A less (-1)) more (-1)) := by
  refine ⟨fun k h1 h2 _ => ?_, ?_, ?_⟩
  · unfold updI; rw [if_neg h2, if_neg h1]
  · rw [hs]
    show updI (updI A less (-1)) more (-1) less = -1
    unfold updI
    rw [if_neg hc.ne, if_pos rfl]
  · rw [hs]
    show updI (updI A less (-1)) more (-1) more = -1
    unfold updI
    rw [if_pos rfl]
theorem po7_full {D : List Int} {at_ W p : Nat} {A : Nat → Int} {l r : Bt7} {v : Int} {less more : Nat} (ht : IsT7 A v (.node p l r)) (hc : Cn7 (.node p l r) less more) (hw : ¬ W < at_ - p) (hn : al7 D p at_ = lim7 D at_) :
    Po7 D at_ W A (.node p l r) less more (updI (updI A less (A (2 * p))) more (A (2 * p + 1))) := by
  obtain ⟨_, h2, h3⟩ := ht
  have hs : spl7 D at_ W (.node p l r) = (l, r) := by rw [spl7, if_neg hw, if_pos hn]
  refine ⟨fun k h1 h2 _ => ?_, ?_, ?_⟩
  · unfold updI; rw [if_neg h2, if_neg h1]
  · rw [hs]
    have e : updI (updI A less (A (2 * p))) more (A (2 * p + 1)) less = A (2 * p) := by unfold updI; rw [if_neg hc.ne, if_pos rfl]
    rw [e]
    refine h2.congr (fun k ⟨q, a, b⟩ => ?_)
    unfold updI
    rw [if_neg (fun (e : k = more) => hc.m (e ▸ ⟨q, .inr (.inl a), b⟩)), if_neg (fun (e : k = less) => hc.l (e ▸ ⟨q, .inr (.inl a), b⟩))]
  · rw [hs]
    have e : updI (updI A less (A (2 * p))) more (A (2 * p + 1)) more = A (2 * p + 1) := by unfold updI; rw [if_pos rfl]
    rw [e]
    refine h3.congr (fun k ⟨q, a, b⟩ => ?_)
    unfold updI
    rw [if_neg (fun (e : k = more) => hc.m (e ▸ ⟨q, .inr (.inr a), b⟩)), if_neg (fun (e : k = less) => hc.l (e ▸ ⟨q, .inr (.inr a), b⟩))]
theorem po7_right {D : List Int} {at_ W p : Nat} {A : Nat → Int} {l r : Bt7} {v : Int} {less more : Nat} (ht : IsT7 A v (.node p l r)) (hd : (Bt7.node p l r).Dj) (hc : Cn7 (.node p l r) less more) (hw : ¬ W < at_ - p) (hn : ¬ al7 D p at_ = lim7 D at_) (hl : sf7 D p (al7 D p at_) < sf7 D at_ (al7 D p at_)) :
    IsT7 (updI A less (p : Int)) (A (2 * p + 1)) r ∧ Cn7 r (2 * p + 1) more ∧ updI A less (p : Int) (2 * p + 1) = A (2 * p + 1) ∧ ∀ A', Po7 D at_ W (updI A less (p : Int)) r (2 * p + 1) more A' → Po7 D at_ W A (.node p l r) less more A' := by
  obtain ⟨_, h2, h3⟩ := ht
  obtain ⟨d1, d2, d3, d4, d5⟩ := hd
  have hl1 : less ≠ 2 * p + 1 := fun e => hc.l ⟨p, .inl rfl, .inr e⟩
  have hl0 : less ≠ 2 * p := fun e => hc.l ⟨p, .inl rfl, .inl e⟩
  have hm1 : more ≠ 2 * p + 1 := fun e => hc.m ⟨p, .inl rfl, .inr e⟩
  have hm0 : more ≠ 2 * p := fun e => hc.m ⟨p, .inl rfl, .inl e⟩
  have hr : ∀ k, slot7 r k → slot7 (.node p l r) k := fun k ⟨q, a, b⟩ => ⟨q, .inr (.inr a), b⟩
  have hpr : ∀ j, (j = 2 * p ∨ j = 2 * p + 1) → ¬ slot7 r j := fun j hj ⟨q, a, b⟩ => by
    have : q = p := by omega
    exact d3 (this ▸ a)
  have hs : spl7 D at_ W (.node p l r) = (.node p l (spl7 D at_ W r).1, (spl7 D at_ W r).2) := by rw [spl7, if_neg hw, if_neg hn, if_pos hl]
  refine ⟨h3.congr (fun k hk => ?_), ⟨fun e => hm1 e.symm, hpr _ (.inr rfl), fun e => hc.m (hr _ e)⟩, ?_, fun A' ⟨q1, q2, q3⟩ => ?_⟩
  · unfold updI; rw [if_neg (fun (e : k = less) => hc.l (e ▸ hr k hk))]
  · unfold updI; rw [if_neg (Ne.symm hl1)]
  · refine ⟨fun k k1 k2 k3 => ?_, ?_, by rw [hs]; exact q3⟩
    · rw [q1 k (fun e => k3 ⟨p, .inl rfl, .inr e⟩) k2 (fun e => k3 (hr k e))]
      unfold updI; rw [if_neg k1]
    · rw [hs]
      have e1 : A' less = (p : Int) := by
        rw [q1 less hl1 hc.ne (fun e => hc.l (hr _ e))]
        unfold updI; rw [if_pos rfl]
      refine ⟨e1, ?_, q2⟩
      have e2 : ∀ k, (k = 2 * p ∨ slot7 l k) → A' k = A k := fun k hk => by
        have hk1 : k ≠ less ∧ k ≠ more ∧ k ≠ 2 * p + 1 ∧ ¬ slot7 r k := by
          rcases hk with rfl | ⟨q, a, b⟩
          · exact ⟨Ne.symm hl0, Ne.symm hm0, by omega, hpr _ (.inl rfl)⟩
          · refine ⟨fun (e : k = less) => hc.l (e ▸ ⟨q, .inr (.inl a), b⟩), fun (e : k = more) => hc.m (e ▸ ⟨q, .inr (.inl a), b⟩), fun e => ?_, fun ⟨q', a', b'⟩ => ?_⟩
            · have : q = p := by omega
              exact d2 (this ▸ a)
            · have : q' = q := by omega
              exact d1 q a (this ▸ a')
        rw [q1 k hk1.2.2.1 hk1.2.1 hk1.2.2.2]
        unfold updI; rw [if_neg hk1.1]
      rw [e2 (2 * p) (.inl rfl)]
      exact h2.congr (fun k hk => e2 k (.inr hk))
theorem po7_left {D : List Int} {at_ W p : Nat} {A : Nat → Int} {l r : Bt7} {v : Int} {less more : Nat} (ht : IsT7 A v (.node p l r)) (hd : (Bt7.node p l r).Dj) (hc : Cn7 (.node p l r) less more) (hw : ¬ W < at_ - p) (hn : ¬ al7 D p at_ = lim7 D at_) (hl : ¬ sf7 D p (al7 D p at_) < sf7 D at_ (al7 D p at_)) :
    IsT7 (updI A more (p : Int)) (A (2 * p)) l ∧ Cn7 l less (2 * p) ∧ updI A more (p : Int) (2 * p) = A (2 * p) ∧ ∀ A', Po7 D at_ W (updI A more (p : Int)) l less (2 * p) A' → Po7 D at_ W A (.node p l r) less more A' := by
  obtain ⟨_, h2, h3⟩ := ht
  obtain ⟨d1, d2, d3, d4, d5⟩ := hd
  have hl1 : less ≠ 2 * p + 1 := fun e => hc.l ⟨p, .inl rfl, .inr e⟩
  have hl0 : less ≠ 2 * p := fun e => hc.l ⟨p, .inl rfl, .inl e⟩
  have hm1 : more ≠ 2 * p + 1 := fun e => hc.m ⟨p, .inl rfl, .inr e⟩
  have hm0 : more ≠ 2 * p := fun e => hc.m ⟨p, .inl rfl, .inl e⟩
  have hr : ∀ k, slot7 l k → slot7 (.node p l r) k := fun k ⟨q, a, b⟩ => ⟨q, .inr (.inl a), b⟩
  have hpr : ∀ j, (j = 2 * p ∨ j = 2 * p + 1) → ¬ slot7 l j := fun j hj ⟨q, a, b⟩ => by
    have : q = p := by omega
    exact d2 (this ▸ a)
  have hs : spl7 D at_ W (.node p l r) = ((spl7 D at_ W l).1, .node p (spl7 D at_ W l).2 r) := by rw [spl7, if_neg hw, if_neg hn, if_neg hl]
  refine ⟨h2.congr (fun k hk => ?_), ⟨hl0, fun e => hc.l (hr _ e), hpr _ (.inl rfl)⟩, ?_, fun A' ⟨q1, q2, q3⟩ => ?_⟩
  · unfold updI; rw [if_neg (fun (e : k = more) => hc.m (e ▸ hr k hk))]
  · unfold updI; rw [if_neg (Ne.symm hm0)]
  · refine ⟨fun k k1 k2 k3 => ?_, by rw [hs]; exact q2, ?_⟩
    · rw [q1 k k1 (fun e => k3 ⟨p, .inl rfl, .inl e⟩) (fun e => k3 (hr k e))]
      unfold updI; rw [if_neg k2]
    · rw [hs]
      have e1 : A' more = (p : Int) := by
        rw [q1 more (Ne.symm hc.ne) hm0 (fun e => hc.m (hr _ e))]
        unfold updI; rw [if_pos rfl]
      refine ⟨e1, q3, ?_⟩
      have e2 : ∀ k, (k = 2 * p + 1 ∨ slot7 r k) → A' k = A k := fun k hk => by
        have hk1 : k ≠ less ∧ k ≠ more ∧ k ≠ 2 * p ∧ ¬ slot7 l k := by
          rcases hk with rfl | ⟨q, a, b⟩
          · exact ⟨Ne.symm hl1, Ne.symm hm1, by omega, hpr _ (.inr rfl)⟩
          · refine ⟨fun (e : k = less) => hc.l (e ▸ ⟨q, .inr (.inr a), b⟩), fun (e : k = more) => hc.m (e ▸ ⟨q, .inr (.inr a), b⟩), fun e => ?_, fun ⟨q', a', b'⟩ => ?_⟩
            · have : q = p := by omega
              exact d3 (this ▸ a)
            · have : q' = q := by omega
              exact d1 q (this ▸ a') a
        rw [q1 k hk1.1 hk1.2.2.1 hk1.2.2.2]
        unfold updI; rw [if_neg hk1.2.1]
      rw [e2 (2 * p + 1) (.inl rfl)]
      exact h3.congr (fun k hk => e2 k (.inr hk))
def ky7 (D : List Int) (x y z : Int) (q : Nat) : Prop := x = D.getD q 0 ∧ y = D.getD (q + 1) 0 ∧ z = D.getD (q + 2) 0
structure Tr7 (D : List Int) (W s : Nat) (A : Nat → Int) (x y z : Int) (t : Bt7) : Prop where
  is : IsT7 A (lst7 D s x y z) t
  ok : t.Ok D
  dj : t.Dj
  mem : ∀ q, t.mem q → q < s ∧ ky7 D x y z q
  cov : Cov7 D W s (ky7 D x y z) t
/-- All trees behind s places. -/
def Fo7 (D : List Int) (W s : Nat) (A : Nat → Int) : Prop := ∀ x y z, ∃ t, Tr7 D W s A x y z t
theorem fo7_start (D : List Int) (W : Nat) (A : Nat → Int) : Fo7 D W 0 A := fun x y z => ⟨.nil, rfl, trivial, trivial, fun q h => h.elim, fun q h => by omega⟩
theorem fo7_next {D : List Int} {W s : Nat} {A A' : Nat → Int} (h : Fo7 D W s A) (hs : s + 2 < D.length) {t : Bt7} (ht : Tr7 D W s A (D.getD s 0) (D.getD (s + 1) 0) (D.getD (s + 2) 0) t) (hp : Po7 D s W A t (2 * s) (2 * s + 1) A') : Fo7 D W (s + 1) A' := by
  obtain ⟨p1, p2, p3⟩ := hp
  intro x y z
  by_cases hk : ky7 D x y z s
  · obtain ⟨rfl, rfl, rfl⟩ := hk
    have hso := spl7_ok (D := D) (at_ := s) (W := W) (by omega) ht.ok (fun q hq => (ht.mem q hq).1)
    have hsd := spl7_dj (D := D) (at_ := s) (W := W) ht.dj
    refine ⟨.node s (spl7 D s W t).1 (spl7 D s W t).2, ⟨by rw [lst7, if_pos ⟨rfl, rfl, rfl⟩], p2, p3⟩, ⟨fun q hq => ⟨(ht.mem q (spl7_mem (.inl hq))).1, hso.2.2.1 q hq⟩, fun q hq => ⟨(ht.mem q (spl7_mem (.inr hq))).1, hso.2.2.2 q hq⟩, hso.1, hso.2.1⟩, ⟨hsd.2.2, fun e => by have := (ht.mem s (spl7_mem (.inl e))).1; omega, fun e => by have := (ht.mem s (spl7_mem (.inr e))).1; omega, hsd.1, hsd.2.1⟩, ?_, ht.cov.plant ht.ok (fun q hq => (ht.mem q hq).1)⟩
    rintro q (rfl | hq | hq)
    · exact ⟨by omega, rfl, rfl, rfl⟩
    · have := ht.mem q (spl7_mem (.inl hq)); exact ⟨by omega, this.2⟩
    · have := ht.mem q (spl7_mem (.inr hq)); exact ⟨by omega, this.2⟩
  · obtain ⟨u, hu⟩ := h x y z
    refine ⟨u, ?_, hu.ok, hu.dj, fun q hq => ⟨by have := (hu.mem q hq).1; omega, (hu.mem q hq).2⟩, hu.cov.late hk⟩
    rw [lst7, if_neg (show ¬ (x = D.getD s 0 ∧ y = D.getD (s + 1) 0 ∧ z = D.getD (s + 2) 0) from hk)]
    refine hu.is.congr (fun k ⟨q, a, b⟩ => p1 k ?_ ?_ ?_)
    · have := (hu.mem q a).1; omega
    · have := (hu.mem q a).1; omega
    · rintro ⟨q', a', b'⟩
      have e : q' = q := by omega
      subst e
      obtain ⟨_, h1, h2, h3⟩ := ht.mem q' a'
      obtain ⟨_, g1, g2, g3⟩ := hu.mem q' a
      exact hk ⟨by rw [g1, h1], by rw [g2, h2], by rw [g3, h3]⟩
theorem tr7_rec {D : List Int} {W s : Nat} {A : Nat → Int} {t : Bt7} (hs : s + 2 < D.length) (ht : Tr7 D W s A (D.getD s 0) (D.getD (s + 1) 0) (D.getD (s + 2) 0) t) : vis7 D s W t 2 = rec7 D s W := by
  refine ht.cov.rec (by omega) ht.ok (fun q hq => (ht.mem q hq).1) (fun q hq h3 => ?_)
  obtain ⟨_, a1, a2, a3⟩ := al7_three.1 h3
  exact ⟨a1.symm, a2.symm, a3.symm⟩
theorem rec7_short {D : List Int} {W s : Nat} (hs : s ≤ D.length) (h : D.length - s < 3) : rec7 D s W = [] := by
  refine rcg7_none (fun e _ _ _ => ?_)
  have := al7_fits (D := D) (q := s - e) hs
  omega
/-- What is known of the places in a tree while at is brought down. -/
def Sw7 (D : List Int) (at_ : Nat) (t : Bt7) (n1 n2 : Nat) : Prop := ∀ q, t.mem q → le7 D at_ q n1 ∧ le7 D q at_ n2
theorem le7_anti {D : List Int} {x q L : Nat} (h1 : le7 D x q L) (h2 : le7 D q x L) : ∀ i, i < L → sf7 D x i = sf7 D q i := by
  rcases h1 with h1 | ⟨n, a1, a2, a3⟩
  · exact h1
  · rcases h2 with h2 | ⟨m, b1, b2, b3⟩
    · exact fun i hi => (h2 i hi).symm
    · exfalso
      by_cases e : n < m
      · have := b2 n e; omega
      · by_cases e2 : n = m
        · subst e2; omega
        · have := a2 m (by omega); omega
theorem sw7_known {D : List Int} {at_ : Nat} {t : Bt7} {n1 n2 : Nat} (h : Sw7 D at_ t n1 n2) (hat : at_ ≤ D.length) (hl : min n1 n2 ≤ lim7 D at_) {q : Nat} (hq : t.mem q) : min n1 n2 ≤ al7 D q at_ := by
  obtain ⟨h1, h2⟩ := h q hq
  exact al7_ge hl hat (fun i hi => (le7_anti (le7_mono h1 (Nat.min_le_left _ _)) (le7_mono h2 (Nat.min_le_right _ _)) i hi).symm)
theorem sw7_start {D : List Int} {W s : Nat} {A : Nat → Int} {t : Bt7} (ht : Tr7 D W s A (D.getD s 0) (D.getD (s + 1) 0) (D.getD (s + 2) 0) t) : Sw7 D s t 3 3 := by
  intro q hq
  obtain ⟨_, h1, h2, h3⟩ := ht.mem q hq
  have he : ∀ i, i < 3 → sf7 D s i = sf7 D q i := fun i hi => by
    obtain rfl | rfl | rfl : i = 0 ∨ i = 1 ∨ i = 2 := by omega
    · exact h1
    · exact h2
    · exact h3
  exact ⟨.inl he, .inl (fun i hi => (he i hi).symm)⟩
theorem sw7_right {D : List Int} {at_ p : Nat} {l r : Bt7} {n1 n2 : Nat} (h : Sw7 D at_ (.node p l r) n1 n2) (hk : (Bt7.node p l r).Ok D) (hat : at_ ≤ D.length) (hp : p < at_) : Sw7 D at_ r (al7 D p at_) n2 := by
  intro q hq
  have hlm := lim7_mono (D := D) (Nat.le_of_lt hp)
  have hal := al7_lim (D := D) (q := p) hat
  exact ⟨le7_eq_left (le7_mono (hk.2.1 q hq).2 (by omega)) (fun i hi => al7_sf hi), (h q (.inr (.inr hq))).2⟩
theorem sw7_left {D : List Int} {at_ p : Nat} {l r : Bt7} {n1 n2 : Nat} (h : Sw7 D at_ (.node p l r) n1 n2) (hk : (Bt7.node p l r).Ok D) (hat : at_ ≤ D.length) (hp : p < at_) : Sw7 D at_ l n1 (al7 D p at_) := by
  intro q hq
  have hlm := lim7_mono (D := D) (Nat.le_of_lt hp)
  have hal := al7_lim (D := D) (q := p) hat
  exact ⟨(h q (.inr (.inl hq))).1, le7_eq_right (le7_mono (hk.1 q hq).2 (by omega)) (fun i hi => al7_sf hi)⟩
end Go.Proofs.Ytaipfcfmhdigfaa
