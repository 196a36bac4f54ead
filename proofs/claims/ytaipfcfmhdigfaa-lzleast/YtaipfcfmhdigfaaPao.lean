import Derived.Test.YtaipfcfmhdigfaaPag
import Derived.Deep.OwnRows
import Derived.Test.YtaipfcfmhdigfaaPan
namespace Go.Proofs.Ytaipfcfmhdigfaa
open Go.RowKit
set_option linter.unusedVariables false
set_option linter.unusedSimpArgs false

/-! The document's bits and nearest. -/
set_option maxRecDepth 100000 in
set_option maxHeartbeats 1000000 in
theorem rbits7 (D : Nat) (hD : D < 4611686018427387904) (w : World) : Calls Try.prog 43 #[.int .i64 (D : Int)] w fun e w' => e = .returned (.int .i64 (bits7 D : Int)) ∧ w' = w := by
  have hk := bits7_le 62 D (by simpa using hD)
  have HK : Hid (bits7 D ≤ 62) := hk
  clear hk
  go_enter Try.func43, Try.ntmps43
  go_wp2_with fail
  go_loopw [0, 3] (fun td tn wr => ∃ d i : Nat, d ≤ D ∧ td = .int .i64 (d : Int) ∧ tn = .int .i64 (i : Int) ∧ Hid (bits7 D = i + bits7 d) ∧ wr = w) (fun td _ _ => (intOf td).toNat)
  case atStart => exact ⟨D, 0, by omega, rfl, rfl, (show _ = _ by omega), rfl⟩
  case round =>
    obtain ⟨d, i, hd, rfl, rfl, HB, hwr⟩ := hrel
    subst hwr
    by_cases h0 : 0 < d
    · have h0i : (0 : Int) < (d : Int) := by omega
      have HB2 : Hid (bits7 D = (i + 1) + bits7 (d / 2)) := by show _ = _; rw [HB.out, bits7_pos h0]; omega
      obtain ⟨d2, hd2⟩ : ∃ d2, d2 = d / 2 := ⟨_, rfl⟩
      rw [← hd2] at HB2
      have hq : (d : Int).tdiv 2 = (d2 : Int) := by rw [Int.tdiv_eq_ediv_of_nonneg (by omega)]; omega
      have hi : i ≤ 62 := by have := HB.out; have := HK.out; omega
      have hw2 : IntKind.i64.wrap (d2 : Int) = (d2 : Int) := IntWalk.i64_in _ (by omega)
      have hdl : d2 < d := by omega
      have HD2 : Hid ((d : Int) / 2 = (d2 : Int)) := by show _ = _; omega
      clear HB
      go_wp2_with fail
      go_roundw
      case rel => exact ⟨d2, i + 1, by omega, by rw [HD2.out], by go_num, HB2, trivial⟩
      case measure => simp [intOf]; omega
    · obtain rfl : d = 0 := by omega
      have HE : Hid (bits7 D = i) := by show _ = _; rw [HB.out, bits7_zero]; omega
      clear HB
      go_wp2_with fail
      go_ret
      exact ⟨by rw [HE.out]; rfl, rfl⟩
set_option maxRecDepth 100000 in
set_option maxHeartbeats 2000000 in
theorem rnear7 (D : List Int) (a : Option Addr) (n cap p l W : Nat) (hn : Hid (D.length = n)) (w : World) (hs : Seg w a D) (hp : p < n) (hl : n ≤ 1152921504606846976) (hW2 : W ≤ 32768) (hl2 : l ≤ 258) :
    Calls Try.prog 42 #[.slice a n cap, .int .i64 (p : Int), .int .i64 (l : Int), .int .i64 (W : Int)] w fun e w' => e = .returned (.int .i64 (nst7 D p l W : Int)) ∧ Below w.heap.size w w' := by
  have HS : Hid (Seg w a D) := hs
  clear hs
  go_enter Try.func42, Try.ntmps42
  go_wp2_with fail
  go_loopw [9] (fun td wr => ∃ d : Nat, 1 ≤ d ∧ d ≤ p + 1 ∧ td = .int .i64 (d : Int) ∧ Hid (nst7 D p l W = nrg7 D p l W (p + 1 - d) d) ∧ Below w.heap.size w wr) (fun td _ => p + 1 - (intOf td).toNat)
  case atStart => exact ⟨1, by omega, by omega, rfl, (show _ = _ by unfold nst7; simp), Below.refl _ _⟩
  case round =>
    obtain ⟨d, hd1, hdp, rfl, HB, BR⟩ := hrel
    by_cases hc : d ≤ W ∧ d ≤ p
    · have hc1 : (d : Int) ≤ (W : Int) := by omega
      have hc2 : (d : Int) ≤ (p : Int) := by omega
      obtain ⟨q, hq⟩ : ∃ q, q = p - d := ⟨_, rfl⟩
      have hwq : IntKind.i64.wrap ((p : Int) - (d : Int)) = (q : Int) := by rw [IntWalk.i64_in _ (by omega)]; omega
      have HU : Hid (nrg7 D p l W (p + 1 - d) d = if l ≤ al7 D q p then d else nrg7 D p l W (p + 1 - (d + 1)) (d + 1)) := by
        show _ = _
        rw [show p + 1 - d = p + 1 - (d + 1) + 1 by omega, nrg7, if_pos hc, ← hq]
      have sr : Seg wr a D := (show Seg w a D from HS.out).below BR (show Seg w a D from HS.out).lt
      have CA := ralike7 D a n cap q p hn wr sr (by omega) (by omega) hl
      have hqp : q ≤ p := by omega
      clear hq sr
      generalize al7 D q p = al at *
      go_wp2_with fail
      refine CA.mono ?_
      rintro e w2 ⟨rfl, b2⟩
      have B2 : Below w.heap.size w w2 := BR.trans (b2.mono BR.size)
      by_cases hal : l ≤ al
      · have hali : (l : Int) ≤ (al : Int) := by omega
        have HE : Hid (nst7 D p l W = d) := by show _ = _; rw [HB.out, HU.out, if_pos hal]
        clear HB HU
        go_wp2_with fail
        go_ret
        exact ⟨by rw [HE.out]; rfl, B2⟩
      · have hali : ¬ (l : Int) ≤ (al : Int) := by omega
        have HE : Hid (nst7 D p l W = nrg7 D p l W (p + 1 - (d + 1)) (d + 1)) := by show _ = _; rw [HB.out, HU.out, if_neg hal]
        clear HB HU
        go_wp2_with fail
        go_roundw
        case rel => exact ⟨d + 1, by omega, by omega, by go_num, HE, B2⟩
        case measure => simp [intOf]; omega
    · have HE : Hid (nst7 D p l W = 0) := by
        show _ = _
        rw [HB.out]
        by_cases h0 : p + 1 - d = 0
        · rw [h0, nrg7]
        · rw [show p + 1 - d = p + 1 - (d + 1) + 1 by omega, nrg7, if_neg hc]
      clear HB
      by_cases hc1 : (d : Int) ≤ (W : Int)
      · have hc2 : ¬ (d : Int) ≤ (p : Int) := by omega
        go_wp2_with fail
        go_ret
        exact ⟨by rw [HE.out]; rfl, BR⟩
      · go_wp2_with fail
        go_ret
        exact ⟨by rw [HE.out]; rfl, BR⟩
/-! Rows of ints and of tokens that are written place by place. -/
structure RowI (w : World) (g n : Nat) (A : Nat → Int) : Prop where
  at_ : ∀ q, q < n → w.cell? ⟨g, q, none⟩ = some (.int .i64 (A q))
  fr : ∀ k, w.frozen? ⟨g, k, none⟩ = false
structure RowK (w : World) (g n : Nat) (F : Nat → Tok7) : Prop where
  at_ : ∀ q, q < n → TkAt w g (q * 3) (F q)
  fr : ∀ k, w.frozen? ⟨g, k, none⟩ = false
theorem frozen_block {w w' : World} {g : Nat} (h : w'.heap[g]? = w.heap[g]?) (k : Nat) : w'.frozen? ⟨g, k, none⟩ = w.frozen? ⟨g, k, none⟩ := by simp only [World.frozen?, h]
theorem RowI.of_block {w w' : World} {g n : Nat} {A : Nat → Int} (h : RowI w g n A) (hb : w'.heap[g]? = w.heap[g]?) : RowI w' g n A :=
  ⟨fun q hq => (World.cell?_of_block (a := ⟨g, q, none⟩) hb).trans (h.at_ q hq), fun k => (frozen_block hb k).trans (h.fr k)⟩
theorem RowK.of_block {w w' : World} {g n : Nat} {F : Nat → Tok7} (h : RowK w g n F) (hb : w'.heap[g]? = w.heap[g]?) : RowK w' g n F :=
  ⟨fun q hq => (h.at_ q hq).of_block hb, fun k => (frozen_block hb k).trans (h.fr k)⟩
def updI (A : Nat → Int) (i : Nat) (x : Int) : Nat → Int := fun k => if k = i then x else A k
def updK (F : Nat → Tok7) (i : Nat) (x : Tok7) : Nat → Tok7 := fun k => if k = i then x else F k
theorem sc_same7 {w : World} {g o : Nat} {v : Value} {u : Value} (h : w.cell? ⟨g, o, none⟩ = some u) : (w.setCell ⟨g, o, none⟩ v).cell? ⟨g, o, none⟩ = some v := World.cell?_setCell_same _ _ _ h
theorem sc_other7 {w : World} {g o p : Nat} {v : Value} (h : o ≠ p) : (w.setCell ⟨g, o, none⟩ v).cell? ⟨g, p, none⟩ = w.cell? ⟨g, p, none⟩ := World.cell?_setCell_other _ _ _ _ (by intro e; cases e; exact h rfl)
theorem RowI.set {w : World} {g n i : Nat} {A : Nat → Int} (h : RowI w g n A) (hi : i < n) (x : Int) : RowI (w.setCell ⟨g, i, none⟩ (.int .i64 x)) g n (updI A i x) := by
  refine ⟨fun q hq => ?_, fun k => by rw [World.frozen?_setCell]; exact h.fr k⟩
  unfold updI
  by_cases e : q = i
  · subst e; rw [if_pos rfl]; exact sc_same7 (h.at_ q hq)
  · rw [if_neg e, sc_other7 (Ne.symm e)]; exact h.at_ q hq
/-- Three cells set. -/
def setTk (w : World) (g o : Nat) (x : Tok7) : World := ((w.setCell ⟨g, o, none⟩ (.int .u8 x.lit)).setCell ⟨g, o + 1, none⟩ (.int .i64 x.len)).setCell ⟨g, o + 2, none⟩ (.int .i64 x.dist)
theorem RowK.set {w : World} {g n i : Nat} {F : Nat → Tok7} (h : RowK w g n F) (hi : i < n) (x : Tok7) : RowK (setTk w g (i * 3) x) g n (updK F i x) := by
  refine ⟨fun q hq => ?_, fun k => by unfold setTk; rw [World.frozen?_setCell, World.frozen?_setCell, World.frozen?_setCell]; exact h.fr k⟩
  unfold updK setTk
  by_cases e : q = i
  · subst e
    rw [if_pos rfl]
    have t := h.at_ q hq
    refine ⟨?_, ?_, ?_⟩
    · rw [sc_other7 (by omega), sc_other7 (by omega)]; exact sc_same7 t.c0
    · rw [sc_other7 (by omega)]; exact sc_same7 (by rw [sc_other7 (by omega)]; exact t.c1)
    · exact sc_same7 (by rw [sc_other7 (by omega), sc_other7 (by omega)]; exact t.c2)
  · rw [if_neg e]
    have t := h.at_ q hq
    refine ⟨?_, ?_, ?_⟩
    · rw [sc_other7 (by omega), sc_other7 (by omega), sc_other7 (by omega)]; exact t.c0
    · rw [sc_other7 (by omega), sc_other7 (by omega), sc_other7 (by omega)]; exact t.c1
    · rw [sc_other7 (by omega), sc_other7 (by omega), sc_other7 (by omega)]; exact t.c2
theorem rowI_made (w : World) (n : Nat) (t : TypeId) : RowI (w.alloc (.cells (madeCells #[.int .i64 0] n) t)) w.heap.size n (fun _ => 0) := by
  obtain ⟨wA, hA⟩ : ∃ wA, wA = w.alloc (.cells (madeCells #[.int .i64 0] n) t) := ⟨_, rfl⟩
  rw [← hA]
  have h : wA.heap[w.heap.size]? = some (.cells (madeCells #[.int .i64 0] n) t (0, 0)) := by rw [hA]; exact heap_alloc_new w _
  refine ⟨fun q hq => ?_, fun k => by simp [World.frozen?, h]⟩
  simp [World.cell?, h, madeCells, hq, Nat.mod_one]
theorem rowK_made (w : World) (n : Nat) (t : TypeId) : RowK (w.alloc (.cells (madeCells #[.int .u8 0, .int .i64 0, .int .i64 0] (n * 3)) t)) w.heap.size n (fun _ => tk0) := by
  obtain ⟨wA, hA⟩ : ∃ wA, wA = w.alloc (.cells (madeCells #[.int .u8 0, .int .i64 0, .int .i64 0] (n * 3)) t) := ⟨_, rfl⟩
  rw [← hA]
  have h : wA.heap[w.heap.size]? = some (.cells (madeCells #[.int .u8 0, .int .i64 0, .int .i64 0] (n * 3)) t (0, 0)) := by rw [hA]; exact heap_alloc_new w _
  refine ⟨fun q hq => ⟨?_, ?_, ?_⟩, fun k => by simp [World.frozen?, h]⟩
  · simp [World.cell?, h, madeCells, show q * 3 < n * 3 by omega]
  · simp [World.cell?, h, madeCells, show q * 3 + 1 < n * 3 by omega, show (q * 3 + 1) % 3 = 1 by omega]
  · simp [World.cell?, h, madeCells, show q * 3 + 2 < n * 3 by omega, show (q * 3 + 2) % 3 = 2 by omega]
end Go.Proofs.Ytaipfcfmhdigfaa

namespace Go.Proofs.Ytaipfcfmhdigfaa
open Go.RowKit
set_option linter.unusedVariables false
set_option linter.unusedSimpArgs false

/-! The document's Cheapest: refusals; what the table holds. -/
def price7 (c : Pr7) : Value := .agg #[.int .i64 c.lit, .int .i64 c.mat, .int .i64 c.far]
def badP (c : Pr7) : Prop := c.lit < 0 ∨ 1048576 < c.lit ∨ c.mat < 0 ∨ 1048576 < c.mat ∨ c.far < 0 ∨ 1048576 < c.far
set_option maxRecDepth 100000 in
theorem rchea7_no (a : Option Addr) (n cap : Nat) (win chain : Int) (lazy : Bool) (c : Pr7) (w : World) (ho : opt7 win chain ≠ 0) :
    Calls Try.prog 32 #[.slice a n cap, look7 win chain lazy, price7 c] w fun e w' => e = .returned (.tuple #[.slice none 0 0, .int .i64 0, .int .i64 72]) ∧ Below w.heap.size w w' := by
  obtain ⟨lt, mt, fr⟩ := c
  unfold price7
  simp only
  obtain ⟨wA, hwA⟩ : ∃ wA, wA = w.alloc (.cells #[.int .i64 win, .int .i64 chain, .bool lazy] 44) := ⟨_, rfl⟩
  obtain ⟨wB, hwB⟩ : ∃ wB, wB = wA.alloc (.cells #[.int .i64 lt, .int .i64 mt, .int .i64 fr] 64) := ⟨_, rfl⟩
  have bA : Below w.heap.size w wA := by rw [hwA]; exact below_box _ _
  have bB : Below wA.heap.size wA wB := by rw [hwB]; exact below_box _ _
  have BB : Below w.heap.size w wB := bA.trans (bB.mono bA.size)
  have HWA : Hid (wA = w.alloc (.cells #[.int .i64 win, .int .i64 chain, .bool lazy] 44)) := hwA
  have HWB : Hid (wB = wA.alloc (.cells #[.int .i64 lt, .int .i64 mt, .int .i64 fr] 64)) := hwB
  have CO := ropt7 win chain lazy wB
  rw [opt7_no ho] at CO
  have lk := (boxL hwA).of_block (bB.block w.heap.size (boxL hwA).lt)
  obtain ⟨l0, l1, l2⟩ := lk
  clear hwA hwB ho
  unfold look7 at CO ⊢
  go_enter Try.func32, Try.ntmps32
  go_wp2_with fail
  rw [← HWA.out, ← HWB.out]
  refine CO.mono ?_
  rintro e w1 ⟨rfl, b1⟩
  go_wp2_with fail
  refine bodyPost_ret (results_tmp3 rfl _ _ _) rfl ?_
  exact ⟨rfl, BB.trans (b1.mono BB.size)⟩
set_option maxRecDepth 100000 in
set_option maxHeartbeats 4000000 in
theorem rchea7_bad (a : Option Addr) (n cap : Nat) (win chain : Int) (lazy : Bool) (c : Pr7) (w : World) (ho : opt7 win chain = 0) (hb : badP c) :
    Calls Try.prog 32 #[.slice a n cap, look7 win chain lazy, price7 c] w fun e w' => e = .returned (.tuple #[.slice none 0 0, .int .i64 0, .int .i64 72]) ∧ Below w.heap.size w w' := by
  obtain ⟨lt, mt, fr⟩ := c
  unfold badP at hb
  unfold price7
  simp only at hb ⊢
  obtain ⟨wA, hwA⟩ : ∃ wA, wA = w.alloc (.cells #[.int .i64 win, .int .i64 chain, .bool lazy] 44) := ⟨_, rfl⟩
  obtain ⟨wB, hwB⟩ : ∃ wB, wB = wA.alloc (.cells #[.int .i64 lt, .int .i64 mt, .int .i64 fr] 64) := ⟨_, rfl⟩
  have bA : Below w.heap.size w wA := by rw [hwA]; exact below_box _ _
  have bB : Below wA.heap.size wA wB := by rw [hwB]; exact below_box _ _
  have BB : Below w.heap.size w wB := bA.trans (bB.mono bA.size)
  have HWA : Hid (wA = w.alloc (.cells #[.int .i64 win, .int .i64 chain, .bool lazy] 44)) := hwA
  have HWB : Hid (wB = wA.alloc (.cells #[.int .i64 lt, .int .i64 mt, .int .i64 fr] 64)) := hwB
  have CO := ropt7 win chain lazy wB
  rw [ho] at CO
  have hB : wB.heap[wA.heap.size]? = some (.cells #[.int .i64 lt, .int .i64 mt, .int .i64 fr] 64 (0, 0)) := by rw [hwB]; exact heap_alloc_new wA _
  have p0 : wB.cell? ⟨wA.heap.size, 0, none⟩ = some (.int .i64 lt) := by simp [World.cell?, hB]
  have p1 : wB.cell? ⟨wA.heap.size, 1, none⟩ = some (.int .i64 mt) := by simp [World.cell?, hB]
  have p2 : wB.cell? ⟨wA.heap.size, 2, none⟩ = some (.int .i64 fr) := by simp [World.cell?, hB]
  have hpl := World.block_lt_of_cell? wB _ p0
  have HPC : Hid (∀ W, Below wB.heap.size wB W → W.cell? ⟨wA.heap.size, 0, none⟩ = some (.int .i64 lt) ∧ W.cell? ⟨wA.heap.size, 1, none⟩ = some (.int .i64 mt) ∧ W.cell? ⟨wA.heap.size, 2, none⟩ = some (.int .i64 fr)) := fun W hW => ⟨(hW.cell (p := ⟨wA.heap.size, 0, none⟩) hpl).trans p0, (hW.cell (p := ⟨wA.heap.size, 1, none⟩) hpl).trans p1, (hW.cell (p := ⟨wA.heap.size, 2, none⟩) hpl).trans p2⟩
  obtain ⟨zb, hzb⟩ : ∃ zb, zb = wA.heap.size := ⟨_, rfl⟩
  have HZB : Hid (w.heap.size + 1 = zb) := by show _ = _; rw [hzb, hwA]; simp
  rw [← hzb] at HPC
  clear hwA hwB ho hB p0 p1 p2 hpl hzb
  unfold look7 at CO ⊢
  have hcase : lt < 0 ∨ (¬ lt < 0 ∧ 1048576 < lt) ∨ (¬ lt < 0 ∧ ¬ 1048576 < lt ∧ mt < 0) ∨ (¬ lt < 0 ∧ ¬ 1048576 < lt ∧ ¬ mt < 0 ∧ 1048576 < mt) ∨ (¬ lt < 0 ∧ ¬ 1048576 < lt ∧ ¬ mt < 0 ∧ ¬ 1048576 < mt ∧ fr < 0) ∨ (¬ lt < 0 ∧ ¬ 1048576 < lt ∧ ¬ mt < 0 ∧ ¬ 1048576 < mt ∧ ¬ fr < 0 ∧ 1048576 < fr) := by omega
  clear hb
  rcases hcase with h | ⟨h, h'⟩ | ⟨h, h', h2⟩ | ⟨h, h', h2, h3⟩ | ⟨h, h', h2, h3, h4⟩ | ⟨h, h', h2, h3, h4, h5⟩
  all_goals
    go_enter Try.func32, Try.ntmps32
    go_wp2_with fail
    rw [HZB.out, ← HWA.out, ← HWB.out]
    refine CO.mono ?_
    rintro e w1 ⟨rfl, b1⟩
    obtain ⟨q0, q1, q2⟩ := HPC.out w1 b1
    go_wp2_with fail
    refine bodyPost_ret (results_tmp3 rfl _ _ _) rfl ?_
    exact ⟨rfl, BB.trans (b1.mono BB.size)⟩
/-! What the table comes to. -/
theorem lea7_le (D : List Int) (win : Nat) (c : Pr7) (hf : 0 ≤ c.far) (p : Nat) (hp : p ≤ D.length) : (lea7 D win c p).1 ≤ c.lit * ((D.length - p : Nat) : Int) := by
  obtain ⟨h1, h2⟩ := lits7_tz D win c (D.length - p) p (by omega)
  have := lea7_least (c := c) hf _ _ h1
  rw [h2] at this
  exact this
theorem outg7_fuel (D : List Int) (W : Nat) (c : Pr7) : ∀ f g p, p ≤ D.length → D.length ≤ p + f → D.length ≤ p + g → outg7 D W c f p = outg7 D W c g p
  | 0, 0, p, _, _, _ => rfl
  | 0, g + 1, p, _, h, _ => by rw [outg7, outg7, if_neg (by omega)]
  | f + 1, 0, p, _, _, h => by rw [outg7, outg7, if_neg (by omega)]
  | f + 1, g + 1, p, h0, h1, h2 => by
    rw [outg7, outg7]
    by_cases hp : p < D.length
    · rw [if_pos hp, if_pos hp]
      rcases (lea7_spec D W c p hp).2.2 with e | ⟨l, a1, a2, a3, a4, e⟩
      · rw [e]
        simp only [if_true]
        rw [outg7_fuel D W c f g (p + 1) (by omega) (by omega) (by omega)]
      · rw [e]
        simp only
        rw [if_neg (by omega), Int.toNat_natCast, outg7_fuel D W c f g (p + l) (by omega) (by omega) (by omega)]
    · rw [if_neg hp, if_neg hp]
/-- The next token, and how wide it is. -/
theorem outg7_step {D : List Int} {W : Nat} {c : Pr7} {p : Nat} (hp : p < D.length) : ∃ k : Nat, 1 ≤ k ∧ p + k ≤ D.length ∧ (((lea7 D W c p).2.len = 0 ∧ k = 1) ∨ ((lea7 D W c p).2.len = (k : Int) ∧ 3 ≤ k)) ∧ outg7 D W c (D.length - p) p = (lea7 D W c p).2 :: outg7 D W c (D.length - (p + k)) (p + k) := by
  rw [show D.length - p = D.length - (p + 1) + 1 by omega, outg7, if_pos hp]
  rcases (lea7_spec D W c p hp).2.2 with e | ⟨l, a1, a2, a3, a4, e⟩
  · refine ⟨1, by omega, by omega, .inl ⟨by rw [e], rfl⟩, ?_⟩
    rw [e]
    simp only [if_true]
  · refine ⟨l, by omega, a3, .inr ⟨by rw [e], a1⟩, ?_⟩
    rw [e]
    simp only
    rw [if_neg (by omega), Int.toNat_natCast, outg7_fuel D W c _ (D.length - (p + l)) (p + l) a3 (by omega) (by omega)]
end Go.Proofs.Ytaipfcfmhdigfaa

namespace Go.Proofs.Ytaipfcfmhdigfaa
open Go.RowKit
set_option linter.unusedVariables false
set_option linter.unusedSimpArgs false

/-! What tokens cost, as the law reckons it. -/
def tc7 (c : Pr7) (t : Tok7) : Int := if t.len = 0 then c.lit else mc7 c t.dist.toNat
theorem cost7_app (c : Pr7) : ∀ (l : List Tok7) (t : Tok7), cost7 c (l ++ [t]) = cost7 c l + tc7 c t
  | [], t => by simp [cost7, tc7]
  | x :: r, t => by rw [List.cons_append, cost7, cost7, cost7_app c r t]; omega
def GoodT (t : Tok7) : Prop := 0 ≤ t.len ∧ 0 ≤ t.dist ∧ t.dist ≤ 32768
def GoodP (c : Pr7) : Prop := (0 ≤ c.lit ∧ c.lit ≤ 1048576) ∧ (0 ≤ c.mat ∧ c.mat ≤ 1048576) ∧ (0 ≤ c.far ∧ c.far ≤ 1048576)
theorem mul_bd7 {f b : Int} (h1 : 0 ≤ f) (h2 : f ≤ 1048576) (h3 : 0 ≤ b) (h4 : b ≤ 16) : 0 ≤ f * b ∧ f * b ≤ 16777216 := by
  refine ⟨Int.mul_nonneg h1 h3, ?_⟩
  have : f * b ≤ 1048576 * 16 := Int.mul_le_mul h2 h4 h3 (by omega)
  omega
theorem bits_bd7 {d : Nat} (h : d ≤ 32768) : bits7 d ≤ 16 := bits7_le 16 d (by omega)
set_option maxRecDepth 100000 in
set_option maxHeartbeats 4000000 in
theorem costs7 (l : List Tok7) (a : Option Addr) (n cap : Nat) (c : Pr7) (hn : Hid (l.length = n)) (w : World) (hs : SegT w a l) (hl : n ≤ 1073741824) (hg : ∀ t ∈ l, GoodT t) (hc : GoodP c) :
    Calls Try.prog 33 #[.slice a n cap, price7 c] w fun e w' => e = .returned (.int .i64 (cost7 c l)) ∧ Below w.heap.size w w' := by
  obtain ⟨wA, hwA⟩ : ∃ wA, wA = w.alloc (.cells #[.int .i64 c.lit, .int .i64 c.mat, .int .i64 c.far] 64) := ⟨_, rfl⟩
  have bA : Below w.heap.size w wA := by rw [hwA]; exact below_box _ _
  have hB : wA.heap[w.heap.size]? = some (.cells #[.int .i64 c.lit, .int .i64 c.mat, .int .i64 c.far] 64 (0, 0)) := by rw [hwA]; exact heap_alloc_new w _
  have p0 : wA.cell? ⟨w.heap.size, 0, none⟩ = some (.int .i64 c.lit) := by simp [World.cell?, hB]
  have p1 : wA.cell? ⟨w.heap.size, 1, none⟩ = some (.int .i64 c.mat) := by simp [World.cell?, hB]
  have p2 : wA.cell? ⟨w.heap.size, 2, none⟩ = some (.int .i64 c.far) := by simp [World.cell?, hB]
  have hpl := World.block_lt_of_cell? wA _ p0
  have HWA : Hid (wA = w.alloc (.cells #[.int .i64 c.lit, .int .i64 c.mat, .int .i64 c.far] 64)) := hwA
  obtain ⟨zb, hzb⟩ : ∃ zb, zb = w.heap.size := ⟨_, rfl⟩
  have HZB : Hid (zb = w.heap.size) := hzb
  rw [← hzb] at p0 p1 p2 hpl
  have HPC : Hid (∀ W', Below wA.heap.size wA W' → W'.cell? ⟨zb, 0, none⟩ = some (.int .i64 c.lit) ∧ W'.cell? ⟨zb, 1, none⟩ = some (.int .i64 c.mat) ∧ W'.cell? ⟨zb, 2, none⟩ = some (.int .i64 c.far)) := fun W' hW => ⟨(hW.cell (p := ⟨zb, 0, none⟩) hpl).trans p0, (hW.cell (p := ⟨zb, 1, none⟩) hpl).trans p1, (hW.cell (p := ⟨zb, 2, none⟩) hpl).trans p2⟩
  have HS : Hid (SegT wA a l) := hs.old bA
  obtain ⟨⟨f1, f2⟩, ⟨f3, f4⟩, ⟨f5, f6⟩⟩ := hc
  have HG : Hid (∀ t ∈ l, GoodT t) := hg
  have HC0 : Hid (∀ i, i < n → cost7 c (l.take (i + 1)) = cost7 c (l.take i) + tc7 c (l.getD i tk0)) := fun i hi => by rw [takeT (by rw [hn.out]; exact hi), cost7_app]
  have HTC : Hid (∀ t, t.len = 0 → tc7 c t = c.lit) := fun t h => by unfold tc7; rw [if_pos h]
  have HTM : Hid (∀ t, ¬ t.len = 0 → tc7 c t = c.mat + c.far * (bits7 t.dist.toNat : Int)) := fun t h => by unfold tc7 mc7; rw [if_neg h]
  clear hwA hB p0 p1 p2 hpl hzb hs hg
  obtain ⟨lt, mt, fr⟩ := c
  unfold price7
  simp only at HWA HPC HTC HTM f1 f2 f3 f4 f5 f6
  go_enter Try.func33, Try.ntmps33
  go_wp2_with fail
  rw [← HWA.out, ← HZB.out]
  go_loopw [5, 11] (fun tn ti wr => ∃ (i : Nat) (x : Int), i ≤ n ∧ 0 ≤ x ∧ x ≤ (i : Int) * 17825792 ∧ ti = .int .i64 (i : Int) ∧ tn = .int .i64 x ∧ Hid (x = cost7 ⟨lt, mt, fr⟩ (l.take i)) ∧ Below wA.heap.size wA wr) (fun _ ti _ => n - (intOf ti).toNat)
  case atStart => exact ⟨0, 0, by omega, by omega, by omega, rfl, rfl, (show _ = _ by simp [cost7]), Below.refl _ _⟩
  case round =>
    obtain ⟨i, x, hi0, hx0, hx1, rfl, rfl, HX, BR⟩ := hrel
    by_cases hin : i < n
    · have hii : (i : Int) < (n : Int) := by omega
      have hil : i < l.length := by rw [hn.out]; exact hin
      obtain ⟨b, off, rfl, hT⟩ := ((show SegT wA a l from HS.out).old BR).at_ i hil
      have hg := HG.out _ (getD_memT hil)
      have HX2 : Hid (cost7 ⟨lt, mt, fr⟩ (l.take (i + 1)) = x + tc7 ⟨lt, mt, fr⟩ (l.getD i tk0)) := by show _ = _; rw [HC0.out i hin, HX.out]
      generalize l.getD i tk0 = t at *
      obtain ⟨wB, hwB⟩ : ∃ wB, wB = wr.alloc (.cells #[.int .u8 t.lit, .int .i64 t.len, .int .i64 t.dist] 56) := ⟨_, rfl⟩
      have bB : Below wr.heap.size wr wB := by rw [hwB]; exact below_box _ _
      have tB : TkAt wB wr.heap.size 0 t := by
        have h : wB.heap[wr.heap.size]? = some (.cells #[.int .u8 t.lit, .int .i64 t.len, .int .i64 t.dist] 56 (0, 0)) := by rw [hwB]; exact heap_alloc_new wr _
        refine ⟨?_, ?_, ?_⟩ <;> simp [World.cell?, h]
      have HWB : Hid (wB = wr.alloc (.cells #[.int .u8 t.lit, .int .i64 t.len, .int .i64 t.dist] 56)) := hwB
      have BB : Below wA.heap.size wA wB := BR.trans (bB.mono BR.size)
      obtain ⟨r0, r1, r2⟩ := HPC.out wr BR
      obtain ⟨q0, q1, q2⟩ := HPC.out wB BB
      obtain ⟨ob, hob⟩ : ∃ ob, ob = wr.heap.size := ⟨_, rfl⟩
      have HOB : Hid (ob = wr.heap.size) := hob
      rw [← hob] at tB
      obtain ⟨a0, a1, a2⟩ := tB
      obtain ⟨h0, h1, h2⟩ := hT
      clear hwB hob
      obtain ⟨z, ln, ds⟩ := t
      simp only at h0 h1 h2 a0 a1 a2 HWB
      have k0 := q0
      have k1 := q1
      rw [HWB.out] at k0 k1
      by_cases hz : ln = 0
      · have HX3 : Hid (x + lt = cost7 ⟨lt, mt, fr⟩ (l.take (i + 1))) := by show _ = _; rw [HX2.out, HTC.out _ hz]
        subst hz
        have hwx : IntKind.i64.wrap (x + lt) = x + lt := IntWalk.i64_in _ (by omega)
        go_wp2_with fail
        rw [← HWB.out]
        go_roundw
        case rel => exact ⟨i + 1, x + lt, by omega, by omega, by omega, by go_num, rfl, HX3, BB⟩
        case measure => simp [intOf]; omega
      · obtain ⟨D, hD⟩ := Int.eq_ofNat_of_zero_le hg.2.1
        simp only at hD
        subst hD
        have hD2 : D ≤ 32768 := by have := hg.2.2; simp only at this; omega
        have HX3 : Hid (cost7 ⟨lt, mt, fr⟩ (l.take (i + 1)) = x + (mt + fr * (bits7 D : Int))) := by show _ = _; rw [HX2.out, HTM.out _ hz]; rfl
        have hbD := bits_bd7 hD2
        have hmD := mul_bd7 f5 f6 (show (0 : Int) ≤ (bits7 D : Int) by omega) (by omega)
        have hwm : IntKind.i64.wrap (x + mt) = x + mt := IntWalk.i64_in _ (by omega)
        clear HX2
        go_wp2_with fail
        rw [← HWB.out, ← HOB.out]
        go_loopw [5, 8] (fun tn td wq => ∃ (d : Nat) (y : Int), d ≤ D ∧ td = .int .i64 (d : Int) ∧ tn = .int .i64 y ∧ Hid (y + fr * (bits7 d : Int) = x + mt + fr * (bits7 D : Int)) ∧ wq = wB) (fun _ td _ => (intOf td).toNat)
        case atStart => exact ⟨D, x + mt, by omega, rfl, rfl, (show _ = _ from rfl), rfl⟩
        case round =>
          obtain ⟨d, y, hd, rfl, rfl, HY, hwq⟩ := hrel
          subst hwq
          have hbd := bits_bd7 (show d ≤ 32768 by omega)
          have hmd := mul_bd7 f5 f6 (show (0 : Int) ≤ (bits7 d : Int) by omega) (by omega)
          have hy1 : -17825792 ≤ y := by have := HY.out; omega
          have hy2 : y ≤ x + 17825792 := by have := HY.out; omega
          by_cases hd0 : 0 < d
          · have hd0i : (0 : Int) < (d : Int) := by omega
            obtain ⟨d2, hd2⟩ : ∃ d2, d2 = d / 2 := ⟨_, rfl⟩
            have HY2 : Hid (y + fr + fr * (bits7 d2 : Int) = x + mt + fr * (bits7 D : Int)) := by
              have h9 := HY.out
              rw [bits7_pos hd0, ← hd2, Int.natCast_succ, Int.mul_add, Int.mul_one] at h9
              show _ = _
              omega
            have hq : (d : Int).tdiv 2 = (d2 : Int) := by rw [Int.tdiv_eq_ediv_of_nonneg (by omega)]; omega
            have hw2 : IntKind.i64.wrap (d2 : Int) = (d2 : Int) := IntWalk.i64_in _ (by omega)
            have hwy : IntKind.i64.wrap (y + fr) = y + fr := IntWalk.i64_in _ (by omega)
            have HD2 : Hid ((d : Int) / 2 = (d2 : Int)) := by show _ = _; omega
            have hdl : d2 < d := by omega
            clear HY hd2
            go_wp2_with fail
            go_roundw
            case rel => exact ⟨d2, y + fr, by omega, by first | rfl | rw [HD2.out], by first | rfl | trivial, HY2, by first | rfl | trivial⟩
            case measure => simp [intOf]; omega
          · obtain rfl : d = 0 := by omega
            have HE : Hid (y = cost7 ⟨lt, mt, fr⟩ (l.take (i + 1))) := by
              have h9 := HY.out
              rw [bits7_zero] at h9
              show _ = _
              rw [HX3.out]
              omega
            have hy3 : 0 ≤ y := by have := HE.out; have := HX3.out; omega
            clear HY
            go_wp2_with fail
            go_roundw
            case rel => exact ⟨i + 1, y, by omega, hy3, by omega, by go_num, rfl, HE, BB⟩
            case measure => simp [intOf]; omega
    · have hge : ¬ (i : Int) < (n : Int) := by omega
      have HE : Hid (x = cost7 ⟨lt, mt, fr⟩ l) := by show _ = _; rw [HX.out, List.take_of_length_le (by rw [hn.out]; omega)]
      clear HX
      go_wp2_with fail
      go_ret
      exact ⟨by rw [← HE.out]; rfl, bA.trans (BR.mono bA.size)⟩
end Go.Proofs.Ytaipfcfmhdigfaa
