import Derived.Test.YtaipfcfmhdigfaaPar
import Derived.Test.YtaipfcfmhdigfaaPaf
import Derived.Test.YtaipfcfmhdigfaaPaq
import Derived.Lib.BitFns
namespace Go.Proofs.Ytaipfcfmhdigfaa
open Go.RowKit
set_option linter.unusedVariables false
set_option linter.unusedSimpArgs false

/-! The document's Cheapest: refusals; what the table holds. -/
def price7 (c : Pr7) : Value := .agg #[.int .i64 c.lit, .int .i64 c.mat, .int .i64 c.far]
def badP (c : Pr7) : Prop := c.lit < 0 ∨ 1048576 < c.lit ∨ c.mat < 0 ∨ 1048576 < c.mat ∨ c.far < 0 ∨ 1048576 < c.far
set_option maxRecDepth 100000 in
theorem rchea7_no (a : Option Addr) (n cap : Nat) (win chain : Int) (lazy : Bool) (c : Pr7) (w : World) (ho : opt7 win chain ≠ 0) :
    Calls Try.prog 32 #[.slice a n cap, look7 win chain lazy, price7 c] w fun e w' => e = .returned (.tuple #[.slice none 0 0, .int .i64 0, .int .i64 72]) ∧ Below w.heap.size w w' := by
  obtain ⟨lt, mt, fr⟩ := c
  unfold price7
  simp only
  obtain ⟨wA, hwA⟩ : ∃ wA, wA = w.alloc (.cells #[.int .i64 win, .int .i64 chain, .bool lazy] 44) := ⟨_, rfl⟩
  obtain ⟨wB, hwB⟩ : ∃ wB, wB = wA.alloc (.cells #[.int .i64 lt, .int .i64 mt, .int .i64 fr] 64) := ⟨_, rfl⟩
  have bA : Below w.heap.size w wA := by rw [hwA]; exact below_box _ _
  have bB : Below wA.heap.size wA wB := by rw [hwB]; exact below_box _ _
  have BB : Below w.heap.size w wB := bA.trans (bB.mono bA.size)
  have HWA : Hid (wA = w.alloc (.cells #[.int .i64 win, .int .i64 chain, .bool lazy] 44)) := hwA
  have HWB : Hid (wB = wA.alloc (.cells #[.int .i64 lt, .int .i64 mt, .int .i64 fr] 64)) := hwB
  have CO := ropt7 win chain lazy wB
  rw [opt7_no ho] at CO
  have lk := (boxL hwA).of_block (bB.block w.heap.size (boxL hwA).lt)
  obtain ⟨l0, l1, l2⟩ := lk
  clear hwA hwB ho
  unfold look7 at CO ⊢
  go_enter Try.func32, Try.ntmps32
  go_wp2_with fail
  rw [← HWA.out, ← HWB.out]
  refine CO.mono ?_
  rintro e w1 ⟨rfl, b1⟩
  go_wp2_with fail
  refine bodyPost_ret (results_tmp3 rfl _ _ _) rfl ?_
  exact ⟨rfl, BB.trans (b1.mono BB.size)⟩
set_option maxRecDepth 100000 in
set_option maxHeartbeats 4000000 in
theorem rchea7_bad (a : Option Addr) (n cap : Nat) (win chain : Int) (lazy : Bool) (c : Pr7) (w : World) (ho : opt7 win chain = 0) (hb : badP c) :
    Calls Try.prog 32 #[.slice a n cap, look7 win chain lazy, price7 c] w fun e w' => e = .returned (.tuple #[.slice none 0 0, .int .i64 0, .int .i64 72]) ∧ Below w.heap.size w w' := by
  obtain ⟨lt, mt, fr⟩ := c
  unfold badP at hb
  unfold price7
  simp only at hb ⊢
  obtain ⟨wA, hwA⟩ : ∃ wA, wA = w.alloc (.cells #[.int .i64 win, .int .i64 chain, .bool lazy] 44) := ⟨_, rfl⟩
  obtain ⟨wB, hwB⟩ : ∃ wB, wB = wA.alloc (.cells #[.int .i64 lt, .int .i64 mt, .int .i64 fr] 64) := ⟨_, rfl⟩
  have bA : Below w.heap.size w wA := by rw [hwA]; exact below_box _ _
  have bB : Below wA.heap.size wA wB := by rw [hwB]; exact below_box _ _
  have BB : Below w.heap.size w wB := bA.trans (bB.mono bA.size)
  have HWA : Hid (wA = w.alloc (.cells #[.int .i64 win, .int .i64 chain, .bool lazy] 44)) := hwA
  have HWB : Hid (wB = wA.alloc (.cells #[.int .i64 lt, .int .i64 mt, .int .i64 fr] 64)) := hwB
  have CO := ropt7 win chain lazy wB
  rw [ho] at CO
  have hB : wB.heap[wA.heap.size]? = some (.cells #[.int .i64 lt, .int .i64 mt, .int .i64 fr] 64 (0, 0)) := by rw [hwB]; exact heap_alloc_new wA _
  have p0 : wB.cell? ⟨wA.heap.size, 0, none⟩ = some (.int .i64 lt) := by simp [World.cell?, hB]
  have p1 : wB.cell? ⟨wA.heap.size, 1, none⟩ = some (.int .i64 mt) := by simp [World.cell?, hB]
  have p2 : wB.cell? ⟨wA.heap.size, 2, none⟩ = some (.int .i64 fr) := by simp [World.cell?, hB]
  have hpl := World.block_lt_of_cell? wB _ p0
  have HPC : Hid (∀ W, Below wB.heap.size wB W → W.cell? ⟨wA.heap.size, 0, none⟩ = some (.int .i64 lt) ∧ W.cell? ⟨wA.heap.size, 1, none⟩ = some (.int .i64 mt) ∧ W.cell? ⟨wA.heap.size, 2, none⟩ = some (.int .i64 fr)) := fun W hW => ⟨(hW.cell (p := ⟨wA.heap.size, 0, none⟩) hpl).trans p0, (hW.cell (p := ⟨wA.heap.size, 1, none⟩) hpl).trans p1, (hW.cell (p := ⟨wA.heap.size, 2, none⟩) hpl).trans p2⟩
  obtain ⟨zb, hzb⟩ : ∃ zb, zb = wA.heap.size := ⟨_, rfl⟩
  have HZB : Hid (w.heap.size + 1 = zb) := by show _ = _; rw [hzb, hwA]; simp
  rw [← hzb] at HPC
  clear hwA hwB ho hB p0 p1 p2 hpl hzb
  unfold look7 at CO ⊢
  have hcase : lt < 0 ∨ (¬ lt < 0 ∧ 1048576 < lt) ∨ (¬ lt < 0 ∧ ¬ 1048576 < lt ∧ mt < 0) ∨ (¬ lt < 0 ∧ ¬ 1048576 < lt ∧ ¬ mt < 0 ∧ 1048576 < mt) ∨ (¬ lt < 0 ∧ ¬ 1048576 < lt ∧ ¬ mt < 0 ∧ ¬ 1048576 < mt ∧ fr < 0) ∨ (¬ lt < 0 ∧ ¬ 1048576 < lt ∧ ¬ mt < 0 ∧ ¬ 1048576 < mt ∧ ¬ fr < 0 ∧ 1048576 < fr) := by omega
  clear hb
  rcases hcase with h | ⟨h, h'⟩ | ⟨h, h', h2⟩ | ⟨h, h', h2, h3⟩ | ⟨h, h', h2, h3, h4⟩ | ⟨h, h', h2, h3, h4, h5⟩
  all_goals
    go_enter Try.func32, Try.ntmps32
    go_wp2_with fail
    rw [HZB.out, ← HWA.out, ← HWB.out]
    refine CO.mono ?_
    rintro e w1 ⟨rfl, b1⟩
    obtain ⟨q0, q1, q2⟩ := HPC.out w1 b1
    go_wp2_with fail
    refine bodyPost_ret (results_tmp3 rfl _ _ _) rfl ?_
    exact ⟨rfl, BB.trans (b1.mono BB.size)⟩
/-! What the table comes to. -/
theorem lea7_le (D : List Int) (win : Nat) (c : Pr7) (hf : 0 ≤ c.far) (p : Nat) (hp : p ≤ D.length) : (lea7 D win c p).1 ≤ c.lit * ((D.length - p : Nat) : Int) := by
  obtain ⟨h1, h2⟩ := lits7_tz D win c (D.length - p) p (by omega)
  have := lea7_least (c := c) hf _ _ h1
  rw [h2] at this
  exact this
theorem outg7_fuel (D : List Int) (W : Nat) (c : Pr7) : ∀ f g p, p ≤ D.length → D.length ≤ p + f → D.length ≤ p + g → outg7 D W c f p = outg7 D W c g p
  | 0, 0, p, _, _, _ => rfl
  | 0, g + 1, p, _, h, _ => by rw [outg7, outg7, if_neg (by omega)]
  | f + 1, 0, p, _, _, h => by rw [outg7, outg7, if_neg (by omega)]
  | f + 1, g + 1, p, h0, h1, h2 => by
    rw [outg7, outg7]
    by_cases hp : p < D.length
    · rw [if_pos hp, if_pos hp]
      rcases (lea7_spec D W c p hp).2.2 with e | ⟨l, a1, a2, a3, a4, e⟩
      · rw [e]
        simp only [if_true]
        rw [outg7_fuel D W c f g (p + 1) (by omega) (by omega) (by omega)]
      · rw [e]
        simp only
        rw [if_neg (by omega), Int.toNat_natCast, outg7_fuel D W c f g (p + l) (by omega) (by omega) (by omega)]
    · rw [if_neg hp, if_neg hp]
/-- The next token, and how wide it is. -/
theorem outg7_step {D : List Int} {W : Nat} {c : Pr7} {p : Nat} (hp : p < D.length) : ∃ k : Nat, 1 ≤ k ∧ p + k ≤ D.length ∧ (((lea7 D W c p).2.len = 0 ∧ k = 1) ∨ ((lea7 D W c p).2.len = (k : Int) ∧ 3 ≤ k)) ∧ outg7 D W c (D.length - p) p = (lea7 D W c p).2 :: outg7 D W c (D.length - (p + k)) (p + k) := by
  rw [show D.length - p = D.length - (p + 1) + 1 by omega, outg7, if_pos hp]
  rcases (lea7_spec D W c p hp).2.2 with e | ⟨l, a1, a2, a3, a4, e⟩
  · refine ⟨1, by omega, by omega, .inl ⟨by rw [e], rfl⟩, ?_⟩
    rw [e]
    simp only [if_true]
  · refine ⟨l, by omega, a3, .inr ⟨by rw [e], a1⟩, ?_⟩
    rw [e]
    simp only
    rw [if_neg (by omega), Int.toNat_natCast, outg7_fuel D W c _ (D.length - (p + l)) (p + l) a3 (by omega) (by omega)]
end Go.Proofs.Ytaipfcfmhdigfaa

namespace Go.Proofs.Ytaipfcfmhdigfaa
open Go.RowKit
set_option linter.unusedVariables false

/-! What Cheapest answers, in one form for the program and the document. -/
instance (c : Pr7) : Decidable (badP c) := by unfold badP; infer_instance
def cheap7 (D : List Int) (win chain : Int) (c : Pr7) : List Tok7 := if opt7 win chain = 0 ∧ ¬ badP c then che7 D win.toNat c else []
def cheapV7 (D : List Int) (win chain : Int) (c : Pr7) : Int := if opt7 win chain = 0 ∧ ¬ badP c then (lea7 D win.toNat c 0).1 else 0
def cheapE7 (win chain : Int) (c : Pr7) : Int := if opt7 win chain = 0 ∧ ¬ badP c then 0 else 72
def CheP (w : World) (ty : TypeId) (T : List Tok7) (v er : Int) (e : Ending) (w' : World) : Prop := ∃ oa oc, e = .returned (.tuple #[.slice oa T.length oc, .int .i64 v, .int .i64 er]) ∧ w'.ownsRow w.heap.size ty 3 (.slice oa T.length oc) T.length (flatT T) ∧ Below w.heap.size w w'
theorem tz7_fit {D : List Int} {win : Nat} (hD : ∀ z ∈ D, 0 ≤ z ∧ z ≤ 255) (hw : win ≤ 32768) : ∀ (l : List Tok7) (p : Nat), Tz7 D win l p → ∀ t ∈ l, t.Fit ∧ 0 ≤ t.len ∧ 0 ≤ t.dist ∧ t.dist ≤ 32768
  | [], _, _, t, h => by simp at h
  | x :: r, p, ⟨hp, h⟩, t, ht => by
    rcases h with ⟨rfl, h⟩ | ⟨n, d, rfl, hm, h⟩
    · rcases List.mem_cons.1 ht with rfl | ht
      · have := getD_bd7 hD p
        exact ⟨⟨this, by simp, by simp⟩, by simp, by simp, by simp⟩
      · exact tz7_fit hD hw r _ h t ht
    · rcases List.mem_cons.1 ht with rfl | ht
      · have h1 := hm.n258
        have h2 := hm.dw
        exact ⟨⟨by simp, by simp only; omega, by simp only; omega⟩, by simp only; omega, by simp only; omega, by simp only; omega⟩
      · exact tz7_fit hD hw r _ h t ht
theorem cheap7_all {D : List Int} {win chain : Int} {c : Pr7} (hD : ∀ z ∈ D, 0 ≤ z ∧ z ≤ 255) (h : opt7 win chain = 0) (hb : ¬ badP c) :
    check7 win (cheap7 D win chain c) = (0, 0) ∧ xpd7 win (cheap7 D win chain c) = D ∧ cost7 c (cheap7 D win chain c) = cheapV7 D win chain c ∧ (cheap7 D win chain c).length ≤ D.length ∧ cheapE7 win chain c = 0 ∧ (∀ t ∈ cheap7 D win chain c, t.Fit ∧ 0 ≤ t.len ∧ 0 ≤ t.dist ∧ t.dist ≤ 32768) ∧ cheapV7 D win chain c ≤ c.lit * (D.length : Int) ∧
    ∀ chain' lazy, opt7 win chain' = 0 → cheapV7 D win chain c ≤ cost7 c (parse7 D win chain' lazy) ∧ ∀ t ∈ parse7 D win chain' lazy, t.Fit ∧ 0 ≤ t.len ∧ 0 ≤ t.dist ∧ t.dist ≤ 32768 := by
  obtain ⟨h1, h2, h3, h4⟩ := opt7_ok h
  obtain ⟨W, rfl⟩ := Int.eq_ofNat_of_zero_le (show 0 ≤ win by omega)
  have e1 : cheap7 D W chain c = che7 D W c := by unfold cheap7; rw [if_pos ⟨h, hb⟩]; rfl
  have e2 : cheapV7 D W chain c = (lea7 D W c 0).1 := by unfold cheapV7; rw [if_pos ⟨h, hb⟩]; rfl
  have e3 : cheapE7 W chain c = 0 := by unfold cheapE7; rw [if_pos ⟨h, hb⟩]
  obtain ⟨t1, t2⟩ := che7_tz D W c
  obtain ⟨a1, a2, a3, a4⟩ := Tz7.all (by omega) _ _ t1
  have hf : 0 ≤ c.far := by unfold badP at hb; omega
  have hc : check7 W (che7 D W c) = (0, 0) := by
    unfold check7
    rw [if_neg (by omega)]
    exact chk7_ok _ _ _ _ a1
  rw [e1, e2, e3]
  refine ⟨hc, ?_, t2, by simpa using a4, rfl, tz7_fit hD (by omega) _ _ t1, lea7_lits D W c hf, fun chain' lazy ho => ?_⟩
  · unfold xpd7
    rw [hc, if_pos rfl]
    simpa using a2
  · have e4 : parse7 D W chain' lazy = par7 D W chain'.toNat lazy := by unfold parse7; rw [if_pos ho]; rfl
    rw [e4]
    have tz := par7_tz D W chain'.toNat lazy
    exact ⟨lea7_least hf _ _ tz, tz7_fit hD (by omega) _ _ tz⟩
end Go.Proofs.Ytaipfcfmhdigfaa

namespace Go.Proofs.Ytaipfcfmhdigfaa
open Go.RowKit
set_option linter.unusedVariables false

theorem tab_size7 : (Lib.len8tab.size : Int) = 256 := by rw [Lib.len8tab_size]; rfl
theorem len_end7 (k a : Nat) (y : Int) (h : y.toNat < Lib.len8tab.size) (h0 : 0 ≤ y) (h1 : y ≤ 255) (hk : k ≤ 56) (ha : a = k + Lib.bitLen y.toNat) : wrap64 ((k : Int) + wrap64 ((Lib.len8tab[y.toNat]'h).toNat : Int)) = (a : Int) := by
  have e : ((Lib.len8tab[y.toNat]'h).toNat : Int) = Lib.len8 y := by
    unfold Lib.len8
    rw [getElem?_pos Lib.len8tab y.toNat h]
    rfl
  have l := Lib.bitLen_le8' y h0 h1
  rw [e, Lib.len8_of y h0 h1, ha]
  unfold wrap64
  omega
theorem len_end07 (a : Nat) (y : Int) (h : y.toNat < Lib.len8tab.size) (h0 : 0 ≤ y) (h1 : y ≤ 255) (ha : a = Lib.bitLen y.toNat) : wrap64 (wrap64 ((Lib.len8tab[y.toNat]'h).toNat : Int)) = (a : Int) := by
  have := len_end7 0 a y h h0 h1 (by omega) (by omega)
  simpa using this
theorem shift_to7 (x : Int) (d k : Nat) (h0 : 0 ≤ x) (h : Lib.bitLen x.toNat = k + Lib.bitLen (x.toNat / d)) (y : Int) (hy : y.toNat = x.toNat / d) : Lib.bitLen x.toNat = k + Lib.bitLen y.toNat := by rw [hy]; exact h
set_option maxHeartbeats 1000000 in
set_option maxRecDepth 100000 in
theorem len16_any (x : Int) (w : World) (h0 : 0 ≤ x) (h1 : x ≤ 65535) :
    Calls Try.prog 53 #[.int .u16 x] w fun e w' => e = .returned (.int .i64 (Lib.bitLen x.toNat)) ∧ w' = w := by
  have hsz := tab_size7
  go_enter Try.func53, Try.ntmps53
  go_wp2
  all_goals (go_ret; refine ⟨congrArg Ending.returned (congrArg (Value.int IntKind.i64) ?_), rfl⟩)
  · exact len_end7 8 _ _ _ (by omega) (by omega) (by omega) (shift_to7 x 256 8 h0 (Lib.bitLen_shift8 _ (by omega) (by omega)) _ (by omega))
  · exact len_end07 _ _ _ (by omega) (by omega) (by congr 1)
theorem bitLen7 : ∀ (f x : Nat), x < 2 ^ f → Lib.bitLenAux f x = bits7 x
  | 0, x, h => by
    have : x = 0 := by simpa using h
    subst this
    rw [bits7_zero]; rfl
  | f + 1, x, h => by
    rw [Lib.bitLenAux]
    by_cases h0 : x = 0
    · rw [if_pos h0, h0, bits7_zero]
    · rw [if_neg h0, bits7_pos (by omega), bitLen7 f (x / 2) (by rw [Nat.pow_succ] at h; omega)]
      omega
theorem plen16 (d : Nat) (w : World) (h : d ≤ 65535) : Calls Try.prog 53 #[.int .u16 (d : Int)] w fun e w' => e = .returned (.int .i64 (bits7 d : Int)) ∧ w' = w := by
  have := len16_any (d : Int) w (by omega) (by omega)
  rw [Int.toNat_natCast] at this
  have e : Lib.bitLen d = bits7 d := bitLen7 64 d (by omega)
  rw [e] at this
  exact this
set_option maxRecDepth 100000 in
set_option maxHeartbeats 4000000 in
theorem pprice7 (c : Pr7) (w : World) : Calls Try.prog 40 #[price7 c] w fun e w' => e = .returned (.bool (decide (¬ badP c))) ∧ Below w.heap.size w w' := by
  obtain ⟨lt, mt, fr⟩ := c
  unfold price7
  simp only
  obtain ⟨wA, hwA⟩ : ∃ wA, wA = w.alloc (.cells #[.int .i64 lt, .int .i64 mt, .int .i64 fr] 67) := ⟨_, rfl⟩
  have bA : Below w.heap.size w wA := by rw [hwA]; exact below_box _ _
  obtain ⟨wB, hwB⟩ : ∃ wB, wB = wA.alloc (.cells #[.int .i64 lt, .int .i64 mt, .int .i64 fr] 3) := ⟨_, rfl⟩
  have bB : Below w.heap.size w wB := by rw [hwB]; exact bA.alloc bA.size _
  have hB : wB.heap[wA.heap.size]? = some (.cells #[.int .i64 lt, .int .i64 mt, .int .i64 fr] 3 (0, 0)) := by rw [hwB]; exact heap_alloc_new wA _
  obtain ⟨zb, hzb⟩ : ∃ zb, zb = wA.heap.size := ⟨_, rfl⟩
  have HZB : Hid (w.heap.size + 1 = zb) := by show _ = _; rw [hzb, hwA]; simp
  have HWA : Hid (wA = w.alloc (.cells #[.int .i64 lt, .int .i64 mt, .int .i64 fr] 67)) := hwA
  have HWB : Hid (wB = wA.alloc (.cells #[.int .i64 lt, .int .i64 mt, .int .i64 fr] 3)) := hwB
  rw [← hzb] at hB
  have p0 : wB.cell? ⟨zb, 0, none⟩ = some (.int .i64 lt) := three_cell0 hB
  have p1 : wB.cell? ⟨zb, 1, none⟩ = some (.int .i64 mt) := three_cell1 hB
  have p2 : wB.cell? ⟨zb, 2, none⟩ = some (.int .i64 fr) := three_cell2 hB
  have HG : Hid (badP ⟨lt, mt, fr⟩ ↔ (lt < 0 ∨ 1048576 < lt ∨ mt < 0 ∨ 1048576 < mt ∨ fr < 0 ∨ 1048576 < fr)) := Iff.rfl
  obtain ⟨pb, hpb⟩ : ∃ pb, pb = decide (¬ badP ⟨lt, mt, fr⟩) := ⟨_, rfl⟩
  have HPB : Hid (decide (¬ badP ⟨lt, mt, fr⟩) = pb) := hpb.symm
  rw [← hpb]
  clear hwA hwB hzb hB hpb
  go_enter Try.func40, Try.ntmps40
  go_wp2_with fail
  rw [← HWA.out, HZB.out, ← HWB.out]
  go_loopw [13] (fun ti wr => ∃ i : Nat, i ≤ 3 ∧ ti = .int .i64 (i : Int) ∧ wr = wB ∧ (0 < i → 0 ≤ lt ∧ lt ≤ 1048576) ∧ (1 < i → 0 ≤ mt ∧ mt ≤ 1048576) ∧ (2 < i → 0 ≤ fr ∧ fr ≤ 1048576)) (fun ti _ => 3 - (intOf ti).toNat)
  case atStart => exact ⟨0, by omega, rfl, rfl, by omega, by omega, by omega⟩
  case round =>
    obtain ⟨i, hi, rfl, hwr, h1, h2, h3⟩ := hrel
    subst hwr
    have hk : ∀ k, k < 3 → i = k → wr.cell? ⟨zb, k, none⟩ = wr.cell? ⟨zb, i, none⟩ := fun k _ e => by rw [e]
    obtain rfl | rfl | rfl | rfl : i = 0 ∨ i = 1 ∨ i = 2 ∨ i = 3 := by omega
    · clear hk h1 h2 h3
      by_cases g1 : lt < 0
      · have HE : Hid (pb = false) := HPB.out.symm.trans (decide_eq_false (fun e => e (HG.out.2 (by omega))))
        go_wp2_with fail
        go_ret
        exact ⟨by rw [HE.out]; rfl, bB⟩
      · by_cases g2 : 1048576 < lt
        · have HE : Hid (pb = false) := HPB.out.symm.trans (decide_eq_false (fun e => e (HG.out.2 (by omega))))
          go_wp2_with fail
          go_ret
          exact ⟨by rw [HE.out]; rfl, bB⟩
        · go_wp2_with fail
          go_roundw
          case rel => exact ⟨1, by omega, rfl, trivial, by omega, by omega, by omega⟩
          case measure => simp [intOf]
    · clear hk h2 h3
      by_cases g1 : mt < 0
      · have HE : Hid (pb = false) := HPB.out.symm.trans (decide_eq_false (fun e => e (HG.out.2 (by omega))))
        clear h1
        go_wp2_with fail
        go_ret
        exact ⟨by rw [HE.out]; rfl, bB⟩
      · by_cases g2 : 1048576 < mt
        · have HE : Hid (pb = false) := HPB.out.symm.trans (decide_eq_false (fun e => e (HG.out.2 (by omega))))
          clear h1
          go_wp2_with fail
          go_ret
          exact ⟨by rw [HE.out]; rfl, bB⟩
        · have H1 : Hid (0 ≤ lt ∧ lt ≤ 1048576) := h1 (by omega)
          clear h1
          go_wp2_with fail
          go_roundw
          case rel => exact ⟨2, by omega, rfl, trivial, fun _ => H1.out, by omega, by omega⟩
          case measure => simp [intOf]
    · clear hk h3
      by_cases g1 : fr < 0
      · have HE : Hid (pb = false) := HPB.out.symm.trans (decide_eq_false (fun e => e (HG.out.2 (by omega))))
        clear h1 h2
        go_wp2_with fail
        go_ret
        exact ⟨by rw [HE.out]; rfl, bB⟩
      · by_cases g2 : 1048576 < fr
        · have HE : Hid (pb = false) := HPB.out.symm.trans (decide_eq_false (fun e => e (HG.out.2 (by omega))))
          clear h1 h2
          go_wp2_with fail
          go_ret
          exact ⟨by rw [HE.out]; rfl, bB⟩
        · have H1 : Hid (0 ≤ lt ∧ lt ≤ 1048576) := h1 (by omega)
          have H2 : Hid (0 ≤ mt ∧ mt ≤ 1048576) := h2 (by omega)
          clear h1 h2
          go_wp2_with fail
          go_roundw
          case rel => exact ⟨3, by omega, rfl, trivial, fun _ => H1.out, fun _ => H2.out, by omega⟩
          case measure => simp [intOf]
    · have HE : Hid (pb = true) := HPB.out.symm.trans (decide_eq_true (fun e => by have := HG.out.1 e; have := h1 (by omega); have := h2 (by omega); have := h3 (by omega); omega))
      clear hk h1 h2 h3
      go_wp2_with fail
      go_ret
      exact ⟨by rw [HE.out]; rfl, bB⟩
end Go.Proofs.Ytaipfcfmhdigfaa
