
import Derived.Test.YtaipfcfmhdigfaaLzR7
namespace Go.Proofs.Ytaipfcfmhdigfaa
open Go.RowKit
set_option linter.unusedVariables false
set_option linter.unusedSimpArgs false

/-! The document's Cheapest: refusals; what the table holds. -/
def price7 (c : Pr7) : Value := .agg #[.int .i64 c.lit, .int .i64 c.mat, .int .i64 c.far]
def badP (c : Pr7) : Prop := c.lit < 0 ∨ 1048576 < c.lit ∨ c.mat < 0 ∨ 1048576 < c.mat ∨ c.far < 0 ∨ 1048576 < c.far
set_option maxRecDepth 100000 in
theorem rchea7_no (a : Option Addr) (n cap : Nat) (win chain : Int) (lazy : Bool) (c : Pr7) (w : World) (ho : opt7 win chain ≠ 0) :
    Calls Try.prog 32 #[.slice a n cap, look7 win chain lazy, price7 c] w fun e w' => e = .returned (.tuple #[.slice none 0 0, .int .i64 0, .int .i64 72]) ∧ Below w.heap.size w w' := by
  obtain ⟨lt, mt, fr⟩ := c
  unfold price7
  simp only
  obtain ⟨wA, hwA⟩ : ∃ wA, wA = w.alloc (.cells #[.int .i64 win, .int .i64 chain, .bool lazy] 44) := ⟨_, rfl⟩
  obtain ⟨wB, hwB⟩ : ∃ wB, wB = wA.alloc (.cells #[.int .i64 lt, .int .i64 mt, .int .i64 fr] 64) := ⟨_, rfl⟩
  have bA : Below w.heap.size w wA := by rw [hwA]; exact below_box _ _
  have bB : Below wA.heap.size wA wB := by rw [hwB]; exact below_box _ _
  have BB : Below w.heap.size w wB := bA.trans (bB.mono bA.size)
  have HWA : Hid (wA = w.alloc (.cells #[.int .i64 win, .int .i64 chain, .bool lazy] 44)) := hwA
  have HWB : Hid (wB = wA.alloc (.cells #[.int .i64 lt, .int .i64 mt, .int .i64 fr] 64)) := hwB
  have CO := ropt7 win chain lazy wB
  rw [opt7_no ho] at CO
  have lk := (boxL hwA).of_block (bB.block w.heap.size (boxL hwA).lt)
  obtain ⟨l0, l1, l2⟩ := lk
  clear hwA hwB ho
  unfold look7 at CO ⊢
  go_enter Try.func32, Try.ntmps32
  go_wp2_with fail
  rw [← HWA.out, ← HWB.out]
  refine CO.mono ?_
  rintro e w1 ⟨rfl, b1⟩
  go_wp2_with fail
  refine bodyPost_ret (results_tmp3 rfl _ _ _) rfl ?_
  exact ⟨rfl, BB.trans (b1.mono BB.size)⟩
set_option maxRecDepth 100000 in
set_option maxHeartbeats 4000000 in
theorem rchea7_bad (a : Option Addr) (n cap : Nat) (win chain : Int) (lazy : Bool) (c : Pr7) (w : World) (ho : opt7 win chain = 0) (hb : badP c) :
    Calls Try.prog 32 #[.slice a n cap, look7 win chain lazy, price7 c] w fun e w' => e = .returned (.tuple #[.slice none 0 0, .int .i64 0, .int .i64 72]) ∧ Below w.heap.size w w' := by
  obtain ⟨lt, mt, fr⟩ := c
  unfold badP at hb
  unfold price7
  simp only at hb ⊢
  obtain ⟨wA, hwA⟩ : ∃ wA, wA = w.alloc (.cells #[.int .i64 win, .int .i64 chain, .bool lazy] 44) := ⟨_, rfl⟩
  obtain ⟨wB, hwB⟩ : ∃ wB, wB = wA.alloc (.cells #[.int .i64 lt, .int .i64 mt, .int .i64 fr] 64) := ⟨_, rfl⟩
  have bA : Below w.heap.size w wA := by rw [hwA]; exact below_box _ _
  have bB : Below wA.heap.size wA wB := by rw [hwB]; exact below_box _ _
  have BB : Below w.heap.size w wB := bA.trans (bB.mono bA.size)
  have HWA : Hid (wA = w.alloc (.cells #[.int .i64 win, .int .i64 chain, .bool lazy] 44)) := hwA
  have HWB : Hid (wB = wA.alloc (.cells #[.int .i64 lt, .int .i64 mt, .int .i64 fr] 64)) := hwB
  have CO := ropt7 win chain lazy wB
  rw [ho] at CO
  have hB : wB.heap[wA.heap.size]? = some (.cells #[.int .i64 lt, .int .i64 mt, .int .i64 fr] 64 (0, 0)) := by rw [hwB]; exact heap_alloc_new wA _
  have p0 : wB.cell? ⟨wA.heap.size, 0, none⟩ = some (.int .i64 lt) := by simp [World.cell?, hB]
  have p1 : wB.cell? ⟨wA.heap.size, 1, none⟩ = some (.int .i64 mt) := by simp [World.cell?, hB]
  have p2 : wB.cell? ⟨wA.heap.size, 2, none⟩ = some (.int .i64 fr) := by simp [World.cell?, hB]
  have hpl := World.block_lt_of_cell? wB _ p0
  have HPC : Hid (∀ W, Below wB.heap.size wB W → W.cell? ⟨wA.heap.size, 0, none⟩ = some (.int .i64 lt) ∧ W.cell? ⟨wA.heap.size, 1, none⟩ = some (.int .i64 mt) ∧ W.cell? ⟨wA.heap.size, 2, none⟩ = some (.int .i64 fr)) := fun W hW => ⟨(hW.cell (p := ⟨wA.heap.size, 0, none⟩) hpl).trans p0, (hW.cell (p := ⟨wA.heap.size, 1, none⟩) hpl).trans p1, (hW.cell (p := ⟨wA.heap.size, 2, none⟩) hpl).trans p2⟩
  obtain ⟨zb, hzb⟩ : ∃ zb, zb = wA.heap.size := ⟨_, rfl⟩
  have HZB : Hid (w.heap.size + 1 = zb) := by show _ = _; rw [hzb, hwA]; simp
  rw [← hzb] at HPC
  clear hwA hwB ho hB p0 p1 p2 hpl hzb
  unfold look7 at CO ⊢
  have hcase : lt < 0 ∨ (¬ lt < 0 ∧ 1048576 < lt) ∨ (¬ lt < 0 ∧ ¬ 1048576 < lt ∧ mt < 0) ∨ (¬ lt < 0 ∧ ¬ 1048576 < lt ∧ ¬ mt < 0 ∧ 1048576 < mt) ∨ (¬ lt < 0 ∧ ¬ 1048576 < lt ∧ ¬ mt < 0 ∧ ¬ 1048576 < mt ∧ fr < 0) ∨ (¬ lt < 0 ∧ ¬ 1048576 < lt ∧ ¬ mt < 0 ∧ ¬ 1048576 < mt ∧ ¬ fr < 0 ∧ 1048576 < fr) := by omega
  clear hb
  rcases hcase with h | ⟨h, h'⟩ | ⟨h, h', h2⟩ | ⟨h, h', h2, h3⟩ | ⟨h, h', h2, h3, h4⟩ | ⟨h, h', h2, h3, h4, h5⟩
  all_goals
    go_enter Try.func32, Try.ntmps32
    go_wp2_with fail
    rw [HZB.out, ← HWA.out, ← HWB.out]
    refine CO.mono ?_
    rintro e w1 ⟨rfl, b1⟩
    obtain ⟨q0, q1, q2⟩ := HPC.out w1 b1
    go_wp2_with fail
    refine bodyPost_ret (results_tmp3 rfl _ _ _) rfl ?_
    exact ⟨rfl, BB.trans (b1.mono BB.size)⟩
/-! What the table comes to. -/
theorem lea7_le (D : List Int) (win : Nat) (c : Pr7) (hf : 0 ≤ c.far) (p : Nat) (hp : p ≤ D.length) : (lea7 D win c p).1 ≤ c.lit * ((D.length - p : Nat) : Int) := by
  obtain ⟨h1, h2⟩ := lits7_tz D win c (D.length - p) p (by omega)
  have := lea7_least (c := c) hf _ _ h1
  rw [h2] at this
  exact this
theorem outg7_fuel (D : List Int) (W : Nat) (c : Pr7) : ∀ f g p, p ≤ D.length → D.length ≤ p + f → D.length ≤ p + g → outg7 D W c f p = outg7 D W c g p
  | 0, 0, p, _, _, _ => rfl
  | 0, g + 1, p, _, h, _ => by rw [outg7, outg7, if_neg (by omega)]
  | f + 1, 0, p, _, _, h => by rw [outg7, outg7, if_neg (by omega)]
  | f + 1, g + 1, p, h0, h1, h2 => by
    rw [outg7, outg7]
    by_cases hp : p < D.length
    · rw [if_pos hp, if_pos hp]
      rcases (lea7_spec D W c p hp).2.2 with e | ⟨l, a1, a2, a3, a4, e⟩
      · rw [e]
        simp only [if_true]
        rw [outg7_fuel D W c f g (p + 1) (by omega) (by omega) (by omega)]
      · rw [e]
        simp only
        rw [if_neg (by omega), Int.toNat_natCast, outg7_fuel D W c f g (p + l) (by omega) (by omega) (by omega)]
    · rw [if_neg hp, if_neg hp]
/-- The next token, and how wide it is. -/
theorem outg7_step {D : List Int} {W : Nat} {c : Pr7} {p : Nat} (hp : p < D.length) : ∃ k : Nat, 1 ≤ k ∧ p + k ≤ D.length ∧ (((lea7 D W c p).2.len = 0 ∧ k = 1) ∨ ((lea7 D W c p).2.len = (k : Int) ∧ 3 ≤ k)) ∧ outg7 D W c (D.length - p) p = (lea7 D W c p).2 :: outg7 D W c (D.length - (p + k)) (p + k) := by
  rw [show D.length - p = D.length - (p + 1) + 1 by omega, outg7, if_pos hp]
  rcases (lea7_spec D W c p hp).2.2 with e | ⟨l, a1, a2, a3, a4, e⟩
  · refine ⟨1, by omega, by omega, .inl ⟨by rw [e], rfl⟩, ?_⟩
    rw [e]
    simp only [if_true]
  · refine ⟨l, by omega, a3, .inr ⟨by rw [e], a1⟩, ?_⟩
    rw [e]
    simp only
    rw [if_neg (by omega), Int.toNat_natCast, outg7_fuel D W c _ (D.length - (p + l)) (p + l) a3 (by omega) (by omega)]
end Go.Proofs.Ytaipfcfmhdigfaa
