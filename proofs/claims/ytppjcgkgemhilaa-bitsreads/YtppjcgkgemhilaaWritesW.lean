import Derived.Test.YtppjcgkgemhilaaWrLook
namespace Go.Proofs.Ytppjcgkgemhilaa
open Go.RowKit
set_option linter.unusedVariables false

theorem writes_any (b bx B N : Nat) (v u : Value) (L : List Bool) (c : Int) (x : Nat) (n : Int) (w : World) (h : Pair w b bx B v u L) (hb : b ≠ bx) (hb1 : b < B) (hb2 : bx < B) (hx : x < 18446744073709551616) (hn0 : -9223372036854775808 ≤ n) (hn1 : n ≤ 9223372036854775807)
    (ba : Option Addr) (p : List Int) (bc : Nat) (hs : Seg w ba p) (hnil : ba = none → bc = 0) (hN : ∀ g off, ba = some ⟨g, off, none⟩ → 0 < p.length → g < N) (hNb : N ≤ b) (hNx : N ≤ bx) (hl : L.length ≤ 1073741824) (hl2 : p.length ≤ 1073741824) :
    Calls Try.prog 10 #[.pointer (some ⟨b, 0, none⟩), .pointer (some ⟨bx, 0, none⟩), .agg #[.int .i64 c, .int .u64 (x : Int), .int .i64 n, .slice ba p.length bc]] w fun e w' => e = .returned (.bool true) ∧ Done w w' b bx B v u (stepL L c x n p) := by
  unfold stepL
  by_cases h0 : c = 0
  · subst h0
    exact writes_put b bx B v u L x n w h hb hb1 hb2 hx hn0 hn1 hl ba p.length bc
  rw [if_neg h0]
  by_cases h1 : c = 1
  · subst h1
    exact writes_turned b bx B v u L x n w h hb hb1 hb2 hx hn0 hn1 hl ba p.length bc
  rw [if_neg h1]
  by_cases h2 : c = 2
  · subst h2
    exact writes_align b bx B v u L x n w h hb hb1 hb2 hl ba p.length bc
  rw [if_neg h2]
  by_cases h3 : c = 3
  · subst h3
    exact writes_whole b bx B N v u L x n w h hb hb1 hb2 ba p bc hs hnil hN hNb hNx hl hl2
  rw [if_neg h3]
  exact writes_look b bx B v u L c x n w h ⟨h0, h1, h2, h3⟩ hl ba p.length bc
theorem step_len (L : List Bool) (c : Int) (x : Nat) (n : Int) (p : List Int) : (stepL L c x n p).length ≤ L.length + 64 + 8 * p.length := by
  have hp : padN L.length < 8 := by unfold padN; omega
  have ha := alignL_len L
  have hput : (putL L x n).length ≤ L.length + 56 ∧ (turnL L x n).length ≤ L.length + 56 := by
    unfold putL turnL
    rcases errW_cases x n with ⟨h1, h2⟩ | ⟨k, rfl, hk, ⟨h1, h2⟩ | ⟨h1, h2⟩⟩
    · rw [h1]; simp
    · rw [h1]; simp [bN_len]; omega
    · rw [h1]; simp
  unfold stepL
  repeat' split
  all_goals first | omega | (rw [List.length_append, bB_len]; omega)

/-- Two pairs beside each other. -/
structure Two (w : World) (b1 x1 b2 x2 B : Nat) (v1 u1 v2 u2 : Value) (L M : List Bool) : Prop where
  p1 : Pair w b1 x1 B v1 u1 L
  p2 : Pair w b2 x2 B v2 u2 M
  a1 : Ap v1.ownBlock v2.ownBlock
  a2 : Ap v1.ownBlock u2.ownBlock
  a3 : Ap u1.ownBlock v2.ownBlock
  a4 : Ap u1.ownBlock u2.ownBlock
variable {w w' : World} {b1 x1 b2 x2 B N : Nat} {v1 u1 v2 u2 : Value} {L L' M : List Bool}
theorem Two.swap (h : Two w b1 x1 b2 x2 B v1 u1 v2 u2 L M) : Two w b2 x2 b1 x1 B v2 u2 v1 u1 M L := ⟨h.p2, h.p1, h.a1.symm, h.a3.symm, h.a2.symm, h.a4.symm⟩
theorem Two.old (h : Two w b1 x1 b2 x2 B v1 u1 v2 u2 L M) (hb : Below w.heap.size w w') : Two w' b1 x1 b2 x2 B v1 u1 v2 u2 L M := ⟨h.p1.old hb, h.p2.old hb, h.a1, h.a2, h.a3, h.a4⟩
theorem Two.step (h : Two w b1 x1 b2 x2 B v1 u1 v2 u2 L M) (hd : Done w w' b1 x1 B v1 u1 L') (hne : b2 ≠ b1 ∧ b2 ≠ x1 ∧ x2 ≠ b1 ∧ x2 ≠ x1) (hB : b1 < B ∧ x1 < B ∧ b2 < B ∧ x2 < B) (hN : N ≤ b1 ∧ N ≤ x1 ∧ N ≤ B) : (∃ v1' u1', Two w' b1 x1 b2 x2 B v1' u1' v2 u2 L' M) ∧ Below N w w' := by
  obtain ⟨v', u', hp, hk, hf, hg⟩ := hd
  have hv := h.p1.g.own_lt
  have hu := h.p1.x.own_lt
  have hv2 := h.p2.g.own_lt
  have hu2 := h.p2.x.own_lt
  refine ⟨⟨v', u', hp, h.p2.kp hk ?_ ?_ ?_, ?_, ?_, ?_, ?_⟩, hk.below ?_ ?_⟩
  · rintro ((e | e) | (e | e))
    · exact hne.1 e
    · have := (hv _ e).1; omega
    · exact hne.2.1 e
    · have := (hu _ e).1; omega
  · rintro ((e | e) | (e | e))
    · exact hne.2.2.1 e
    · have := (hv _ e).1; omega
    · exact hne.2.2.2 e
    · have := (hu _ e).1; omega
  · intro k hk1 hk2 hk3
    rintro ((e | e) | (e | e))
    · omega
    · rcases hk3 with h3 | h3
      · exact h.a1 k e h3
      · exact h.a2 k e h3
    · omega
    · rcases hk3 with h3 | h3
      · exact h.a3 k e h3
      · exact h.a4 k e h3
  · intro k e1 e2
    have := (hv2 k e2).2.1
    rcases hf k e1 with e | e
    · exact h.a1 k e e2
    · omega
  · intro k e1 e2
    have := (hu2 k e2).2.1
    rcases hf k e1 with e | e
    · exact h.a2 k e e2
    · omega
  · intro k e1 e2
    have := (hv2 k e2).2.1
    rcases hg k e1 with e | e
    · exact h.a3 k e e2
    · omega
  · intro k e1 e2
    have := (hu2 k e2).2.1
    rcases hg k e1 with e | e
    · exact h.a4 k e e2
    · omega
  · rintro i ((e | e) | (e | e))
    · omega
    · have := (hv i e).1; omega
    · omega
    · have := (hu i e).1; omega
  · have := h.p1.g.b_lt; omega

/-- A script that came in. -/
structure SegO (w : World) (a : Option Addr) (n : Nat) (C V N : Nat → Int) (Ba : Nat → Option Addr) (P : Nat → List Int) (Bc : Nat → Nat) : Prop where
  at_ : ∀ i, i < n → ∃ b off, a = some ⟨b, off, none⟩ ∧ w.cell? ⟨b, off + i * 4, none⟩ = some (.int .i64 (C i)) ∧ w.cell? ⟨b, off + i * 4 + 1, none⟩ = some (.int .u64 (V i)) ∧ w.cell? ⟨b, off + i * 4 + 2, none⟩ = some (.int .i64 (N i)) ∧ w.cell? ⟨b, off + i * 4 + 3, none⟩ = some (.slice (Ba i) (P i).length (Bc i))
  seg : ∀ i, i < n → Seg w (Ba i) (P i)
  nil : ∀ i, i < n → Ba i = none → Bc i = 0
  cap : ∀ i, i < n → (P i).length ≤ Bc i
  bd : ∀ i, i < n → -9223372036854775808 ≤ C i ∧ C i ≤ 9223372036854775807 ∧ 0 ≤ V i ∧ V i ≤ 18446744073709551615 ∧ -9223372036854775808 ≤ N i ∧ N i ≤ 9223372036854775807
theorem SegO.old {a : Option Addr} {n : Nat} {C V N : Nat → Int} {Ba : Nat → Option Addr} {P : Nat → List Int} {Bc : Nat → Nat} (h : SegO w a n C V N Ba P Bc) (hb : Below w.heap.size w w') : SegO w' a n C V N Ba P Bc := by
  refine ⟨fun i hi => ?_, fun i hi => (h.seg i hi).old hb, h.nil, h.cap, h.bd⟩
  obtain ⟨b, off, ha, h0, h1, h2, h3⟩ := h.at_ i hi
  have hlt := World.block_lt_of_cell? w _ h0
  exact ⟨b, off, ha, (hb.cell (p := ⟨b, off + i * 4, none⟩) hlt).trans h0, (hb.cell (p := ⟨b, off + i * 4 + 1, none⟩) hlt).trans h1, (hb.cell (p := ⟨b, off + i * 4 + 2, none⟩) hlt).trans h2, (hb.cell (p := ⟨b, off + i * 4 + 3, none⟩) hlt).trans h3⟩

section
variable (C V N : Nat → Int) (P : Nat → List Int)
def LS : Nat → List Bool
  | 0 => []
  | i + 1 => stepL (LS i) (C i) (V i).toNat (N i) (P i)
def LO : Nat → List Bool
  | 0 => []
  | i + 1 => if i % 3 = 0 then stepL (LO i) (C i) (V i).toNat (N i) (P i) else LO i
def tot : Nat → Nat
  | 0 => 0
  | i + 1 => tot i + 64 + 8 * (P i).length
theorem LS_le (i : Nat) : (LS C V N P i).length ≤ tot P i := by
  induction i with
  | zero => simp [LS, tot]
  | succ i ih =>
    have := step_len (LS C V N P i) (C i) (V i).toNat (N i) (P i)
    simp only [LS, tot]
    omega
theorem LO_le (i : Nat) : (LO C V N P i).length ≤ tot P i := by
  induction i with
  | zero => simp [LO, tot]
  | succ i ih =>
    have := step_len (LO C V N P i) (C i) (V i).toNat (N i) (P i)
    simp only [LO, tot]
    split <;> omega
theorem tot_mono (i j : Nat) (h : i ≤ j) : tot P i ≤ tot P j := by
  induction j with
  | zero => obtain rfl : i = 0 := by omega
            exact Nat.le_refl _
  | succ j ih =>
    by_cases hij : i ≤ j
    · have := ih hij
      simp only [tot]
      omega
    · obtain rfl : i = j + 1 := by omega
      exact Nat.le_refl _
end
end Go.Proofs.Ytppjcgkgemhilaa
