
import Derived.Test.YthefcmhmcgjcoaaFlKa
namespace Go.Proofs.Ythefcmhmcgjcoaa
open Go.RowKit Go.Shelf Go.Deep
set_option linter.unusedVariables false
set_option linter.unusedSimpArgs false

/-! FlashKeeps: the pages of a while ago, beside a device. -/
structure La21 (F : Nat → Prop) (S : Fs21) (t g : Nat) (W : World) : Prop where
  row : ∃ ka : Nat → Option Addr, W.heap[g]? = some (.cells (rl21 (fun i => .slice (ka i) (al21 S t i).length (al21 S t i).length)).toArray 22 (0, 0)) ∧ (∀ i, i < 12288 → Seg W (ka i) (al21 S t i) ∧ (∀ k, ka i = some k → al21 S t i ≠ [] → ¬ F k.block ∧ k.block < W.heap.size))
  nf : ¬ F g
theorem Seg.lt21 {W : World} {k : Addr} {L : List Int} (h : Seg W (some k) L) (hL : L ≠ []) : k.block < W.heap.size := by
  have h0 : 0 < L.length := by cases L with | nil => exact absurd rfl hL | cons => simp
  obtain ⟨b, off, e, hc⟩ := h.at_ 0 h0
  cases e
  exact World.block_lt_of_cell? _ _ hc
theorem Ar21.la {N t g : Nat} {S : Fs21} {W : World} {F : Nat → Prop} (h : Ar21 N S t g W) (hF : ∀ k, F k → k < N) : La21 F S t g W := by
  obtain ⟨⟨ka, h1, h2⟩, h3⟩ := h
  refine ⟨⟨ka, h1, fun i hi => ⟨(h2 i hi).1, fun k e hne => ⟨fun hf => ?_, ?_⟩⟩⟩, fun hf => ?_⟩
  · have := hF _ hf; have := ((h2 i hi).2 k e).1; omega
  · have := (h2 i hi).1
    rw [e] at this
    exact this.lt21 hne
  · have := hF _ hf; omega
theorem La21.lt {F : Nat → Prop} {S : Fs21} {t g : Nat} {W : World} (h : La21 F S t g W) : g < W.heap.size := (Array.getElem?_eq_some_iff.1 h.row.choose_spec.1).1
/-- All blocks outside of F (and some others) are kept. -/
theorem La21.kp {F F' : Nat → Prop} {S : Fs21} {t g : Nat} {W W' : World} (h : La21 F S t g W) (hs : W.heap.size ≤ W'.heap.size) (hk : ∀ k, k < W.heap.size → ¬ F k → W'.heap[k]? = W.heap[k]?) (hF : ∀ k, F' k → F k ∨ W.heap.size ≤ k) : La21 F' S t g W' := by
  have hl := h.lt
  obtain ⟨⟨ka, h1, h2⟩, h3⟩ := h
  refine ⟨⟨ka, (hk g hl h3).trans h1, fun i hi => ⟨?_, fun k e hne => ?_⟩⟩, fun hf => ?_⟩
  · obtain ⟨hs1, hs2⟩ := h2 i hi
    refine hs1.of_cells fun b off j v hj ha hcl => ?_
    have hne : al21 S t i ≠ [] := fun e => by rw [e] at hj; simp at hj
    obtain ⟨n1, n2⟩ := hs2 _ ha hne
    rw [World.cell?_of_block (a := ⟨b, off + j, none⟩) (hk b n2 n1)]
    exact hcl
  · obtain ⟨n1, n2⟩ := (h2 i hi).2 k e hne
    refine ⟨fun hf => ?_, by omega⟩
    rcases hF _ hf with h | h
    · exact n1 h
    · omega
  · rcases hF _ hf with h | h
    · exact h3 h
    · omega
theorem La21.old {F : Nat → Prop} {S : Fs21} {t g : Nat} {W W' : World} (h : La21 F S t g W) (hb : Below W.heap.size W W') : La21 F S t g W' := h.kp hb.size (fun k hk _ => hb.block k hk) (fun k e => .inl e)
theorem La21.fn {F F' : Nat → Prop} {S : Fs21} {t g : Nat} {W W' : World} (h : La21 F S t g W) (hk : Kp F W W') (hF : ∀ k, F' k → F k ∨ W.heap.size ≤ k) : La21 F' S t g W' := h.kp hk.size (fun k hk1 hk2 => hk.block k hk1 hk2) hF
/-- One row of them. -/
theorem La21.at {F : Nat → Prop} {S : Fs21} {t g : Nat} {W : World} (h : La21 F S t g W) (i : Nat) (hi : i < 12288) : ∃ ka, W.cell? ⟨g, i, none⟩ = some (.slice ka (al21 S t i).length (al21 S t i).length) ∧ Seg W ka (al21 S t i) := by
  obtain ⟨⟨ka, h1, h2⟩, h3⟩ := h
  exact ⟨ka i, (cell_rl21 h1 i hi).1, (h2 i hi).1⟩
/-- The device's part of a round. -/
structure De21 (w1 : World) (b P Q n : Nat) (F : Nat → Prop) (S : Fs21) (W : World) : Prop where
  fl : Fl21 W b F S
  ok : Ok21 S
  wk : Wk21 S
  pg : S.pg = P
  ps : S.ps = Q
  lg : S.lg.length ≤ n
  lo : ∀ k, F k → w1.heap.size ≤ k
  bl : Below w1.heap.size w1 W
theorem De21.old {w1 W W' : World} {b P Q n : Nat} {F : Nat → Prop} {S : Fs21} (h : De21 w1 b P Q n F S W) (hb : Below W.heap.size W W') : De21 w1 b P Q n F S W' := ⟨h.fl.old hb, h.ok, h.wk, h.pg, h.ps, h.lg, h.lo, h.bl.trans (hb.mono h.bl.size)⟩
theorem De21.lt {w1 W : World} {b P Q n : Nat} {F : Nat → Prop} {S : Fs21} (h : De21 w1 b P Q n F S W) : ∀ k, F k → k < W.heap.size := by
  obtain ⟨_, _, _, _, _, _, _, _, _, _, _, _, _, h6⟩ := h.fl
  exact h6
theorem De21.next {w1 W W' : World} {b P Q n m : Nat} {F : Nat → Prop} {S S' : Fs21} (h : De21 w1 b P Q n F S W) (hn : Fn21 W W' b F S') (ho : Ok21 S') (hw : Wk21 S') (hpg : S'.pg = S.pg) (hps : S'.ps = S.ps) (hm : S'.lg.length ≤ m) : ∃ F', De21 w1 b P Q m F' S' W' ∧ (∀ k, F' k → F k ∨ W.heap.size ≤ k) ∧ Kp F W W' := by
  obtain ⟨F', h1, h2, h3⟩ := hn
  refine ⟨F', ⟨h1, ho, hw, hpg.trans h.pg, hps.trans h.ps, hm, fun k e => ?_, h.bl.trans (h3.below h.lo h.bl.size)⟩, h2, h3⟩
  rcases h2 k e with h4 | h4
  · exact h.lo k h4
  · have := h.bl.size; omega
theorem De21.set {w1 W W' : World} {b P Q n z : Nat} {F : Nat → Prop} {S : Fs21} (h : De21 w1 b P Q n F S W) (hk : Kp (fun k => k = z) W W') (hz : ¬ F z) (hl : w1.heap.size ≤ z) : De21 w1 b P Q n F S W' := by
  refine ⟨h.fl.kp (fun k e => hk.block k (h.lt k e) (fun e2 => hz (e2 ▸ e))) hk.size, h.ok, h.wk, h.pg, h.ps, h.lg, h.lo, h.bl.trans (hk.below (fun k e => by omega) h.bl.size)⟩
theorem St21.len {S S' : Fs21} (h : St21 S S') : S.lg.length ≤ S'.lg.length ∧ S'.lg.length ≤ S.lg.length + 1 ∧ (S.on = false → S'.lg.length = S.lg.length) := by
  obtain ⟨h1, h2, -, h3⟩ := h
  rcases h3 with ⟨e, -⟩ | ⟨e0, kd, x, y, e, -⟩
  · rw [e]; exact ⟨Nat.le_refl _, Nat.le_succ _, fun _ => rfl⟩
  · rw [e]; simp [e0]
theorem St21.pow {S S' : Fs21} (h : St21 S S') : St21 S { S' with on := true } := h
theorem St21.eq {S S' : Fs21} (h : St21 S S') (hon : S.on = false) : Eq21 S S' := by
  obtain ⟨h1, h2, -, h3⟩ := h
  rcases h3 with ⟨-, e⟩ | ⟨e0, -⟩
  · exact eq21_pa h1 h2 e
  · rw [hon] at e0; cases e0
theorem own_first21 {w : World} {base n cap g : Nat} {e : TypeId} {xs : List Value} (h : w.ownsRow base e 1 (.slice (some ⟨g, 0, none⟩) n cap) n xs) (hn : 0 < n) : base ≤ g ∧ g < w.heap.size ∧ ∃ v, ∀ V : World, V.heap[g]? = w.heap[g]? → V.cell? ⟨g, 0, none⟩ = some v ∧ V.frozen? ⟨g, 0, none⟩ = false := by
  rcases h.2 with ⟨h1, h2⟩ | ⟨g', cp, cur, h1, h2, h3, h4, h5, h6, h7⟩
  · omega
  · simp only [Value.slice.injEq, Option.some.injEq, Addr.mk.injEq] at h1
    obtain ⟨⟨rfl, -, -⟩, -, rfl⟩ := h1
    refine ⟨h2, (Array.getElem?_eq_some_iff.1 h3).1, cur[0]'(by omega), fun V hV => ?_⟩
    have := hV.trans h3
    constructor
    · simp [World.cell?, this]
    · simp [World.frozen?, this]
/-- What holds at the head of the script's loop. -/
structure Ke21 (w1 : World) (b P Q i : Nat) (v : Value) (W : World) : Prop where
  dv : ∃ F S, De21 w1 b P Q (2 * i) F S W ∧ (S.on = false → ∃ g S0, v = .slice (some ⟨g, 0, none⟩) 12288 12288 ∧ La21 F S0 12288 g W ∧ Eq21 S0 S)
  sl : ∃ a n c, v = .slice a n c
end Go.Proofs.Ythefcmhmcgjcoaa
