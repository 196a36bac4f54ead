import Derived.Test.YtodioefbfchckaaPl
import Derived.Test.YtodioefbfchckaaPk
namespace Go.Proofs.Ytodioefbfchckaa
open Go.RowKit Go.Shelf
set_option linter.unusedVariables false

/-! Uncontrol: its numbers, its steps; with no word of memory. -/
theorem decL_fact : ∀ (zs : List Int) (v : Int) (c : Nat), (∀ z ∈ zs, 0 ≤ z) → 0 ≤ v → (decL v c zs).2.2 = 0 → ∃ k : Nat, (decL v c zs).2.1 = (c : Int) + k ∧ 1 ≤ k ∧ k ≤ zs.length ∧ 0 ≤ (decL v c zs).1
  | [], v, c, _, _, h => by simp [decL] at h
  | x :: r, v, c, hz, hv, h => by
    unfold decL at h ⊢
    have hx := hz x (by simp)
    have ht : 0 ≤ tkVal v c x := by
      unfold tkVal
      have h1 : (0 : Int) ≤ 128 ^ c := Int.le_of_lt (Int.pow_pos (by decide))
      have h2 : 0 ≤ x % 128 := Int.emod_nonneg _ (by decide)
      have := Int.mul_nonneg h2 h1
      omega
    by_cases h1 : tkErr c x ≠ 0
    · rw [if_pos h1] at h
      exact absurd h h1
    · rw [if_neg h1] at h ⊢
      by_cases h2 : x < 128
      · rw [if_pos h2]
        exact ⟨1, rfl, by omega, by simp, ht⟩
      · rw [if_neg h2] at h ⊢
        obtain ⟨k, e1, e2, e3, e4⟩ := decL_fact r (tkVal v c x) (c + 1) (fun z h => hz z (by simp [h])) ht h
        exact ⟨k + 1, by rw [e1]; omega, by omega, by simp; omega, e4⟩
/-- The greatest number at each of the three places. -/
def lim17 (j : Nat) : Int := if j = 2 then 33554432 else 65536
/-- The next number: (error, number, how many bytes). -/
def nx17 (j : Nat) (b : List Int) : Int × Int × Nat :=
  if (decL 0 0 b).2.2 ≠ 0 then ((decL 0 0 b).2.2, 0, 0) else if lim17 j < (decL 0 0 b).1 then (171, 0, 0) else (0, (decL 0 0 b).1, (decL 0 0 b).2.1.toNat)
theorem nx17_err {j : Nat} {b : List Int} (h : (decL 0 0 b).2.2 ≠ 0) : nx17 j b = ((decL 0 0 b).2.2, 0, 0) := by unfold nx17; rw [if_pos h]
theorem nx17_lim {j : Nat} {b : List Int} (h : (decL 0 0 b).2.2 = 0) (h1 : lim17 j < (decL 0 0 b).1) : nx17 j b = (171, 0, 0) := by unfold nx17; rw [if_neg (by simp [h]), if_pos h1]
theorem nx17_ok {j : Nat} {b : List Int} (h : (decL 0 0 b).2.2 = 0) (h1 : ¬ lim17 j < (decL 0 0 b).1) : nx17 j b = (0, (decL 0 0 b).1, (decL 0 0 b).2.1.toNat) := by unfold nx17; rw [if_neg (by simp [h]), if_neg h1]
/-- Three numbers, the rest of them from the j-th on: (error, numbers, bytes that are left). -/
def th17 (l : List Int) (b : List Int) : Nat → Int × List Int × List Int
  | 0 => (0, l, b)
  | k + 1 => if (nx17 (2 - k) b).1 ≠ 0 then ((nx17 (2 - k) b).1, [], []) else th17 (l ++ [(nx17 (2 - k) b).2.1]) (b.drop (nx17 (2 - k) b).2.2) k
theorem th17_no {l b : List Int} {k : Nat} (h : (nx17 (2 - k) b).1 ≠ 0) : th17 l b (k + 1) = ((nx17 (2 - k) b).1, [], []) := by
  show (if _ then _ else _) = _
  rw [if_pos h]
theorem th17_ok {l b : List Int} {k : Nat} (h : (nx17 (2 - k) b).1 = 0) : th17 l b (k + 1) = th17 (l ++ [(nx17 (2 - k) b).2.1]) (b.drop (nx17 (2 - k) b).2.2) k := by
  show (if _ then _ else _) = _
  rw [if_neg (by simp [h])]
def sp17 (l : List Int) : St16 := (l.getD 0 0, l.getD 1 0, zagI (l.getD 2 0))
/-- All steps: (error, steps). -/
def un17 : Nat → List Int → List St16 → Int × List St16
  | 0, _, acc => (0, acc)
  | f + 1, b, acc => if b = [] then (0, acc) else if (th17 [] b 3).1 ≠ 0 then ((th17 [] b 3).1, []) else un17 f (th17 [] b 3).2.2 (acc ++ [sp17 (th17 [] b 3).2.1])
theorem un17_nil (f : Nat) (acc : List St16) : un17 f [] acc = (0, acc) := by cases f <;> simp [un17]
theorem un17_no {f : Nat} {b : List Int} {acc : List St16} (hb : b ≠ []) (h : (th17 [] b 3).1 ≠ 0) : un17 (f + 1) b acc = ((th17 [] b 3).1, []) := by
  show (if _ then _ else _) = _
  rw [if_neg hb, if_pos h]
theorem un17_ok {f : Nat} {b : List Int} {acc : List St16} (hb : b ≠ []) (h : (th17 [] b 3).1 = 0) : un17 (f + 1) b acc = un17 f (th17 [] b 3).2.2 (acc ++ [sp17 (th17 [] b 3).2.1]) := by
  show (if _ then _ else _) = _
  rw [if_neg hb, if_neg (by simp [h])]
/-- What the next number eats. -/
theorem nx17_fact {j : Nat} {b : List Int} (hz : ∀ z ∈ b, 0 ≤ z) (h : (nx17 j b).1 = 0) : (decL 0 0 b).2.2 = 0 ∧ ¬ lim17 j < (decL 0 0 b).1 ∧ (nx17 j b).2.1 = (decL 0 0 b).1 ∧ (decL 0 0 b).2.1 = ((nx17 j b).2.2 : Int) ∧ 1 ≤ (nx17 j b).2.2 ∧ (nx17 j b).2.2 ≤ b.length ∧ 0 ≤ (nx17 j b).2.1 ∧ (nx17 j b).2.1 ≤ lim17 j := by
  by_cases h1 : (decL 0 0 b).2.2 = 0
  · by_cases h2 : lim17 j < (decL 0 0 b).1
    · rw [nx17_lim h1 h2] at h; cases h
    · obtain ⟨k, e1, e2, e3, e4⟩ := decL_fact b 0 0 hz (by decide) h1
      rw [nx17_ok h1 h2]
      refine ⟨h1, h2, rfl, ?_, ?_, ?_, e4, by show (decL 0 0 b).1 ≤ _; omega⟩
      · show _ = ((decL 0 0 b).2.1.toNat : Int); rw [e1]; omega
      · show 1 ≤ (decL 0 0 b).2.1.toNat; rw [e1]; omega
      · show (decL 0 0 b).2.1.toNat ≤ _; rw [e1]; omega
  · rw [nx17_err h1] at h; exact absurd h h1
end Go.Proofs.Ytodioefbfchckaa

namespace Go.Proofs.Ytodioefbfchckaa
open Go.RowKit Go.Shelf
set_option linter.unusedVariables false

/-! Uncontrol's two loops: what holds at their heads. -/
def ln17 : Value → Nat
  | .slice _ n _ => n
  | _ => 0
def ar17 (l : List Int) : Array Value := #[.int .u64 (l.getD 0 0), .int .u64 (l.getD 1 0), .int .u64 (l.getD 2 0)]
/-- At the outer head: b is left, acc was made. The own row lies from block base on. -/
structure Ui17 (w : World) (base : Nat) (ty : TypeId) (zs : List Int) (f : Nat) (b : List Int) (acc : List St16) (ra : Option Addr) (rc : Nat) (v : Value) (V : World) : Prop where
  seg : Seg V ra b
  cap : b.length ≤ rc
  nil : ra = none → rc = 0
  own : V.ownsRow base ty 3 v acc.length (flat16 acc)
  un : un17 f b acc = un17 zs.length zs []
  fu : b.length ≤ f
  ln : acc.length + b.length ≤ zs.length
  ok : ∀ s ∈ acc, cok17 s = true
  bl : Below w.heap.size w V
  bs : base ≤ V.heap.size
/-- At the inner head: the numbers l were read, bi is left; the array lies in block b6. -/
structure Un17 (W : World) (b : List Int) (b6 : Nat) (t6 : TypeId) (j : Nat) (l bi : List Int) (ra : Option Addr) (rc : Nat) (V : World) : Prop where
  hj : j ≤ 3
  hl : l.length = j
  seg : Seg V ra bi
  cap : bi.length ≤ rc
  nil : ra = none → rc = 0
  th : th17 l bi (3 - j) = th17 [] b 3
  q6 : V.heap[b6]? = some (.cells (ar17 l) t6 (0, 0))
  old : W.heap.size ≤ b6
  bl : Below W.heap.size W V
  ln : bi.length + j ≤ b.length
  bd : ∀ i, i < j → 0 ≤ l.getD i 0 ∧ l.getD i 0 ≤ lim17 i
theorem Un17.start {W : World} {b : List Int} {ra : Option Addr} {rc : Nat} (t6 : TypeId) (hs : Seg W ra b) (hc : b.length ≤ rc) (hn : ra = none → rc = 0) : Un17 W b W.heap.size t6 0 [] b ra rc (W.alloc (.cells (ar17 []) t6)) :=
  ⟨by omega, rfl, hs.alloc _, hc, hn, rfl, heap_alloc_new W _, Nat.le_refl _, (Below.refl _ _).alloc (Nat.le_refl _) _, by omega, fun i h => by omega⟩
theorem Un17.keep {W V V' : World} {b : List Int} {b6 : Nat} {t6 : TypeId} {j : Nat} {l bi : List Int} {ra : Option Addr} {rc : Nat} (h : Un17 W b b6 t6 j l bi ra rc V) (hb : Below V.heap.size V V') : Un17 W b b6 t6 j l bi ra rc V' :=
  ⟨h.hj, h.hl, h.seg.old hb, h.cap, h.nil, h.th, (hb.block b6 (Array.getElem?_eq_some_iff.1 h.q6).1).trans h.q6, h.old, h.bl.trans (hb.mono h.bl.size), h.ln, h.bd⟩
theorem ar17_set {V : World} {b6 : Nat} {t6 : TypeId} {j : Nat} {l : List Int} (hq : V.heap[b6]? = some (.cells (ar17 l) t6 (0, 0))) (hl : l.length = j) (hj : j < 3) (v : Int) : (V.setCell ⟨b6, j, none⟩ (.int .u64 v)).heap[b6]? = some (.cells (ar17 (l ++ [v])) t6 (0, 0)) := by
  have hh : (V.setCell ⟨b6, j, none⟩ (.int .u64 v)).heap[b6]? = some (.cells ((ar17 l).setIfInBounds j (.int .u64 v)) t6 (0, 0)) := by
    simp [World.setCell, Array.getElem?_modify, hq]
  rw [hh]
  match l, j, hl, hj with
  | [], 0, _, _ => rfl
  | [x], 1, _, _ => rfl
  | [x, y], 2, _, _ => rfl
  | _ :: _ :: _ :: _, _, h, h2 => simp at h; omega
theorem Un17.step {W V : World} {b : List Int} {b6 : Nat} {t6 : TypeId} {j : Nat} {l bi : List Int} {ra : Option Addr} {rc : Nat} (h : Un17 W b b6 t6 j l bi ra rc V) (hj : j < 3) (he : (nx17 j bi).1 = 0) (hne : ∀ x off, ra = some ⟨x, off, none⟩ → 0 < bi.length → x < W.heap.size) :
    Un17 W b b6 t6 (j + 1) (l ++ [(nx17 j bi).2.1]) (bi.drop (nx17 j bi).2.2) (rs16 ra rc (nx17 j bi).2.2) (rc - (nx17 j bi).2.2) (V.setCell ⟨b6, j, none⟩ (.int .u64 (nx17 j bi).2.1)) := by
  obtain ⟨_, _, _, _, n1, n2, n3, n4⟩ := nx17_fact (fun z hz => (h.seg.mem z hz).1) he
  obtain ⟨sg, sa⟩ := seg_rs16 (c := rc) (d := (nx17 j bi).2.2) h.seg n2 h.cap
  have h2 : 2 - (3 - (j + 1)) = j := by omega
  have hk : Kp (fun k => k = b6) V (V.setCell ⟨b6, j, none⟩ (.int .u64 (nx17 j bi).2.1)) := Kp.set (S := fun k => k = b6) rfl _
  refine ⟨by omega, by simp [h.hl], ?_, ?_, ?_, ?_, ar17_set h.q6 h.hl hj _, h.old, h.bl.trans (hk.below (fun k e => by rw [e]; exact h.old) h.bl.size), ?_, ?_⟩
  · refine sg.kp hk ?_
    intro x off e hpos ex
    obtain ⟨o, ho⟩ := sa x off e hpos
    have := hne x o ho (by rw [List.length_drop] at hpos; omega)
    have := h.old
    omega
  · rw [List.length_drop]; have := h.cap; omega
  · intro e
    unfold rs16 at e
    split at e
    · rw [h.nil e]; omega
    · rcases ra with _ | a
      · rw [h.nil rfl]; omega
      · cases e
  · have ht := h.th
    rw [show 3 - j = (3 - (j + 1)) + 1 from by omega] at ht
    rw [th17_ok (by rw [h2]; exact he), h2] at ht
    exact ht
  · rw [List.length_drop]; have := h.ln; omega
  · intro i hi
    by_cases hij : i < j
    · have := h.bd i hij
      have e : (l ++ [(nx17 j bi).2.1]).getD i 0 = l.getD i 0 := by
        unfold List.getD
        rw [List.getElem?_append_left (by rw [h.hl]; exact hij)]
      rw [e]; exact this
    · have : i = j := by omega
      subst this
      have e : (l ++ [(nx17 i bi).2.1]).getD i 0 = (nx17 i bi).2.1 := by simp [List.getD, ← h.hl]
      rw [e]
      exact ⟨n3, n4⟩
/-- Refused. -/
theorem Un17.no {w W V : World} {base : Nat} {ty : TypeId} {zs : List Int} {f : Nat} {b : List Int} {acc : List St16} {r : Option Addr} {c : Nat} {v : Value} {b6 : Nat} {t6 : TypeId} {j : Nat} {l bi : List Int} {ra : Option Addr} {rc : Nat} (H : Ui17 w base ty zs f b acc r c v W) (hb : b ≠ []) (h : Un17 W b b6 t6 j l bi ra rc V) (hj : j < 3) (he : (nx17 j bi).1 ≠ 0) : un17 zs.length zs [] = ((nx17 j bi).1, []) := by
  have h2 : 2 - (3 - (j + 1)) = j := by omega
  have ht := h.th
  rw [show 3 - j = (3 - (j + 1)) + 1 from by omega, th17_no (by rw [h2]; exact he), h2] at ht
  have hf : 0 < b.length := List.length_pos_iff.2 hb
  have hfu := H.fu
  obtain ⟨g, rfl⟩ : ∃ g, f = g + 1 := ⟨f - 1, by omega⟩
  rw [← H.un, un17_no hb (by rw [← ht]; exact he), ← ht]
/-- Three numbers are read: the next outer round. -/
theorem Un17.fin {w W V V' : World} {base : Nat} {ty : TypeId} {zs : List Int} {f : Nat} {b : List Int} {acc : List St16} {r : Option Addr} {c : Nat} {v v' : Value} {b6 : Nat} {t6 : TypeId} {l bi : List Int} {ra : Option Addr} {rc : Nat} (H : Ui17 w base ty zs f b acc r c v W) (hb : b ≠ []) (h : Un17 W b b6 t6 3 l bi ra rc V) (hsg : Seg V' ra bi) (hbl : Below w.heap.size w V') (hbs : base ≤ V'.heap.size) (ow : V'.ownsRow base ty 3 v' (acc.length + 1) (flat16 acc ++ [.int .i64 (l.getD 0 0), .int .i64 (l.getD 1 0), .int .i64 (zagI (l.getD 2 0))])) :
    ∃ f', Ui17 w base ty zs f' bi (acc ++ [sp17 l]) ra rc v' V' := by
  have hf : 0 < b.length := List.length_pos_iff.2 hb
  have hfu := H.fu
  obtain ⟨g, rfl⟩ : ∃ g, f = g + 1 := ⟨f - 1, by omega⟩
  have ht := h.th
  rw [show 3 - 3 = 0 from rfl] at ht
  have ht : (0, l, bi) = th17 [] b 3 := ht
  have hln := h.ln
  have hL := H.ln
  refine ⟨g, hsg, h.cap, h.nil, ?_, ?_, by omega, ?_, ?_, hbl, hbs⟩
  · rw [flat16_app]
    simpa [sp17, flat16] using ow
  · rw [← H.un, un17_ok hb (by rw [← ht]), ← ht]
  · rw [List.length_append]; simp; omega
  · intro s hs
    rcases List.mem_append.1 hs with x | x
    · exact H.ok s x
    · rw [List.mem_singleton.1 x, cok17_iff]
      have b0 := h.bd 0 (by omega)
      have b1 := h.bd 1 (by omega)
      have b2 := h.bd 2 (by omega)
      have c0 : l.getD 0 0 ≤ 65536 := b0.2
      have c1 : l.getD 1 0 ≤ 65536 := b1.2
      have c2 : l.getD 2 0 ≤ 33554432 := b2.2
      unfold sp17
      refine ⟨⟨b0.1, c0⟩, ⟨b1.1, c1⟩, ?_⟩
      show -16777216 ≤ zagI (l.getD 2 0) ∧ zagI (l.getD 2 0) ≤ 16777216
      have d2 := b2.1
      generalize l.getD 2 0 = u at *
      unfold zagI
      split <;> omega
end Go.Proofs.Ytodioefbfchckaa

namespace Go.Proofs.Ytodioefbfchckaa
open Go.RowKit Go.Shelf
set_option linter.unusedVariables false

/-! Cut's loop: what lies in memory. -/
structure Cm17 (w : World) (R : Nat → Prop) (bO bw bn n : Nat) (E : Nat → Prop) (vO vS vD vX : Value) (l : List Wp17) (s : Pt17) (V : World) : Prop where
  pr : Pr17 w.heap.size bw vS vD vX s V
  hO : V.heap[bO]? = some (.cells #[vO] 30 (0, 0))
  hn : V.heap[bn]? = some (.cells #[.int .i64 (n : Int)] 3 (0, 0))
  wl : Wl17 w.heap.size vO l V
  ap : ∀ k, Pf17 bw vS vD vX k → k ≠ bO ∧ k ≠ bn ∧ ¬ Lf17 vO l k
  aO : ∀ k, Lf17 vO l k → k ≠ bO ∧ k ≠ bn
  nf : ∀ k, Pf17 bw vS vD vX k ∨ Lf17 vO l k ∨ k = bO → ¬ E k ∧ ¬ R k
  bl : Below w.heap.size w V
  wO : w.heap.size ≤ bO
  on : bO ≠ bn
variable {w : World} {R : Nat → Prop} {bO bw bn n : Nat} {E E' : Nat → Prop} {vO vS vD vX vS' vD' vX' : Value} {l : List Wp17} {s s' : Pt17} {V V' : World}
theorem Cm17.lt (h : Cm17 w R bO bw bn n E vO vS vD vX l s V) : ∀ k, Pf17 bw vS vD vX k ∨ Lf17 vO l k ∨ k = bO ∨ k = bn → k < V.heap.size := by
  rintro k (x | x | x | x)
  · exact (h.pr.lt k x).2
  · exact (h.wl.lt k x).2
  · rw [x]; exact (Array.getElem?_eq_some_iff.1 h.hO).1
  · rw [x]; exact (Array.getElem?_eq_some_iff.1 h.hn).1
theorem Cm17.kp (h : Cm17 w R bO bw bn n E vO vS vD vX l s V) {K : Nat → Prop} (hk : Kp K V V') (hK : ∀ k, K k → w.heap.size ≤ k ∧ k ≠ bO ∧ k ≠ bn ∧ ¬ Pf17 bw vS vD vX k ∧ ¬ Lf17 vO l k) (hE : ∀ k, E' k → E k ∨ V.heap.size ≤ k) : Cm17 w R bO bw bn n E' vO vS vD vX l s V' :=
  ⟨h.pr.kp hk (fun k x y => (hK k y).2.2.2.1 x), hk.heap h.hO (fun x => (hK _ x).2.1 rfl), hk.heap h.hn (fun x => (hK _ x).2.2.1 rfl), h.wl.kp hk (fun k x y => (hK k y).2.2.2.2 x), h.ap, h.aO, fun k x => by
    obtain ⟨y1, y2⟩ := h.nf k x
    refine ⟨fun z => ?_, y2⟩
    rcases hE k z with q | q
    · exact y1 q
    · have : k < V.heap.size := h.lt k (by rcases x with x | x | x; exact .inl x; exact .inr (.inl x); exact .inr (.inr (.inl x)))
      omega, h.bl.trans (hk.below (fun k x => (hK k x).1) h.bl.size), h.wO, h.on⟩
theorem Cm17.below (h : Cm17 w R bO bw bn n E vO vS vD vX l s V) (hb : Below V.heap.size V V') : Cm17 w R bO bw bn n E vO vS vD vX l s V' :=
  h.kp (K := fun _ => False) (Kp.of_below hb) (fun k x => x.elim) (fun k x => .inl x)
/-- A byte is taken. -/
theorem Cm17.more (h : Cm17 w R bO bw bn n E vO vS vD vX l s V) (h9 : Pr17 w.heap.size bw vS' vD' vX' s' V') (k9 : Kp (Pf17 bw vS vD vX) V V') (f9 : ∀ k, Pf17 bw vS' vD' vX' k → Pf17 bw vS vD vX k ∨ V.heap.size ≤ k) (hRl : ∀ k, R k → k < V.heap.size) (hEl : ∀ k, E k → k < V.heap.size) : Cm17 w R bO bw bn n E vO vS' vD' vX' l s' V' := by
  have hlt := h.lt
  refine ⟨h9, k9.heap h.hO (fun x => (h.ap _ x).1 rfl), k9.heap h.hn (fun x => (h.ap _ x).2.1 rfl), h.wl.kp k9 (fun k x y => (h.ap k y).2.2 x), ?_, h.aO, ?_, h.bl.trans (k9.below (fun k x => (h.pr.lt k x).1) h.bl.size), h.wO, h.on⟩
  · intro k x
    rcases f9 k x with y | y
    · exact h.ap k y
    · refine ⟨fun e => ?_, fun e => ?_, fun e => ?_⟩
      · have := hlt bO (.inr (.inr (.inl rfl))); omega
      · have := hlt bn (.inr (.inr (.inr rfl))); omega
      · have := hlt k (.inr (.inl e)); omega
  · rintro k (x | x)
    · rcases f9 k x with y | y
      · exact h.nf k (.inl y)
      · exact ⟨fun e => by have := hEl k e; omega, fun e => by have := hRl k e; omega⟩
    · exact h.nf k (.inr x)
theorem own_sl17' {w : World} {base n sz : Nat} {e : TypeId} {v : Value} {xs : List Value} (h : w.ownsRow base e sz v n xs) : ∃ p n k, v = .slice p n k := by
  obtain ⟨p, c, e⟩ := own_sl17 h
  exact ⟨p, n, c, e⟩
theorem kr17 (K D : Nat → Prop) {A B : World} (h : Kp K A B) (hd : ∀ k, D k → ¬ K k) : Kr16 D A B := Kr16.of_kp h hd
/-- A window is laid down. -/
structure Cp17 (w : World) (R : Nat → Prop) (bO bw bn n : Nat) (E : Nat → Prop) (vO vS vD vX : Value) (l : List Wp17) (s : Pt17) (V : World) (g rc : Nat) (w' : World) : Prop where
  hr : (Builtin.append_ #[30, 30] 30 #[vO, .slice (some ⟨V.heap.size, 0, none⟩) 1 1]).run Try.prog (V.alloc (.cells #[.int .i64 s.pos, vS, vD, vX] 42)) = .ok (.slice (some ⟨g, 0, none⟩) (l.length + 1) rc) w'
  hO : w'.heap[bO]? = some (.cells #[vO] 30 (0, 0))
  hp : (w'.setCell ⟨bO, 0, none⟩ (.slice (some ⟨g, 0, none⟩) (l.length + 1) rc)).heap[bw]? = some (.cells #[.int .i64 s.pos, vS, vD, vX, .int .i64 s.p] 83 (0, 0))
  wl : Wl17 w.heap.size (.slice (some ⟨g, 0, none⟩) (l.length + 1) rc) (l ++ [((vS, vD, vX), s)]) (w'.setCell ⟨bO, 0, none⟩ (.slice (some ⟨g, 0, none⟩) (l.length + 1) rc))
  bl : Below w.heap.size w (w'.setCell ⟨bO, 0, none⟩ (.slice (some ⟨g, 0, none⟩) (l.length + 1) rc))
  cm : ∀ F, Kp (fun k => k = bw) (w'.setCell ⟨bO, 0, none⟩ (.slice (some ⟨g, 0, none⟩) (l.length + 1) rc)) F → F.heap[bw]? = some (.cells #[.int .i64 0, .slice none 0 0, .slice none 0 0, .slice none 0 0, .int .i64 0] 83 (0, 0)) → Cm17 w R bO bw bn n E (.slice (some ⟨g, 0, none⟩) (l.length + 1) rc) (.slice none 0 0) (.slice none 0 0) (.slice none 0 0) (l ++ [((vS, vD, vX), s)]) z17 F ∧ Kr16 (fun k => E k ∨ R k) V F
theorem Cm17.push (h : Cm17 w R bO bw bn n E vO vS vD vX l s V) (hl : l.length + 1 ≤ 1099511627776) (hRl : ∀ k, R k → k < V.heap.size) (hEl : ∀ k, E k → k < V.heap.size) : ∃ g rc w', Cp17 w R bO bw bn n E vO vS vD vX l s V g rc w' := by
  have hlt := h.lt
  have hwO := h.wO
  obtain ⟨g, rc, w', hr, ow, k1, at1⟩ := appw17 V s.pos vS vD vX (own_sl17' h.pr.oS) (own_sl17' h.pr.oD) (own_sl17' h.pr.oX) h.wl.own hl h.bl.size
  have hO' := k1.heap h.hO (fun e => (h.aO bO (.inl e)).1 rfl)
  have kS : Kp (fun k => k = bO) w' (w'.setCell ⟨bO, 0, none⟩ (.slice (some ⟨g, 0, none⟩) (l.length + 1) rc)) := Kp.set (S := fun k => k = bO) rfl _
  obtain ⟨F0, hF0⟩ : ∃ F0, F0 = w'.setCell ⟨bO, 0, none⟩ (.slice (some ⟨g, 0, none⟩) (l.length + 1) rc) := ⟨_, rfl⟩
  have hO0 := one_set16 hO' (.slice (some ⟨g, 0, none⟩) (l.length + 1) rc)
  rw [← hF0] at kS hO0
  have kT : Kp (fun k => vO.ownBlock = some k ∨ k = bO) V F0 := (k1.mono (fun k _ x => .inl x)).trans kS (fun k _ x => .inr x)
  have hpF : F0.heap[bw]? = some (.cells #[.int .i64 s.pos, vS, vD, vX, .int .i64 s.p] 83 (0, 0)) := kT.heap h.pr.hp (fun x => by
    rcases x with x | x
    · exact (h.ap bw (.inl rfl)).2.2 (.inl x)
    · exact (h.ap bw (.inl rfl)).1 x)
  have hgn : ∀ k, (Pf17 bw vS vD vX k ∨ k = bO ∨ k = bn ∨ (∃ p ∈ l, Ft17 p.1 k) ∨ E k ∨ R k) → k ≠ g := by
    intro k x e
    subst e
    rcases at1 with y | y
    · rcases x with x | x | x | ⟨p, hp, x⟩ | x | x
      · exact (h.ap k x).2.2 (.inl y)
      · exact (h.aO k (.inl y)).1 x
      · exact (h.aO k (.inl y)).2 x
      · exact h.wl.apO p hp k x y
      · exact (h.nf k (.inr (.inl (.inl y)))).1 x
      · exact (h.nf k (.inr (.inl (.inl y)))).2 x
    · rcases x with x | x | x | ⟨p, hp, x⟩ | x | x
      · have := hlt k (.inl x); omega
      · have := hlt k (.inr (.inr (.inl x))); omega
      · have := hlt k (.inr (.inr (.inr x))); omega
      · have := hlt k (.inr (.inl (.inr ⟨p, hp, x⟩))); omega
      · have := hEl k x; omega
      · have := hRl k x; omega
  have gb : w.heap.size ≤ g := by
    rcases at1 with y | y
    · exact (h.wl.lt g (.inl y)).1
    · exact Nat.le_trans h.bl.size y
  have wnew : Wn17 w.heap.size (vS, vD, vX) s F0 := h.pr.win.kp kT (fun k x y => by
    have x' : Pf17 bw vS vD vX k := .inr x
    rcases y with y | y
    · exact (h.ap k x').2.2 (.inl y)
    · exact (h.ap k x').1 y)
  have hWl : Wl17 w.heap.size (.slice (some ⟨g, 0, none⟩) (l.length + 1) rc) (l ++ [((vS, vD, vX), s)]) F0 := by
    refine ⟨?_, ?_, ?_, ?_⟩
    · rw [fw17_app, show (l ++ [((vS, vD, vX), s)]).length = l.length + 1 by simp]
      exact own_kp16 ow kS (fun x e y => by
        have e : some g = some x := e
        injection e with e
        exact hgn bO (.inr (.inl rfl)) (by have y : x = bO := y; omega))
    · intro p hp
      rcases List.mem_append.1 hp with hp | hp
      · exact (h.wl.win p hp).kp kT (fun k x y => by
          rcases y with y | y
          · exact h.wl.apO p hp k x y
          · exact (h.aO k (.inr ⟨p, hp, x⟩)).1 y)
      · rw [List.mem_singleton] at hp
        subst hp
        exact wnew
    · intro p hp k x e
      have e : some g = some k := e
      injection e with e
      rcases List.mem_append.1 hp with hp | hp
      · exact hgn k (.inr (.inr (.inr (.inl ⟨p, hp, x⟩)))) e.symm
      · rw [List.mem_singleton] at hp
        subst hp
        exact hgn k (.inl (.inr x)) e.symm
    · rw [List.pairwise_append]
      refine ⟨h.wl.ap, List.pairwise_singleton _ _, ?_⟩
      intro p hp q hq k x y
      rw [List.mem_singleton] at hq
      subst hq
      exact (h.ap k (.inr y)).2.2 (.inr ⟨p, hp, x⟩)
  have blF : Below w.heap.size w F0 := h.bl.trans (kT.below (fun k x => by
    rcases x with x | x
    · exact (h.wl.lt k (.inl x)).1
    · omega) h.bl.size)
  refine ⟨g, rc, w', hr, hO', by rw [← hF0]; exact hpF, by rw [← hF0]; exact hWl, by rw [← hF0]; exact blF, ?_⟩
  rw [← hF0]
  intro F hF hbF
  have hne : bw ≠ bO := (h.ap bw (.inl rfl)).1
  have hnn : bw ≠ bn := (h.ap bw (.inl rfl)).2.1
  have lf : ∀ k, Lf17 (.slice (some ⟨g, 0, none⟩) (l.length + 1) rc) (l ++ [((vS, vD, vX), s)]) k → k = g ∨ (∃ p ∈ l, Ft17 p.1 k) ∨ Ft17 (vS, vD, vX) k := by
    rintro k (x | ⟨p, hp, x⟩)
    · have x : some g = some k := x
      injection x with x
      exact .inl x.symm
    · rcases List.mem_append.1 hp with hp | hp
      · exact .inr (.inl ⟨p, hp, x⟩)
      · rw [List.mem_singleton] at hp
        subst hp
        exact .inr (.inr x)
  have nbw : ∀ k, Lf17 (.slice (some ⟨g, 0, none⟩) (l.length + 1) rc) (l ++ [((vS, vD, vX), s)]) k → k ≠ bw := by
    intro k x e
    subst e
    rcases lf k x with y | ⟨p, hp, y⟩ | y
    · exact hgn k (.inl (.inl rfl)) y
    · exact (h.ap k (.inl rfl)).2.2 (.inr ⟨p, hp, y⟩)
    · rcases y with y | y | y
      · exact h.pr.nS y
      · exact h.pr.nD y
      · exact h.pr.nX y
  have pf0 : ∀ k, Pf17 bw (.slice none 0 0) (.slice none 0 0) (.slice none 0 0) k → k = bw := by
    rintro k (x | x | x | x)
    · exact x
    · simp [Value.ownBlock] at x
    · simp [Value.ownBlock] at x
    · simp [Value.ownBlock] at x
  have own0 : ∀ {sz : Nat} {e : TypeId}, F.ownsRow w.heap.size e sz (.slice none 0 0) 0 [] := ⟨by simp, .inl ⟨rfl, rfl⟩⟩
  refine ⟨⟨⟨hbF, own0, own0, own0, by simp [Value.ownBlock], by simp [Value.ownBlock], by simp [Value.ownBlock], by simp [Value.ownBlock], by simp [Value.ownBlock], by simp [Value.ownBlock], h.pr.bb⟩, hF.heap hO0 (fun e => hne e.symm), hF.heap (kT.heap h.hn (fun x => by
      rcases x with x | x
      · exact (h.aO bn (.inl x)).2 rfl
      · exact h.on x.symm)) (fun e => hnn e.symm), hWl.kp hF (fun k x y => nbw k x y), ?_, ?_, ?_, blF.trans (hF.below (fun k x => by have x : k = bw := x; rw [x]; exact h.pr.bb) blF.size), h.wO, h.on⟩, ?_⟩
  · intro k x
    have := pf0 k x
    subst this
    exact ⟨hne, hnn, fun y => nbw k y rfl⟩
  · intro k x
    rcases lf k x with y | ⟨p, hp, y⟩ | y
    · exact ⟨fun e => hgn bO (.inr (.inl rfl)) (by omega), fun e => hgn bn (.inr (.inr (.inl rfl))) (by omega)⟩
    · exact h.aO k (.inr ⟨p, hp, y⟩)
    · exact ⟨(h.ap k (.inr y)).1, (h.ap k (.inr y)).2.1⟩
  · rintro k (x | x | x)
    · have := pf0 k x
      subst this
      exact h.nf k (.inl (.inl rfl))
    · rcases lf k x with y | ⟨p, hp, y⟩ | y
      · exact ⟨fun e => hgn k (.inr (.inr (.inr (.inr (.inl e))))) y, fun e => hgn k (.inr (.inr (.inr (.inr (.inr e))))) y⟩
      · exact h.nf k (.inr (.inl (.inr ⟨p, hp, y⟩)))
      · exact h.nf k (.inl (.inr y))
    · exact h.nf k (.inr (.inr x))
  · have kTF : Kp (fun k => vO.ownBlock = some k ∨ k = bO ∨ k = bw) V F := (kT.mono (fun k _ x => by rcases x with x | x; exact .inl x; exact .inr (.inl x))).trans hF (fun k _ x => .inr (.inr x))
    refine Kr16.of_kp kTF ?_
    rintro k (x | x) (y | y | y)
    · exact (h.nf k (.inr (.inl (.inl y)))).1 x
    · exact (h.nf k (.inr (.inr y))).1 x
    · exact (h.nf k (.inl (.inl y))).1 x
    · exact (h.nf k (.inr (.inl (.inl y)))).2 x
    · exact (h.nf k (.inr (.inr y))).2 x
    · exact (h.nf k (.inl (.inl y))).2 x
/-- Between two rounds. -/
structure Ci17 (w : World) (R : Nat → Prop) (bO bw bn n : Nat) (L : List Wy17) (i : Nat) (E : Nat → Prop) (vO vS vD vX : Value) (l : List Wp17) (s : Pt17) (V : World) : Prop where
  st : cf17 n (L.take i) = (l.map (·.2), s)
  bd : Bd17 s
  ln : s.len < n
  ll : l.length ≤ i
  m : Cm17 w R bO bw bn n E vO vS vD vX l s V
end Go.Proofs.Ytodioefbfchckaa

namespace Go.Proofs.Ytodioefbfchckaa
open Go.RowKit Go.Shelf
set_option linter.unusedVariables false
set_option maxRecDepth 100000 in
theorem pcp17 (a : Option Addr) (n cap : Nat) (D : List Int) (w : World) (hs : Seg w a D) (hn : Hid (D.length = n)) (hl : n ≤ 140737488351232) (hnil : a = none → cap = 0) :
    Calls Try.prog 34 #[.slice a n cap] w (CpQ17 w D) := by
  obtain ⟨i0, hi, hz0, hz1, hz2⟩ := info_parts info_u16
  obtain ⟨wA, hwA⟩ : ∃ wA, wA = w.alloc (.cells #[] 5) := ⟨_, rfl⟩
  have cA : Cb16 w #[] 5 wA := by rw [hwA]; exact cb16 _ _ _
  have own : wA.ownsRow w.heap.size 5 1 (.slice (some ⟨w.heap.size, 0, none⟩) 0 0) 0 [] := ⟨rfl, .inr ⟨w.heap.size, 0, #[], rfl, Nat.le_refl _, cA.cl, Nat.le_refl _, by unfold maxLen; omega, rfl, rfl⟩⟩
  have sA := hs.old cA.bl
  have HB : Hid (Below w.heap.size w wA) := cA.bl
  have HBZ : Hid (w.heap.size ≤ wA.heap.size) := cA.bl.size
  have hlen : D.length ≤ 140737488351232 := by rw [hn.out]; exact hl
  rw [hwA] at own sA HB HBZ
  have hn' := hn.out
  subst hn'
  clear hwA cA
  go_enter Try.func34, Try.ntmps34
  go_wp2_with (first | (at_builtin; refine wpList_append_seg rfl (.tmp 3) (.tmp 4) 23 rfl w.heap.size 5 i0 (.int .u8 0) 1 Try.underlying23 hi hz0 hz1 hz2 rfl own sA hnil rfl rfl (by omega) (by omega) HBZ.out ?_; intro v2 w2 own2 x2 hb2))
  go_ret
  rw [Nat.zero_add, List.nil_append] at own2
  exact ⟨v2, rfl, own2, HB.out.trans hb2⟩
theorem flat17_at : ∀ (l : List St16) (i : Nat) (t : St16), l[i]? = some t → (flat16 l)[i * 3]? = some (.int .i64 t.1) ∧ (flat16 l)[i * 3 + 1]? = some (.int .i64 t.2.1) ∧ (flat16 l)[i * 3 + 2]? = some (.int .i64 t.2.2)
  | [], i, t, h => by simp at h
  | x :: l, 0, t, h => by
    have : x = t := by simpa using h
    subst this
    simp [flat16]
  | x :: l, i + 1, t, h => by
    have ih := flat17_at l i t (by simpa using h)
    have e : flat16 (x :: l) = [.int .i64 x.1, .int .i64 x.2.1, .int .i64 x.2.2] ++ flat16 l := by simp [flat16]
    rw [e]
    have e1 : (i + 1) * 3 = i * 3 + 3 := by omega
    rw [e1, show i * 3 + 3 + 1 = i * 3 + 1 + 3 by omega, show i * 3 + 3 + 2 = i * 3 + 2 + 3 by omega]
    simpa using ih
theorem own_segS17 {w : World} {base n cap : Nat} {e : TypeId} {a : Option Addr} {l : List St16} (h : w.ownsRow base e 3 (.slice a n cap) n (flat16 l)) (hl : l.length = n) (hf : ∀ t ∈ l, Fit16 t) : SegS w a l := by
  refine ⟨fun i hi => ?_, hf⟩
  rcases h.2 with ⟨_, h0⟩ | ⟨g, cp, cur, hv, _⟩
  · omega
  simp only [Value.slice.injEq] at hv
  obtain ⟨rfl, _, rfl⟩ := hv
  have hc : ∀ j u, (flat16 l)[j]? = some u → w.cell? ⟨g, j, none⟩ = some u := by
    intro j u hu
    have := h.cells (g := g) rfl j u hu
    have hadd : (⟨g, 0, none⟩ : Addr).add j = ⟨g, j, none⟩ := by unfold Addr.add; split <;> simp_all
    rwa [hadd] at this
  have hg : l[i]? = some (l.getD i z16) := by simp [List.getD, hi]
  obtain ⟨q0, q1, q2⟩ := flat17_at l i _ hg
  exact ⟨g, 0, rfl, by rw [Nat.zero_add]; exact hc _ _ q0, by rw [Nat.zero_add]; exact hc _ _ q1, by rw [Nat.zero_add]; exact hc _ _ q2⟩
theorem own_base17 {w : World} {base base' n sz : Nat} {e : TypeId} {v : Value} {xs : List Value} (h : w.ownsRow base e sz v n xs) (hb : base' ≤ base) : w.ownsRow base' e sz v n xs := by
  refine ⟨h.1, ?_⟩
  rcases h.2 with h2 | ⟨g, cap, cur, hv, hg, r⟩
  · exact Or.inl h2
  · exact Or.inr ⟨g, cap, cur, hv, by omega, r⟩
def pt17 (S : List St16) (D X : List Int) : Pt17 := ⟨S, D, X, 0, 0⟩
def FaQ17 (w : World) (S : List St16) (D X : List Int) (e : Ending) (w' : World) : Prop :=
  ∃ v1 v2 v3, e = .returned (.agg #[v1, v2, v3]) ∧ Wn17 w.heap.size (v1, v2, v3) (pt17 S D X) w' ∧ Below w.heap.size w w'
def FwQ17 (w : World) (pos : Int) (S : List St16) (D X : List Int) (e : Ending) (w' : World) : Prop :=
  ∃ v1 v2 v3, e = .returned (.agg #[.int .i64 pos, v1, v2, v3]) ∧ Wn17 w.heap.size (v1, v2, v3) (pt17 S D X) w' ∧ Below w.heap.size w w'
/-- The three rows, one behind the other. -/
theorem wn17_of {w A B C : World} {S : List St16} {D X : List Int} {v1 v2 v3 : Value} (b0 : Below w.heap.size w A) (o1 : B.ownsRow A.heap.size 98 3 v1 S.length (flat16 S)) (b1 : Below A.heap.size A B) {B2 : World} (b2 : Below B.heap.size B B2) (o2 : B2.ownsRow B.heap.size 5 1 v2 D.length (D.map (Value.int .u8))) (b3 : Below B2.heap.size B2 C) (o3 : C.ownsRow B2.heap.size 5 1 v3 X.length (X.map (Value.int .u8))) : Wn17 w.heap.size (v1, v2, v3) (pt17 S D X) C := by
  have z0 := b0.size
  have z1 := b1.size
  have z2 := b2.size
  have z3 := b3.size
  have k13 : Below B.heap.size B C := b2.trans (b3.mono z2)
  refine ⟨own_base17 (own_kp16 o1 (Kp.of_below (S := fun _ => False) k13) (fun _ _ x => x)) z0, own_base17 (own_kp o2 (Kp.of_below (S := fun _ => False) b3) (fun _ _ x => x)) (by omega), own_base17 o3 (by omega), ?_, ?_, ?_⟩
  · intro g e1 e2
    have := (o1.lt g e1).2
    have := (o2.lt g e2).1
    omega
  · intro g e1 e2
    have := (o1.lt g e1).2
    have := (o3.lt g e2).1
    omega
  · intro g e1 e2
    have := (o2.lt g e1).2
    have := (o3.lt g e2).1
    omega
theorem four_free {w : World} {b i : Nat} {x0 x1 x2 x3 : Value} {t : TypeId} (h : w.heap[b]? = some (.cells #[x0, x1, x2, x3] t (0, 0))) : w.frozen? ⟨b, i, none⟩ = false := by simp [World.frozen?, h]
theorem four_set {w : World} {b : Nat} {x0 x1 x2 x3 : Value} {t : TypeId} (h : w.heap[b]? = some (.cells #[x0, x1, x2, x3] t (0, 0))) (u0 u1 u2 u3 : Value) : ((((w.setCell ⟨b, 0, none⟩ u0).setCell ⟨b, 1, none⟩ u1).setCell ⟨b, 2, none⟩ u2).setCell ⟨b, 3, none⟩ u3).heap[b]? = some (.cells #[u0, u1, u2, u3] t (0, 0)) := by
  simp [World.setCell, Array.getElem?_modify, h]
set_option maxRecDepth 100000 in
set_option maxHeartbeats 8000000 in
theorem pface17 {sa : Option Addr} {n sc : Nat} {da : Option Addr} {m dc : Nat} {xa : Option Addr} {k xc : Nat} {S : List St16} {D X : List Int} (w : World) (h : Ed17 w sa n S da m D xa k X) (nm : da = none → dc = 0) (nk : xa = none → xc = 0) :
    Calls Try.prog 8 #[ev16 sa n sc da m dc xa k xc] w (FaQ17 w S D X) := by
  have hb := two_boxes16 w #[.slice sa n sc, .slice da m dc, .slice xa k xc] 25 #[.slice none 0 0, .slice none 0 0, .slice none 0 0] 28
  obtain ⟨w2, hw2⟩ : ∃ w2, w2 = (w.alloc (.cells #[.slice sa n sc, .slice da m dc, .slice xa k xc] 25)).alloc (.cells #[.slice none 0 0, .slice none 0 0, .slice none 0 0] 28) := ⟨_, rfl⟩
  simp only [← hw2] at hb
  obtain ⟨bl, z2, qE, qR⟩ := hb
  obtain ⟨bE, hbE⟩ : ∃ bE, bE = w.heap.size := ⟨_, rfl⟩
  obtain ⟨bR, hbR⟩ : ∃ bR, bR = w.heap.size + 1 := ⟨_, rfl⟩
  rw [← hbE] at qE
  rw [← hbR] at qR
  have HW2 : Hid ((w.alloc (.cells #[.slice sa n sc, .slice da m dc, .slice xa k xc] 25)).alloc (.cells #[.slice none 0 0, .slice none 0 0, .slice none 0 0] 28) = w2) := hw2.symm
  have HBE : Hid (w.heap.size = bE) := hbE.symm
  have HBR : Hid (w.heap.size + 1 = bR) := hbR.symm
  have HCE : Hid (∀ W, Below w2.heap.size w2 W → W.cell? ⟨bE, 0, none⟩ = some (.slice sa n sc) ∧ W.cell? ⟨bE, 1, none⟩ = some (.slice da m dc) ∧ W.cell? ⟨bE, 2, none⟩ = some (.slice xa k xc)) := fun W hW => by
    have := (hW.block bE (by omega)).trans qE
    exact ⟨three_cell0 this, three_cell1 this, three_cell2 this⟩
  have HQR : Hid (∀ W, Below w2.heap.size w2 W → W.heap[bR]? = some (.cells #[.slice none 0 0, .slice none 0 0, .slice none 0 0] 28 (0, 0))) := fun W hW => (hW.block bR (by omega)).trans qR
  have HBL : Hid (Below w.heap.size w w2) := bl
  have hn : Hid (S.length = n) := h.hn
  have hm : Hid (D.length = m) := h.hm
  have hk : Hid (X.length = k) := h.hk
  have HC1 : Hid (∀ W, Below w2.heap.size w2 W → Calls Try.prog 19 #[.slice sa n sc] W (FsQ17 W S)) := fun W hW => pfs17 sa n sc S W (h.ss.old (bl.trans (hW.mono bl.size))) hn h.ln
  have HC2 : Hid (∀ W, Below w2.heap.size w2 W → Calls Try.prog 34 #[.slice da m dc] W (CpQ17 W D)) := fun W hW => pcp17 da m dc D W (h.sd.old (bl.trans (hW.mono bl.size))) hm h.lm nm
  have HC3 : Hid (∀ W, Below w2.heap.size w2 W → Calls Try.prog 34 #[.slice xa k xc] W (CpQ17 W X)) := fun W hW => pcp17 xa k xc X W (h.sx.old (bl.trans (hW.mono bl.size))) hk h.lk nk
  have HRW : Hid (w.heap.size ≤ bR ∧ bR < w2.heap.size) := ⟨by omega, by omega⟩
  clear h hw2 hbE hbR qE qR bl z2
  unfold ev16
  go_enter Try.func8, Try.ntmps8
  go_wp2
  rw [HW2.out, HBR.out, HBE.out]
  have g0 := HCE.out w2.drew ((Below.refl _ _).drew)
  refine plain_region16 (fun V => V.cell? ⟨bE, 0, none⟩ = some (.slice sa n sc) ∧ V.cell? ⟨bE, 1, none⟩ = some (.slice da m dc) ∧ V.cell? ⟨bE, 2, none⟩ = some (.slice xa k xc)) 10 (by kernel_rfl) g0 (fun hHeld => ?_)
  refine wpAnyK_take (i := 0) (v := .pointer (some ⟨bE, 0, none⟩)) rfl (by kernel_rfl) (by kernel_rfl) (by kernel_rfl) (by kernel_rfl) (fun _ _ _ h => h) (Or.inl ⟨by rfl, fun w hSw => by go_simp⟩) hHeld ?_
  simp only [List.getElem_toArray, List.getElem_cons_zero, Act.put, List.setIfInBounds_toArray, List.set_cons_zero, List.set_cons_succ]
  refine wpAnyK_take (i := 1) (v := .slice sa n sc) rfl (by kernel_rfl) (by kernel_rfl) (by kernel_rfl) (by kernel_rfl) (fun _ _ _ h => h) (Or.inl ⟨by rfl, fun w hSw => by go_simp⟩) hHeld ?_
  simp only [List.getElem_toArray, List.getElem_cons_zero, List.getElem_cons_succ, Act.put, List.setIfInBounds_toArray, List.set_cons_zero, List.set_cons_succ]
  refine wpAnyK_take (i := 3) (v := .pointer (some ⟨bE, 1, none⟩)) rfl (by kernel_rfl) (by kernel_rfl) (by kernel_rfl) (by kernel_rfl) (fun _ _ _ h => h) (Or.inl ⟨by rfl, fun w hSw => by go_simp⟩) hHeld ?_
  simp only [List.getElem_toArray, List.getElem_cons_zero, List.getElem_cons_succ, Act.put, List.setIfInBounds_toArray, List.set_cons_zero, List.set_cons_succ]
  refine wpAnyK_take (i := 4) (v := .slice da m dc) rfl (by kernel_rfl) (by kernel_rfl) (by kernel_rfl) (by kernel_rfl) (fun _ _ _ h => h) (Or.inl ⟨by rfl, fun w hSw => by go_simp⟩) hHeld ?_
  simp only [List.getElem_toArray, List.getElem_cons_zero, List.getElem_cons_succ, Act.put, List.setIfInBounds_toArray, List.set_cons_zero, List.set_cons_succ]
  refine wpAnyK_take (i := 6) (v := .pointer (some ⟨bE, 2, none⟩)) rfl (by kernel_rfl) (by kernel_rfl) (by kernel_rfl) (by kernel_rfl) (fun _ _ _ h => h) (Or.inl ⟨by rfl, fun w hSw => by go_simp⟩) hHeld ?_
  simp only [List.getElem_toArray, List.getElem_cons_zero, List.getElem_cons_succ, Act.put, List.setIfInBounds_toArray, List.set_cons_zero, List.set_cons_succ]
  refine wpAnyK_take (i := 7) (v := .slice xa k xc) rfl (by kernel_rfl) (by kernel_rfl) (by kernel_rfl) (by kernel_rfl) (fun _ _ _ h => h) (Or.inl ⟨by rfl, fun w hSw => by go_simp⟩) hHeld ?_
  simp only [List.getElem_toArray, List.getElem_cons_zero, List.getElem_cons_succ, Act.put, List.setIfInBounds_toArray, List.set_cons_zero, List.set_cons_succ]
  have bd : Below w2.heap.size w2 w2.drew := (Below.refl _ _).drew
  refine wpAnyK_one (i := 2) (by kernel_rfl) rfl (fun K hK => ?_)
  (try simp only [List.getElem_toArray, List.getElem_cons_zero, List.getElem_cons_succ, Act.put, List.setIfInBounds_toArray, List.set_cons_zero, List.set_cons_succ])
  go_simp
  refine (HC1.out w2.drew bd).mono ?_
  rintro e3 w3 ⟨v1, rfl, o1, b3⟩
  have b3' : Below w2.heap.size w2 w3 := bd.trans (b3.mono (Nat.le_refl _))
  refine hK.out _ _ (fun _ => HCE.out w3 b3') (fun hHeld0 => ?_)
  have hHeld := hHeld0 (by decide)
  clear hHeld0 hK K
  (try simp only [List.getElem_toArray, List.getElem_cons_zero, List.getElem_cons_succ, Act.put, List.setIfInBounds_toArray, List.set_cons_zero, List.set_cons_succ])
  refine wpAnyK_one (i := 5) (by kernel_rfl) rfl (fun K hK => ?_)
  (try simp only [List.getElem_toArray, List.getElem_cons_zero, List.getElem_cons_succ, Act.put, List.setIfInBounds_toArray, List.set_cons_zero, List.set_cons_succ])
  go_simp
  refine (HC2.out w3 b3').mono ?_
  rintro e4 w4 ⟨v2, rfl, o2, b4⟩
  have b4' : Below w2.heap.size w2 w4 := b3'.trans (b4.mono b3'.size)
  refine hK.out _ _ (fun _ => HCE.out w4 b4') (fun hHeld0 => ?_)
  have hHeld := hHeld0 (by decide)
  clear hHeld0 hK K
  (try simp only [List.getElem_toArray, List.getElem_cons_zero, List.getElem_cons_succ, Act.put, List.setIfInBounds_toArray, List.set_cons_zero, List.set_cons_succ])
  refine wpAnyK_one (i := 8) (by kernel_rfl) rfl (fun K hK => ?_)
  (try simp only [List.getElem_toArray, List.getElem_cons_zero, List.getElem_cons_succ, Act.put, List.setIfInBounds_toArray, List.set_cons_zero, List.set_cons_succ])
  go_simp
  refine (HC3.out w4 b4').mono ?_
  rintro e5 w5 ⟨v3, rfl, o3, b5⟩
  have b5' : Below w2.heap.size w2 w5 := b4'.trans (b5.mono b4'.size)
  obtain ⟨p1, l1, c1, eq1⟩ := own_sl17' o1
  obtain ⟨p2, l2, c2, eq2⟩ := own_sl17' o2
  obtain ⟨p3, l3, c3, eq3⟩ := own_sl17' o3
  have hbl := HBL.out
  have HWN : Hid (Wn17 w.heap.size (v1, v2, v3) (pt17 S D X) w5) := wn17_of hbl.drew o1 b3 b4 o2 b5 o3
  have qR5 := HQR.out w5 b5'
  have r0 := three_cell0 qR5
  have r1 := three_cell1 qR5
  have r2 := three_cell2 qR5
  have f0 := three_free qR5 0
  have f1 := three_free qR5 1
  have f2 := three_free qR5 2
  have HQ5 : Hid (w5.heap[bR]? = some (.cells #[.slice none 0 0, .slice none 0 0, .slice none 0 0] 28 (0, 0))) := qR5
  have HB5 : Hid (Below w.heap.size w w5) := hbl.trans (b5'.mono hbl.size)
  have HLT : Hid (∀ j, Ft17 (v1, v2, v3) j → j ≠ bR) := fun j x => by
    have h1 := HRW.out
    have z3 := b3.size
    have z4 := b4.size
    have z2 : w2.drew.heap.size = w2.heap.size := rfl
    rcases x with x | x | x
    · have := (o1.lt j x).1; omega
    · have := (o2.lt j x).1; omega
    · have := (o3.lt j x).1; omega
  clear o1 o2 o3 b3 b4 b5 qR5 hbl
  subst eq1; subst eq2; subst eq3
  refine hK.out _ _ (fun _ => HCE.out w5 b5') (fun hHeld0 => ?_)
  have hHeld := hHeld0 (by decide)
  clear hHeld0 hK K
  (try simp only [List.getElem_toArray, List.getElem_cons_zero, List.getElem_cons_succ, Act.put, List.setIfInBounds_toArray, List.set_cons_zero, List.set_cons_succ])
  refine wpAnyK_one (i := 9) (by kernel_rfl) rfl (fun K hK => ?_)
  (try simp only [List.getElem_toArray, List.getElem_cons_zero, List.getElem_cons_succ, Act.put, List.setIfInBounds_toArray, List.set_cons_zero, List.set_cons_succ])
  go_simp
  refine hK.out _ _ (fun _ => HCE.out w5 b5') (fun hHeld0 => ?_)
  have hHeld := hHeld0 (by decide)
  clear hHeld0 hK K
  (try simp only [List.getElem_toArray, List.getElem_cons_zero, List.getElem_cons_succ, Act.put, List.setIfInBounds_toArray, List.set_cons_zero, List.set_cons_succ])
  refine wpAnyK_one (i := 10) (by kernel_rfl) rfl (fun K hK => ?_)
  simp only [List.getElem_toArray, List.getElem_cons_zero, List.getElem_cons_succ, Act.put]
  go_simp
  refine hK.out _ _ (fun h => absurd rfl h) (fun _ => ?_)
  clear hK K
  refine wpAnyK_done (by kernel_rfl) ?_ _
  go_wp2
  obtain ⟨F, hF⟩ : ∃ F, F = ((w5.setCell ⟨bR, 0, none⟩ (.slice p1 l1 c1)).setCell ⟨bR, 1, none⟩ (.slice p2 l2 c2)).setCell ⟨bR, 2, none⟩ (.slice p3 l3 c3) := ⟨_, rfl⟩
  have kF : Kp (fun j => j = bR) w5 F := by
    rw [hF]
    exact ((Kp.set (S := fun j => j = bR) rfl _).trans (Kp.set (S := fun j => j = bR) rfl _) (fun _ _ x => x)).trans (Kp.set (S := fun j => j = bR) rfl _) (fun _ _ x => x)
  have qF : F.heap[bR]? = some (.cells #[.slice p1 l1 c1, .slice p2 l2 c2, .slice p3 l3 c3] 28 (0, 0)) := by rw [hF]; exact three_set2 (three_set1 (three_set0 HQ5.out _) _) _
  rw [← hF]
  refine bodyPost_ret (v := .agg #[.slice p1 l1 c1, .slice p2 l2 c2, .slice p3 l3 c3]) (results_cell_row (fn := Try.f8) (p := 2) (ty := 28) rfl _ _ bR _ _ _ _ rfl qF Try.underlying28 rfl (by kernel_rfl)) rfl ?_
  exact ⟨_, _, _, rfl, HWN.out.kp kF (fun j x y => HLT.out j x y), HB5.out.trans (kF.below (fun j x => by have x : j = bR := x; have := HRW.out; omega) HB5.out.size)⟩
end Go.Proofs.Ytodioefbfchckaa
