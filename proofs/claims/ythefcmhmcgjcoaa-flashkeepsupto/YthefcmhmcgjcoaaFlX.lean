
import Derived.Test.YthefcmhmcgjcoaaFlWp
import Derived.Lib.SliceRun
import Derived.Deep.OwnRows
namespace Go.Proofs.Ythefcmhmcgjcoaa
open Go.RowKit Go.Shelf Go.Deep
set_option linter.unusedVariables false
set_option linter.unusedSimpArgs false
set_option maxRecDepth 1000000

/-! FlashKeeps: all pages' bytes. -/
def rl21 (r : Nat → Value) : List Value := (List.range 12288).map r
theorem rl21_len (r : Nat → Value) : (rl21 r).length = 12288 := by unfold rl21; rw [List.length_map, List.length_range]
theorem rl21_get (r : Nat → Value) (i : Nat) (hi : i < 12288) : (rl21 r)[i]? = some (r i) := by
  unfold rl21
  rw [List.getElem?_map, List.getElem?_range hi]
  rfl
theorem rl21_set (r : Nat → Value) (i : Nat) (v : Value) : (rl21 r).set i v = rl21 (fun j => if j = i then v else r j) := by
  apply List.ext_getElem?
  intro j
  by_cases hj : j < 12288
  · rw [rl21_get _ j hj, List.getElem?_set, rl21_len]
    by_cases e : i = j
    · subst e; simp [hj]
    · rw [if_neg e, rl21_get _ j hj, if_neg (fun h => e h.symm)]
  · rw [List.getElem?_eq_none (by rw [List.length_set, rl21_len]; omega), List.getElem?_eq_none (by rw [rl21_len]; omega)]
theorem rl21_nil : (List.replicate 12288 (Value.slice none 0 0)) = rl21 (fun _ => .slice none 0 0) := by
  have h : ∀ n : Nat, List.replicate n (Value.slice none 0 0) = (List.range n).map fun _ => Value.slice none 0 0 := by
    intro n
    apply List.ext_getElem?
    intro i
    by_cases hi : i < n
    · simp [List.getElem?_replicate, hi]
    · simp [List.getElem?_replicate, hi]
  exact h 12288
theorem cell_rl21 {w : World} {g : Nat} {r : Nat → Value} {t : TypeId} (h : w.heap[g]? = some (.cells (rl21 r).toArray t (0, 0))) (i : Nat) (hi : i < 12288) : w.cell? ⟨g, i, none⟩ = some (r i) ∧ w.frozen? ⟨g, i, none⟩ = false := by
  refine ⟨?_, by simp [World.frozen?, h]⟩
  simp only [World.cell?, h]
  simpa using rl21_get r i hi
theorem set_rl21 {w : World} {g : Nat} {r : Nat → Value} {t : TypeId} (h : w.heap[g]? = some (.cells (rl21 r).toArray t (0, 0))) (i : Nat) (v : Value) : (w.setCell ⟨g, i, none⟩ v).heap[g]? = some (.cells (rl21 (fun j => if j = i then v else r j)).toArray t (0, 0)) := by
  rw [← rl21_set]
  simp [World.setCell, Array.getElem?_modify, h]
/-- The bytes of a page, by its number in all areas. -/
def pB21 (S : Fs21) (i : Nat) : List Int := rb21 S ((i / 4096 : Nat) : Int) (i % 4096 * S.pg) S.pg
def in21 (ps i : Nat) : Prop := ((i % 4096 : Nat) : Int) < pn21 ps ((i / 4096 : Nat) : Int)
instance (ps i : Nat) : Decidable (in21 ps i) := inferInstanceAs (Decidable (_ < _))
/-- What stands at a place once t places are laid. -/
def al21 (S : Fs21) (t i : Nat) : List Int := if i < t ∧ in21 S.ps i then pB21 S i else []
structure Ar21 (N : Nat) (S : Fs21) (t : Nat) (g : Nat) (W : World) : Prop where
  row : ∃ ka : Nat → Option Addr, W.heap[g]? = some (.cells (rl21 (fun i => .slice (ka i) (al21 S t i).length (al21 S t i).length)).toArray 22 (0, 0)) ∧ (∀ i, i < 12288 → Seg W (ka i) (al21 S t i) ∧ (∀ k, ka i = some k → N ≤ k.block ∧ k.block ≠ g))
  ge : N ≤ g
theorem info_sl21 : (Try.prog.info? 22).map (fun i => (i.zero, i.size, i.bytes)) = some (some (.slice none 0 0), 1, 24) := by kernel_rfl
theorem run_mk21 (w : World) : (Instr.makeSlice 34 (.int .i64 12288) (.int .i64 12288)).run Try.prog w = .ok (.slice (some ⟨w.heap.size, 0, none⟩) 12288 12288) (w.alloc (.cells (rl21 (fun _ => .slice none 0 0)).toArray 22)) := by
  have e : madeCells #[.slice none 0 0] 12288 = (rl21 (fun _ => .slice none 0 0)).toArray := by
    apply Array.toList_inj.1
    rw [toList_madeCells_one, rl21_nil]
  rw [← e]
  exact run_make_row' 34 22 (.slice none 0 0) 24 Try.underlying34 info_sl21 rfl .i64 .i64 12288 (by omega) (by omega) w
theorem al21_zero (S : Fs21) (i : Nat) : al21 S 0 i = [] := by unfold al21; rw [if_neg (by omega)]
theorem pB21_len (S : Fs21) (i : Nat) : (pB21 S i).length = S.pg := rb21_len _ _ _ _
theorem al21_step (S : Fs21) (t i : Nat) (h : in21 S.ps t) : al21 S (t + 1) i = if i = t then pB21 S t else al21 S t i := by
  unfold al21
  by_cases e : i = t
  · subst e
    rw [if_pos rfl, if_pos ⟨by omega, h⟩]
  · rw [if_neg e]
    by_cases h1 : i < t ∧ in21 S.ps i
    · rw [if_pos h1, if_pos ⟨by omega, h1.2⟩]
    · rw [if_neg h1, if_neg (fun h2 => h1 ⟨by omega, h2.2⟩)]
theorem al21_skip (S : Fs21) (t t' : Nat) (ht : t ≤ t') (h : ∀ i, t ≤ i → i < t' → ¬ in21 S.ps i) : al21 S t = al21 S t' := by
  funext i
  unfold al21
  by_cases h1 : i < t ∧ in21 S.ps i
  · rw [if_pos h1, if_pos ⟨by omega, h1.2⟩]
  · rw [if_neg h1, if_neg (fun h2 => by
      by_cases h3 : i < t
      · exact h1 ⟨h3, h2.2⟩
      · exact h i (by omega) h2.1 h2.2)]
theorem Ar21.skip {N t t' g : Nat} {S : Fs21} {W : World} (h : Ar21 N S t g W) (ht : t ≤ t') (hi : ∀ i, t ≤ i → i < t' → ¬ in21 S.ps i) : Ar21 N S t' g W := by
  obtain ⟨⟨ka, h1, h2⟩, h3⟩ := h
  have e := al21_skip S t t' ht hi
  exact ⟨⟨ka, by rw [← e]; exact h1, fun i hh => by rw [← e]; exact h2 i hh⟩, h3⟩
theorem Ar21.old {N t g : Nat} {S : Fs21} {W W' : World} (h : Ar21 N S t g W) (hb : Below W.heap.size W W') : Ar21 N S t g W' := by
  obtain ⟨⟨ka, h1, h2⟩, h3⟩ := h
  exact ⟨⟨ka, (hb.block g (Array.getElem?_eq_some_iff.1 h1).1).trans h1, fun i hi => ⟨(h2 i hi).1.old hb, (h2 i hi).2⟩⟩, h3⟩
theorem Ar21.kp {N t g : Nat} {S : Fs21} {W W' : World} (h : Ar21 N S t g W) (hs : W.heap.size ≤ W'.heap.size) (hb : ∀ k, N ≤ k → k < W.heap.size → W'.heap[k]? = W.heap[k]?) : Ar21 N S t g W' := by
  obtain ⟨⟨ka, h1, h2⟩, h3⟩ := h
  refine ⟨⟨ka, (hb g h3 (Array.getElem?_eq_some_iff.1 h1).1).trans h1, fun i hi => ⟨?_, (h2 i hi).2⟩⟩, h3⟩
  refine (h2 i hi).1.of_cells fun b off j v hj ha hcl => ?_
  have hN := (h2 i hi).2 _ ha
  rw [World.cell?_of_block (a := ⟨b, off + j, none⟩) (hb b hN.1 (World.block_lt_of_cell? _ _ hcl))]
  exact hcl
/-- One place more. -/
theorem Ar21.put {N t g kk : Nat} {S : Fs21} {W W' W2 : World} (h : Ar21 N S t g W) (hb : Below W.heap.size W W') (hr : Rw21 W' kk (pB21 S t)) (hk : N ≤ kk) (hkg : kk ≠ g) (hin : in21 S.ps t) (ht : t < 12288) (hbd : ∀ y ∈ pB21 S t, 0 ≤ y ∧ y ≤ 255)
    (h2 : W2 = W'.setCell ⟨g, t, none⟩ (.slice (some ⟨kk, 0, none⟩) S.pg S.pg)) : Ar21 N S (t + 1) g W2 := by
  obtain ⟨⟨ka, q1, q2⟩, q3⟩ := h.old hb
  have hks : Kp (fun k => k = g) W' W2 := by rw [h2]; exact Kp.set (S := fun k => k = g) rfl _
  have hset := set_rl21 q1 t (.slice (some ⟨kk, 0, none⟩) S.pg S.pg)
  refine ⟨⟨fun i => if i = t then some ⟨kk, 0, none⟩ else ka i, ?_, fun i hi => ?_⟩, q3⟩
  · rw [h2, hset]
    have e : (fun j => if j = t then Value.slice (some ⟨kk, 0, none⟩) S.pg S.pg else Value.slice (ka j) (al21 S t j).length (al21 S t j).length) = fun i => Value.slice (if i = t then some ⟨kk, 0, none⟩ else ka i) (al21 S (t + 1) i).length (al21 S (t + 1) i).length := by
      funext i
      rw [al21_step S t i hin]
      by_cases e : i = t
      · subst e; simp [pB21_len]
      · simp [e]
    rw [e]
  · show Seg W2 (if i = t then some ⟨kk, 0, none⟩ else ka i) _ ∧ ∀ k, (if i = t then some ⟨kk, 0, none⟩ else ka i) = some k → _
    rw [al21_step S t i hin]
    by_cases e : i = t
    · subst e
      rw [if_pos rfl, if_pos rfl]
      obtain ⟨X, hX⟩ := hr
      refine ⟨?_, fun k e => by cases e; exact ⟨hk, hkg⟩⟩
      refine ⟨fun j hj => ⟨kk, 0, rfl, ?_⟩, by decide, getD_bd (by decide) hbd⟩
      have hb2 := (hks.block kk (Array.getElem?_eq_some_iff.1 hX).1 (fun e => hkg e)).trans hX
      simp [World.cell?, hb2, List.getD, hj, List.getElem?_append]
    · rw [if_neg e, if_neg e]
      refine ⟨(q2 i hi).1.kp hks (fun b off ha _ => ?_), (q2 i hi).2⟩
      exact ((q2 i hi).2 _ ha).2
end Go.Proofs.Ythefcmhmcgjcoaa
