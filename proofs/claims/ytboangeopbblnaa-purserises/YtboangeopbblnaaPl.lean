import Derived.Test.YtboangeopbblnaaPk
import Derived.Test.YtboangeopbblnaaProg
import Derived.WalkKit
import Derived.WalkSpells
import Derived.Laws.BytesArg
import Derived.Deep.OwnRows
import Derived.Laws.CopyOwn
import Derived.Lib.SliceRun
namespace Go.Proofs.Ytboangeopbblnaa
open Go.RowKit
set_option linter.unusedVariables false
/-- A call of a script. -/
structure CallD where
  K : Int
  ba : Option Addr
  p : List Int
  bc : Nat
  D : Int
  N : Int
/-- Calls that came in. -/
structure SegC (w : World) (a : Option Addr) (n : Nat) (O : Nat → CallD) : Prop where
  at_ : ∀ i, i < n → ∃ b off, a = some ⟨b, off, none⟩ ∧ w.cell? ⟨b, off + i * 4, none⟩ = some (.int .i64 (O i).K) ∧ w.cell? ⟨b, off + i * 4 + 1, none⟩ = some (.slice (O i).ba (O i).p.length (O i).bc) ∧ w.cell? ⟨b, off + i * 4 + 2, none⟩ = some (.int .i64 (O i).D) ∧ w.cell? ⟨b, off + i * 4 + 3, none⟩ = some (.int .i64 (O i).N)
  seg : ∀ i, i < n → Seg w (O i).ba (O i).p
  nil : ∀ i, i < n → (O i).ba = none → (O i).bc = 0
  cap : ∀ i, i < n → (O i).p.length ≤ (O i).bc
  bd : ∀ i, i < n → -9223372036854775808 ≤ (O i).K ∧ (O i).K ≤ 9223372036854775807 ∧ -9223372036854775808 ≤ (O i).D ∧ (O i).D ≤ 9223372036854775807 ∧ -9223372036854775808 ≤ (O i).N ∧ (O i).N ≤ 9223372036854775807
theorem SegC.old {w w' : World} {a : Option Addr} {n : Nat} {O : Nat → CallD} (h : SegC w a n O) (hb : Below w.heap.size w w') : SegC w' a n O := by
  refine ⟨fun i hi => ?_, fun i hi => (h.seg i hi).old hb, h.nil, h.cap, h.bd⟩
  obtain ⟨b, off, ha, h0, h1, h2, h3⟩ := h.at_ i hi
  have hlt := World.block_lt_of_cell? w _ h0
  exact ⟨b, off, ha, (hb.cell (p := ⟨b, off + i * 4, none⟩) hlt).trans h0, (hb.cell (p := ⟨b, off + i * 4 + 1, none⟩) hlt).trans h1, (hb.cell (p := ⟨b, off + i * 4 + 2, none⟩) hlt).trans h2, (hb.cell (p := ⟨b, off + i * 4 + 3, none⟩) hlt).trans h3⟩
end Go.Proofs.Ytboangeopbblnaa

namespace Go.Proofs.Ytboangeopbblnaa
open Go.RowKit
set_option linter.unusedVariables false
def RF (b : Nat) (v : Value) (k : Nat) : Prop := k = b ∨ v.ownBlock = some k
def Dj (P Q : Nat → Prop) : Prop := ∀ k, P k → Q k → False
theorem Dj.symm {P Q : Nat → Prop} (h : Dj P Q) : Dj Q P := fun k a b => h k b a
/-- The document's ring by its footprint. -/
def WR (w : World) (b : Nat) (F : Nat → Prop) (S : Nat) (L : List Int) : Prop := ∃ B v, F = RF b v ∧ RgR w b B S v L
variable {w w' : World} {b S : Nat} {F : Nat → Prop} {L : List Int}
theorem WR.lt (h : WR w b F S L) : ∀ k, F k → k < w.heap.size := by
  obtain ⟨B, v, rfl, h⟩ := h
  rintro k (e | e)
  · subst e; exact h.b_lt
  · exact (h.own_lt k e).2.1
theorem WR.kp {Q : Nat → Prop} (h : WR w b F S L) (hk : Kp Q w w') (hn : Dj F Q) : WR w' b F S L := by
  obtain ⟨B, v, rfl, h⟩ := h
  exact ⟨B, v, rfl, h.kp hk (fun e => hn b (.inl rfl) e) (fun k e e2 => hn k (.inr e) e2)⟩
theorem WR.old (h : WR w b F S L) (hb : Below w.heap.size w w') : WR w' b F S L := h.kp (Q := fun _ => False) (Kp.of_below hb) (fun _ _ e => e)
theorem WR.bd (h : WR w b F S L) : ∀ z ∈ L, 0 ≤ z ∧ z ≤ 255 := by
  obtain ⟨B, v, rfl, h⟩ := h
  exact h.bd
theorem WR.has (h : WR w b F S L) : F b := by
  obtain ⟨B, v, rfl, h⟩ := h
  exact .inl rfl
theorem WR.cells (h : WR w b F S L) : ∃ a cap, w.cell? ⟨b, 0, none⟩ = some (.int .i64 (S : Int)) ∧ w.cell? ⟨b, 1, none⟩ = some (.slice a L.length cap) := by
  obtain ⟨B, v, rfl, a, c, rfl, h⟩ := h
  exact ⟨a, c, two_cell0 h.hp, two_cell1 h.hp⟩
end Go.Proofs.Ytboangeopbblnaa

namespace Go.Proofs.Ytboangeopbblnaa
open Go.RowKit
set_option linter.unusedVariables false
structure Rnd (S : Nat) (L K : List Int) : Prop where
  len : K.length = S
  bd : ∀ z ∈ K, 0 ≤ z ∧ z ≤ 255
  at_ : ∀ i, i < L.length → L.length ≤ i + S → K.getD (i % S) 0 = L.getD i 0
structure RPk (w : World) (b g S : Nat) (L K : List Int) : Prop where
  hp : w.heap[b]? = some (.cells #[.slice (some ⟨g, 0, none⟩) S S, .int .i64 (L.length : Int)] 103 (0, 0))
  hk : w.heap[g]? = some (.cells (K.map (Value.int .u8)).toArray 5 (0, 0))
  rd : Rnd S L K
  ne : b ≠ g
  bd : ∀ z ∈ L, 0 ≤ z ∧ z ≤ 255
  s1 : 1 ≤ S
  s2 : S ≤ 32768
def FP (b g : Nat) (k : Nat) : Prop := k = b ∨ k = g
def RP (w : World) (b : Nat) (F : Nat → Prop) (S : Nat) (L : List Int) : Prop := ∃ g K, F = FP b g ∧ RPk w b g S L K
variable {w w' : World} {b g S : Nat} {F Q : Nat → Prop} {L K : List Int}
theorem RPk.b_lt (h : RPk w b g S L K) : b < w.heap.size := (Array.getElem?_eq_some_iff.1 h.hp).1
theorem RPk.g_lt (h : RPk w b g S L K) : g < w.heap.size := (Array.getElem?_eq_some_iff.1 h.hk).1
theorem RPk.c0 (h : RPk w b g S L K) : w.cell? ⟨b, 0, none⟩ = some (.slice (some ⟨g, 0, none⟩) S S) := two_cell0 h.hp
theorem RPk.c1 (h : RPk w b g S L K) : w.cell? ⟨b, 1, none⟩ = some (.int .i64 (L.length : Int)) := two_cell1 h.hp
theorem RPk.kp (h : RPk w b g S L K) (hk : Kp Q w w') (hn : Dj (FP b g) Q) : RPk w' b g S L K :=
  ⟨hk.heap h.hp (fun e => hn b (.inl rfl) e), hk.heap h.hk (fun e => hn g (.inr rfl) e), h.rd, h.ne, h.bd, h.s1, h.s2⟩
theorem RPk.old (h : RPk w b g S L K) (hb : Below w.heap.size w w') : RPk w' b g S L K := h.kp (Q := fun _ => False) (Kp.of_below hb) (fun _ _ e => e)
theorem RPk.seg (h : RPk w b g S L K) : Seg w (some ⟨g, 0, none⟩) K := by
  refine ⟨fun i hi => ⟨g, 0, rfl, ?_⟩, by decide, getD_bd (by decide) h.rd.bd⟩
  rw [Nat.zero_add]
  simp [World.cell?, h.hk, List.getD, hi]
theorem RP.lt (h : RP w b F S L) : ∀ k, F k → k < w.heap.size := by
  obtain ⟨g, K, rfl, h⟩ := h
  rintro k (rfl | rfl)
  · exact h.b_lt
  · exact h.g_lt
theorem RP.kp (h : RP w b F S L) (hk : Kp Q w w') (hn : Dj F Q) : RP w' b F S L := by
  obtain ⟨g, K, rfl, h⟩ := h
  exact ⟨g, K, rfl, h.kp hk hn⟩
theorem RP.bd (h : RP w b F S L) : ∀ z ∈ L, 0 ≤ z ∧ z ≤ 255 := by
  obtain ⟨g, K, rfl, h⟩ := h
  exact h.bd
theorem RP.has (h : RP w b F S L) : F b := by
  obtain ⟨g, K, rfl, h⟩ := h
  exact .inl rfl
theorem RP.hp (h : RP w b F S L) : ∃ cs, w.heap[b]? = some (.cells cs 103 (0, 0)) := by
  obtain ⟨g, K, rfl, h⟩ := h
  exact ⟨_, h.hp⟩
theorem RP.old (h : RP w b F S L) (hb : Below w.heap.size w w') : RP w' b F S L := h.kp (Q := fun _ => False) (Kp.of_below hb) (fun _ _ e => e)

theorem made_noughts6 (n : Nat) : madeCells #[.int .u8 0] n = ((List.replicate n (0 : Int)).map (Value.int .u8)).toArray := by
  apply Array.toList_inj.1
  rw [toList_madeCells_one]
  simp
theorem run_make6 (n : Nat) (h : n ≤ 140737488355328) (w : World) :
    (Instr.makeSlice 101 (.int .i64 (n : Int)) (.int .i64 (n : Int))).run Try.prog w = .ok (.slice (some ⟨w.heap.size, 0, none⟩) n n) (w.alloc (.cells ((List.replicate n (0 : Int)).map (Value.int .u8)).toArray 5)) := by
  rw [← made_noughts6]
  exact run_make_row' 101 5 (.int .u8 0) 1 Try.underlying101 info_u8r rfl .i64 .i64 n (by omega) (by omega) w
theorem noughts_bd6 (n : Nat) : ∀ z ∈ List.replicate n (0 : Int), 0 ≤ z ∧ z ≤ 255 := by
  intro z hz
  obtain ⟨_, rfl⟩ := List.mem_replicate.1 hz
  decide
theorem heap_new6 (w : World) (cs : Array Value) (t : TypeId) : (w.alloc (.cells cs t)).heap[w.heap.size]? = some (.cells cs t (0, 0)) := by rw [World.alloc]; simp
theorem heap_alloc6 (w : World) (o : Obj) {k : Nat} {x : Obj} (h : w.heap[k]? = some x) : (w.alloc o).heap[k]? = some x := by
  have hk : k < w.heap.size := (Array.getElem?_eq_some_iff.1 h).1
  rw [← h]
  simp only [World.alloc, Array.getElem?_push, Nat.ne_of_lt hk, if_false]
set_option maxRecDepth 100000 in
theorem pnew_ok (S : Nat) (h1 : 1 ≤ S) (h2 : S ≤ 32768) (w : World) : Calls Try.prog 47 #[.int .i64 (S : Int)] w fun e w' => ∃ b F, e = .returned (.tuple #[.pointer (some ⟨b, 0, none⟩), .int .i64 0]) ∧ RP w' b F S [] ∧ Below w.heap.size w w' ∧ ∀ k, F k → w.heap.size ≤ k := by
  have h1i : ¬ (S : Int) < 1 := by omega
  have h2i : ¬ (32768 : Int) < (S : Int) := by omega
  have hmk := run_make6 S (by omega) w
  obtain ⟨wA, hwA⟩ : ∃ wA, wA = w.alloc (.cells ((List.replicate S (0 : Int)).map (Value.int .u8)).toArray 5) := ⟨_, rfl⟩
  rw [← hwA] at hmk
  have HW : Hid (wA = w.alloc (.cells ((List.replicate S (0 : Int)).map (Value.int .u8)).toArray 5)) := hwA
  clear hwA
  go_enter Try.func47, Try.ntmps47
  go_wp2_with fail
  go_ret2
  have bA : Below w.heap.size w wA := by rw [HW.out]; exact (Below.refl _ _).alloc (Nat.le_refl _) _
  have hsA : wA.heap.size = w.heap.size + 1 := by rw [HW.out]; simp
  have hgA : wA.heap[w.heap.size]? = some (.cells ((List.replicate S (0 : Int)).map (Value.int .u8)).toArray 5 (0, 0)) := by rw [HW.out]; exact heap_new6 _ _ _
  refine ⟨wA.heap.size, rfl, FP wA.heap.size w.heap.size, ⟨w.heap.size, List.replicate S 0, rfl, ?_, heap_alloc6 _ _ hgA, ⟨by simp, noughts_bd6 S, by simp⟩, by omega, by simp, h1, h2⟩, ?_, ?_⟩
  · exact heap_new6 _ _ _
  · exact bA.trans (((Below.refl _ _).alloc (Nat.le_refl _) _).mono bA.size)
  · rintro k (rfl | rfl) <;> omega

end Go.Proofs.Ytboangeopbblnaa
