import Derived.Test.YtmddnmpldmdllaaDoorProg
import Derived.Test.YtmddnmpldmdllaaDoorPh
import Derived.WalkKit
import Derived.WalkSpells
import Derived.Laws.BytesArg
import Derived.Deep.OwnRows
import Derived.Laws.CopyOwn
import Derived.Lib.SliceRun
namespace Go.Proofs.YtmddnmpldmdllaaDoor
open Go.RowKit
set_option linter.unusedVariables false

theorem run_conv_seg {P : Program} {w : World} {a : Option Addr} {zs : List Int} (cap : Nat) (h : Seg w a zs) (src e dst : TypeId) (hs : P.underlying src = some (.slice e)) (he : P.underlying e = some (.int .u8)) (hd : P.underlying dst = some .string) :
    (convert src dst (.slice a zs.length cap)).run P w = .ok (.string (strOfNums zs)) w := by
  by_cases hz : 0 < zs.length
  · obtain ⟨b, off, rfl, _⟩ := h.at_ 0 hz
    refine run_convert_bytes_arg w src e hs he b off zs.length cap zs rfl (fun i hi => ?_) dst hd
    obtain ⟨b', off', hb, hc⟩ := h.at_ i hi
    cases hb
    exact hc
  · have : zs = [] := List.eq_nil_of_length_eq_zero (by omega)
    subst this
    cases a with
    | none => exact run_convert_bytes_nil w src e hs he _ _ dst hd
    | some x =>
      rw [run_convert_bytes_string w src dst e _ _ cap hs he hd]
      have hl : (loadCells x 0).run P w = .ok (([] : List Int).map (Value.int .u8)).toArray w := by simp [loadCells, loadCellsFrom]
      have := run_bytesToString (P := P) w x 0 cap [] hl
      exact this

theorem str_inj {xs ys : List Int} (hx : ∀ z ∈ xs, 0 ≤ z ∧ z ≤ 255) (hy : ∀ z ∈ ys, 0 ≤ z ∧ z ≤ 255) : ((strOfNums xs).toList == (strOfNums ys).toList) = (xs == ys) := by
  rw [ByteArray.toList_eq, ByteArray.toList_eq, strOfNums_data, strOfNums_data]
  have key : ∀ (xs ys : List Int), (∀ z ∈ xs, 0 ≤ z ∧ z ≤ 255) → (∀ z ∈ ys, 0 ≤ z ∧ z ≤ 255) → (xs.map fun n => UInt8.ofNat n.toNat) = (ys.map fun n => UInt8.ofNat n.toNat) → xs = ys := by
    intro xs
    induction xs with
    | nil => intro ys _ _ h; cases ys with
      | nil => rfl
      | cons y r => simp at h
    | cons x r ih =>
      intro ys hx hy h
      cases ys with
      | nil => simp at h
      | cons y t =>
        simp only [List.map_cons, List.cons.injEq] at h
        have h1 := hx x (by simp)
        have h2 := hy y (by simp)
        have h3 := congrArg UInt8.toNat h.1
        simp at h3
        have h4 : x = y := by omega
        rw [h4, ih t (fun z hz => hx z (by simp [hz])) (fun z hz => hy z (by simp [hz])) h.2]
  rw [Bool.eq_iff_iff, beq_iff_eq, beq_iff_eq]
  exact ⟨key xs ys hx hy, fun h => by rw [h]⟩

/-- A row's own block. -/
def OB (v : Value) (k : Nat) : Prop := v.ownBlock = some k
/-- A cell of a row of bytes of one's own. -/
theorem own_cellB {w : World} {base n g cap : Nat} {e : TypeId} {A : List Int} (h : w.ownsRow base e 1 (.slice (some ⟨g, 0, none⟩) n cap) n (A.map (Value.int .u8))) {i : Nat} (hi : i < A.length) : w.cell? ⟨g, i, none⟩ = some (.int .u8 (A.getD i 0)) := by
  have hl := h.1
  rw [h.cellAt i (by simp at hl; omega)]
  simp [List.getD, hi]
end Go.Proofs.YtmddnmpldmdllaaDoor

namespace Go.Proofs.YtmddnmpldmdllaaDoor
open Go.RowKit
set_option linter.unusedVariables false

/-- A call of a script. -/
structure CallD where
  K : Int
  ba : Option Addr
  p : List Int
  bc : Nat
  D : Int
  N : Int
/-- Calls that came in. -/
structure SegC (w : World) (a : Option Addr) (n : Nat) (O : Nat → CallD) : Prop where
  at_ : ∀ i, i < n → ∃ b off, a = some ⟨b, off, none⟩ ∧ w.cell? ⟨b, off + i * 4, none⟩ = some (.int .i64 (O i).K) ∧ w.cell? ⟨b, off + i * 4 + 1, none⟩ = some (.slice (O i).ba (O i).p.length (O i).bc) ∧ w.cell? ⟨b, off + i * 4 + 2, none⟩ = some (.int .i64 (O i).D) ∧ w.cell? ⟨b, off + i * 4 + 3, none⟩ = some (.int .i64 (O i).N)
  seg : ∀ i, i < n → Seg w (O i).ba (O i).p
  nil : ∀ i, i < n → (O i).ba = none → (O i).bc = 0
  cap : ∀ i, i < n → (O i).p.length ≤ (O i).bc
  bd : ∀ i, i < n → -9223372036854775808 ≤ (O i).K ∧ (O i).K ≤ 9223372036854775807 ∧ -9223372036854775808 ≤ (O i).D ∧ (O i).D ≤ 9223372036854775807 ∧ -9223372036854775808 ≤ (O i).N ∧ (O i).N ≤ 9223372036854775807
theorem SegC.old {w w' : World} {a : Option Addr} {n : Nat} {O : Nat → CallD} (h : SegC w a n O) (hb : Below w.heap.size w w') : SegC w' a n O := by
  refine ⟨fun i hi => ?_, fun i hi => (h.seg i hi).old hb, h.nil, h.cap, h.bd⟩
  obtain ⟨b, off, ha, h0, h1, h2, h3⟩ := h.at_ i hi
  have hlt := World.block_lt_of_cell? w _ h0
  exact ⟨b, off, ha, (hb.cell (p := ⟨b, off + i * 4, none⟩) hlt).trans h0, (hb.cell (p := ⟨b, off + i * 4 + 1, none⟩) hlt).trans h1, (hb.cell (p := ⟨b, off + i * 4 + 2, none⟩) hlt).trans h2, (hb.cell (p := ⟨b, off + i * 4 + 3, none⟩) hlt).trans h3⟩
/-- How many bytes the first n calls bring. -/
def totC (O : Nat → CallD) : Nat → Nat
  | 0 => 0
  | n + 1 => totC O n + (O n).p.length
theorem totC_le (O : Nat → CallD) {i n : Nat} (h : i < n) : totC O i + (O i).p.length ≤ totC O n := by
  induction n with
  | zero => omega
  | succ n ih =>
    simp only [totC]
    by_cases e : i = n
    · subst e; omega
    · have := ih (by omega); omega
end Go.Proofs.YtmddnmpldmdllaaDoor

namespace Go.Proofs.YtmddnmpldmdllaaDoor
open Go.RowKit
set_option linter.unusedVariables false

/-! Footprints: the blocks that an object owns. -/
def RF (b : Nat) (v : Value) (k : Nat) : Prop := k = b ∨ v.ownBlock = some k
def Dj (P Q : Nat → Prop) : Prop := ∀ k, P k → Q k → False
theorem Dj.symm {P Q : Nat → Prop} (h : Dj P Q) : Dj Q P := fun k a b => h k b a
/-- What an object owns behind a call: what it owned, or new blocks. -/
def FrP (w : World) (F F' : Nat → Prop) : Prop := ∀ k, F' k → F k ∨ w.heap.size ≤ k
theorem Dj.fresh {w : World} {F F' Q : Nat → Prop} (h : Dj F Q) (hf : FrP w F F') (hq : ∀ k, Q k → k < w.heap.size) : Dj F' Q := fun k a b => by
  rcases hf k a with e | e
  · exact h k e b
  · have := hq k b; omega
/-- The document's ring by its footprint. -/
def WR (w : World) (b : Nat) (F : Nat → Prop) (S : Nat) (L : List Int) : Prop := ∃ B v, F = RF b v ∧ RgR w b B S v L
variable {w w' : World} {b S : Nat} {F : Nat → Prop} {L : List Int}
theorem WR.lt (h : WR w b F S L) : ∀ k, F k → k < w.heap.size := by
  obtain ⟨B, v, rfl, h⟩ := h
  rintro k (e | e)
  · subst e; exact h.b_lt
  · exact (h.own_lt k e).2.1
theorem WR.kp {Q : Nat → Prop} (h : WR w b F S L) (hk : Kp Q w w') (hn : Dj F Q) : WR w' b F S L := by
  obtain ⟨B, v, rfl, h⟩ := h
  exact ⟨B, v, rfl, h.kp hk (fun e => hn b (.inl rfl) e) (fun k e e2 => hn k (.inr e) e2)⟩
theorem WR.old (h : WR w b F S L) (hb : Below w.heap.size w w') : WR w' b F S L := h.kp (Q := fun _ => False) (Kp.of_below hb) (fun _ _ e => e)
theorem WR.bd (h : WR w b F S L) : ∀ z ∈ L, 0 ≤ z ∧ z ≤ 255 := by
  obtain ⟨B, v, rfl, h⟩ := h
  exact h.bd
theorem WR.has (h : WR w b F S L) : F b := by
  obtain ⟨B, v, rfl, h⟩ := h
  exact .inl rfl
theorem WR.cells (h : WR w b F S L) : ∃ a cap, w.cell? ⟨b, 0, none⟩ = some (.int .i64 (S : Int)) ∧ w.cell? ⟨b, 1, none⟩ = some (.slice a L.length cap) := by
  obtain ⟨B, v, rfl, a, c, rfl, h⟩ := h
  exact ⟨a, c, two_cell0 h.hp, two_cell1 h.hp⟩
theorem Kp.blw {Q : Nat → Prop} {w w' : World} {N : Nat} (h : Kp Q w w') (hq : ∀ k, Q k → N ≤ k) (hN : N ≤ w.heap.size) : Below N w w' := h.below hq hN
end Go.Proofs.YtmddnmpldmdllaaDoor

namespace Go.Proofs.YtmddnmpldmdllaaDoor
open Go.RowKit
set_option linter.unusedVariables false

/-! The program's ring: byte i of all that were put in stands at i modulo the size. -/
structure Rnd (S : Nat) (L K : List Int) : Prop where
  len : K.length = S
  bd : ∀ z ∈ K, 0 ≤ z ∧ z ≤ 255
  at_ : ∀ i, i < L.length → L.length ≤ i + S → K.getD (i % S) 0 = L.getD i 0
structure RPk (w : World) (b g S : Nat) (L K : List Int) : Prop where
  hp : w.heap[b]? = some (.cells #[.slice (some ⟨g, 0, none⟩) S S, .int .i64 (L.length : Int)] 39 (0, 0))
  hk : w.heap[g]? = some (.cells (K.map (Value.int .u8)).toArray 5 (0, 0))
  rd : Rnd S L K
  ne : b ≠ g
  bd : ∀ z ∈ L, 0 ≤ z ∧ z ≤ 255
  s1 : 1 ≤ S
  s2 : S ≤ 32768
def FP (b g : Nat) (k : Nat) : Prop := k = b ∨ k = g
def RP (w : World) (b : Nat) (F : Nat → Prop) (S : Nat) (L : List Int) : Prop := ∃ g K, F = FP b g ∧ RPk w b g S L K
variable {w w' : World} {b g S : Nat} {F Q : Nat → Prop} {L K : List Int}
theorem RPk.b_lt (h : RPk w b g S L K) : b < w.heap.size := (Array.getElem?_eq_some_iff.1 h.hp).1
theorem RPk.g_lt (h : RPk w b g S L K) : g < w.heap.size := (Array.getElem?_eq_some_iff.1 h.hk).1
theorem RPk.c0 (h : RPk w b g S L K) : w.cell? ⟨b, 0, none⟩ = some (.slice (some ⟨g, 0, none⟩) S S) := two_cell0 h.hp
theorem RPk.c1 (h : RPk w b g S L K) : w.cell? ⟨b, 1, none⟩ = some (.int .i64 (L.length : Int)) := two_cell1 h.hp
theorem RPk.kp (h : RPk w b g S L K) (hk : Kp Q w w') (hn : Dj (FP b g) Q) : RPk w' b g S L K :=
  ⟨hk.heap h.hp (fun e => hn b (.inl rfl) e), hk.heap h.hk (fun e => hn g (.inr rfl) e), h.rd, h.ne, h.bd, h.s1, h.s2⟩
theorem RPk.old (h : RPk w b g S L K) (hb : Below w.heap.size w w') : RPk w' b g S L K := h.kp (Q := fun _ => False) (Kp.of_below hb) (fun _ _ e => e)
theorem RPk.seg (h : RPk w b g S L K) : Seg w (some ⟨g, 0, none⟩) K := by
  refine ⟨fun i hi => ⟨g, 0, rfl, ?_⟩, by decide, getD_bd (by decide) h.rd.bd⟩
  rw [Nat.zero_add]
  simp [World.cell?, h.hk, List.getD, hi]
theorem RP.lt (h : RP w b F S L) : ∀ k, F k → k < w.heap.size := by
  obtain ⟨g, K, rfl, h⟩ := h
  rintro k (rfl | rfl)
  · exact h.b_lt
  · exact h.g_lt
theorem RP.kp (h : RP w b F S L) (hk : Kp Q w w') (hn : Dj F Q) : RP w' b F S L := by
  obtain ⟨g, K, rfl, h⟩ := h
  exact ⟨g, K, rfl, h.kp hk hn⟩
theorem RP.bd (h : RP w b F S L) : ∀ z ∈ L, 0 ≤ z ∧ z ≤ 255 := by
  obtain ⟨g, K, rfl, h⟩ := h
  exact h.bd
theorem RP.has (h : RP w b F S L) : F b := by
  obtain ⟨g, K, rfl, h⟩ := h
  exact .inl rfl
theorem RP.hp (h : RP w b F S L) : ∃ cs, w.heap[b]? = some (.cells cs 39 (0, 0)) := by
  obtain ⟨g, K, rfl, h⟩ := h
  exact ⟨_, h.hp⟩
theorem RP.old (h : RP w b F S L) (hb : Below w.heap.size w w') : RP w' b F S L := h.kp (Q := fun _ => False) (Kp.of_below hb) (fun _ _ e => e)

/-! New. -/
theorem made_noughts6 (n : Nat) : madeCells #[.int .u8 0] n = ((List.replicate n (0 : Int)).map (Value.int .u8)).toArray := by
  apply Array.toList_inj.1
  rw [toList_madeCells_one]
  simp
theorem run_make6 (n : Nat) (h : n ≤ 140737488355328) (w : World) :
    (Instr.makeSlice 22 (.int .i64 (n : Int)) (.int .i64 (n : Int))).run Tryd.prog w = .ok (.slice (some ⟨w.heap.size, 0, none⟩) n n) (w.alloc (.cells ((List.replicate n (0 : Int)).map (Value.int .u8)).toArray 5)) := by
  rw [← made_noughts6]
  exact run_make_row' 22 5 (.int .u8 0) 1 Tryd.underlying22 info_u8r rfl .i64 .i64 n (by omega) (by omega) w
theorem noughts_bd6 (n : Nat) : ∀ z ∈ List.replicate n (0 : Int), 0 ≤ z ∧ z ≤ 255 := by
  intro z hz
  obtain ⟨_, rfl⟩ := List.mem_replicate.1 hz
  decide
theorem heap_new6 (w : World) (cs : Array Value) (t : TypeId) : (w.alloc (.cells cs t)).heap[w.heap.size]? = some (.cells cs t (0, 0)) := by rw [World.alloc]; simp
theorem heap_alloc6 (w : World) (o : Obj) {k : Nat} {x : Obj} (h : w.heap[k]? = some x) : (w.alloc o).heap[k]? = some x := by
  have hk : k < w.heap.size := (Array.getElem?_eq_some_iff.1 h).1
  rw [← h]
  simp only [World.alloc, Array.getElem?_push, Nat.ne_of_lt hk, if_false]
set_option maxRecDepth 100000 in
theorem pnew_no (s : Int) (h : s < 1 ∨ 32768 < s) (w : World) : Calls Tryd.prog 28 #[.int .i64 s] w fun e w' => e = .returned (.tuple #[.pointer none, .int .i64 60]) ∧ Below w.heap.size w w' := by
  by_cases h1 : s < 1
  · go_enter Tryd.func28, Tryd.ntmps28
    go_wp2_with fail
    go_ret2
    exact ⟨rfl, Below.refl _ _⟩
  · have h2 : 32768 < s := by omega
    go_enter Tryd.func28, Tryd.ntmps28
    go_wp2_with fail
    go_ret2
    exact ⟨rfl, Below.refl _ _⟩
set_option maxRecDepth 100000 in
theorem pnew_ok (S : Nat) (h1 : 1 ≤ S) (h2 : S ≤ 32768) (w : World) : Calls Tryd.prog 28 #[.int .i64 (S : Int)] w fun e w' => ∃ b F, e = .returned (.tuple #[.pointer (some ⟨b, 0, none⟩), .int .i64 0]) ∧ RP w' b F S [] ∧ Below w.heap.size w w' ∧ ∀ k, F k → w.heap.size ≤ k := by
  have h1i : ¬ (S : Int) < 1 := by omega
  have h2i : ¬ (32768 : Int) < (S : Int) := by omega
  have hmk := run_make6 S (by omega) w
  obtain ⟨wA, hwA⟩ : ∃ wA, wA = w.alloc (.cells ((List.replicate S (0 : Int)).map (Value.int .u8)).toArray 5) := ⟨_, rfl⟩
  rw [← hwA] at hmk
  have HW : Hid (wA = w.alloc (.cells ((List.replicate S (0 : Int)).map (Value.int .u8)).toArray 5)) := hwA
  clear hwA
  go_enter Tryd.func28, Tryd.ntmps28
  go_wp2_with fail
  go_ret2
  have bA : Below w.heap.size w wA := by rw [HW.out]; exact (Below.refl _ _).alloc (Nat.le_refl _) _
  have hsA : wA.heap.size = w.heap.size + 1 := by rw [HW.out]; simp
  have hgA : wA.heap[w.heap.size]? = some (.cells ((List.replicate S (0 : Int)).map (Value.int .u8)).toArray 5 (0, 0)) := by rw [HW.out]; exact heap_new6 _ _ _
  refine ⟨wA.heap.size, rfl, FP wA.heap.size w.heap.size, ⟨w.heap.size, List.replicate S 0, rfl, ?_, heap_alloc6 _ _ hgA, ⟨by simp, noughts_bd6 S, by simp⟩, by omega, by simp, h1, h2⟩, ?_, ?_⟩
  · exact heap_new6 _ _ _
  · exact bA.trans (((Below.refl _ _).alloc (Nat.le_refl _) _).mono bA.size)
  · rintro k (rfl | rfl) <;> omega

/-! made, Total, Room, Held. -/
set_option maxRecDepth 100000 in
theorem pmade (h : RPk w b g S L K) : Calls Tryd.prog 27 #[.pointer (some ⟨b, 0, none⟩)] w fun e w' => e = .returned (.bool true) ∧ w' = w := by
  have c0 := h.c0
  have h1 : (0 : Int) < (S : Int) := by have := h.s1; omega
  have h2 : 0 < S := h.s1
  clear h
  go_enter Tryd.func27, Tryd.ntmps27
  go_wp2_with fail
  go_ret
  exact ⟨rfl, rfl⟩
set_option maxRecDepth 100000 in
theorem ptotal (h : RPk w b g S L K) : Calls Tryd.prog 13 #[.pointer (some ⟨b, 0, none⟩)] w fun e w' => e = .returned (.int .i64 (L.length : Int)) ∧ w' = w := by
  have c1 := h.c1
  clear h
  generalize L.length = n at *
  go_enter Tryd.func13, Tryd.ntmps13
  go_wp2_with fail
  go_ret
  exact ⟨rfl, rfl⟩
set_option maxRecDepth 100000 in
theorem proom (h : RPk w b g S L K) : Calls Tryd.prog 15 #[.pointer (some ⟨b, 0, none⟩)] w fun e w' => e = .returned (.int .i64 (S : Int)) ∧ w' = w := by
  have c0 := h.c0
  clear h
  go_enter Tryd.func15, Tryd.ntmps15
  go_wp2_with fail
  go_ret
  exact ⟨rfl, rfl⟩
set_option maxRecDepth 100000 in
theorem pheld (h : RPk w b g S L K) : Calls Tryd.prog 82 #[.pointer (some ⟨b, 0, none⟩)] w fun e w' => e = .returned (.int .i64 (heldN S L : Int)) ∧ w' = w := by
  have T := ptotal h
  have R := proom h
  have HH : Hid (heldN S L ≤ L.length ∧ heldN S L ≤ S ∧ (heldN S L = L.length ∨ heldN S L = S)) := by
    show _ ∧ _ ∧ _
    unfold heldN
    omega
  clear h
  generalize heldN S L = hN at *
  generalize L.length = n at *
  go_enter Tryd.func82, Tryd.ntmps82
  go_wp2_with fail
  refine T.mono ?_
  rintro e w1 ⟨rfl, rfl⟩
  go_wp2_with fail
  refine R.mono ?_
  rintro e w1 ⟨rfl, rfl⟩
  go_wp2_with fail
  all_goals
    go_ret
    refine ⟨?_, rfl⟩
    have h1 := HH.out
    first
      | (have e : hN = S := by omega
         rw [e]; rfl)
      | (have e : hN = n := by omega
         rw [e]; rfl)

/-! far, place, At. -/
set_option maxRecDepth 100000 in
theorem pfar (d : Int) (h : RPk w b g S L K) : Calls Tryd.prog 72 #[.pointer (some ⟨b, 0, none⟩), .int .i64 d] w fun e w' => e = .returned (.int .i64 (atE S L d)) ∧ w' = w := by
  have CH := pheld h
  clear h
  by_cases h1 : d < 1
  · have HE : Hid (atE S L d = 61) := by show _ = _; unfold atE; rw [if_neg (by omega)]
    go_enter Tryd.func72, Tryd.ntmps72
    go_wp2_with fail
    go_ret
    exact ⟨by rw [HE.out]; rfl, rfl⟩
  · by_cases h2 : (heldN S L : Int) < d
    · have HE : Hid (atE S L d = 61) := by show _ = _; unfold atE; rw [if_neg (by omega)]
      generalize atE S L d = aE at *
      generalize heldN S L = hN at *
      go_enter Tryd.func72, Tryd.ntmps72
      go_wp2_with fail
      refine CH.mono ?_
      rintro e w1 ⟨rfl, rfl⟩
      go_wp2_with fail
      go_ret
      exact ⟨by rw [HE.out]; rfl, rfl⟩
    · have HE : Hid (atE S L d = 0) := by show _ = _; unfold atE; rw [if_pos (by omega)]
      generalize atE S L d = aE at *
      generalize heldN S L = hN at *
      go_enter Tryd.func72, Tryd.ntmps72
      go_wp2_with fail
      refine CH.mono ?_
      rintro e w1 ⟨rfl, rfl⟩
      go_wp2_with fail
      go_ret
      exact ⟨by rw [HE.out]; rfl, rfl⟩
set_option maxRecDepth 100000 in
/-- Where the byte stands that was put in d back. -/
theorem pplace (n d : Nat) (c0 : w.cell? ⟨b, 0, none⟩ = some (.slice (some ⟨g, 0, none⟩) S S)) (c1 : w.cell? ⟨b, 1, none⟩ = some (.int .i64 (n : Int))) (h1 : 1 ≤ S) (h2 : S ≤ 32768) (hd : d ≤ n) (hl : n ≤ 140737488355328) : Calls Tryd.prog 76 #[.pointer (some ⟨b, 0, none⟩), .int .i64 (d : Int)] w fun e w' => e = .returned (.int .i64 (((n - d) % S : Nat) : Int)) ∧ Below w.heap.size w w' := by
  obtain ⟨m, hm⟩ : ∃ m, m = n - d := ⟨_, rfl⟩
  have hw : IntKind.i64.wrap ((n : Int) - (d : Int)) = (m : Int) := by rw [IntWalk.i64_in _ (by omega)]; omega
  have hS0 : ¬ (S : Int) = 0 := by omega
  rw [← hm]
  obtain ⟨r, hr⟩ : ∃ r, r = m % S := ⟨_, rfl⟩
  have hrl : r < S := by rw [hr]; exact Nat.mod_lt _ h1
  have HR : Hid (m % S = r) := hr.symm
  rw [← hr]
  have htm : (m : Int).tmod (S : Int) = (r : Int) := by rw [hr, Int.ofNat_tmod]
  have hwr : IntKind.i64.wrap (r : Int) = (r : Int) := IntWalk.i64_in _ (by omega)
  clear hr hm
  go_enter Tryd.func76, Tryd.ntmps76
  go_wp2_with fail
  go_quiet (fail)
  go_wp2
  go_ret
  exact ⟨rfl, ⟨rfl, rfl, rfl, Nat.le_refl _, fun _ _ => rfl⟩⟩
end Go.Proofs.YtmddnmpldmdllaaDoor

namespace Go.Proofs.YtmddnmpldmdllaaDoor
open Go.RowKit
set_option linter.unusedVariables false
variable {w w' : World} {b g S : Nat} {F Q : Nat → Prop} {L K : List Int}
theorem RPk.drew (h : RPk w b g S L K) : RPk w.drew b g S L K := ⟨h.hp, h.hk, h.rd, h.ne, h.bd, h.s1, h.s2⟩
theorem RPk.cell (h : RPk w b g S L K) (i : Nat) (hi : i < S) : w.cell? ⟨g, i, none⟩ = some (.int .u8 (K.getD i 0)) := by
  have := h.rd.len
  have hi' : i < K.length := by omega
  simp [World.cell?, h.hk, List.getD, hi']
theorem RPk.place_at (h : RPk w b g S L K) (d : Nat) (h1 : 1 ≤ d) (h2 : d ≤ heldN S L) : K.getD ((L.length - d) % S) 0 = L.getD (L.length - d) 0 := by
  have e1 : heldN S L ≤ L.length := by unfold heldN; omega
  have e2 : heldN S L ≤ S := by unfold heldN; omega
  exact h.rd.at_ _ (by omega) (by omega)
theorem splice_map {α β : Type} (f : α → β) (L : List α) (off : Nat) (cs : List α) : splice (L.map f) off (cs.map f) = (splice L off cs).map f := by
  simp [splice, List.map_take, List.map_drop]
theorem splice_getD (X : List Int) (off : Nat) (cs : List Int) (h : off + cs.length ≤ X.length) (i : Nat) :
    (splice X off cs).getD i 0 = if off ≤ i ∧ i < off + cs.length then cs.getD (i - off) 0 else X.getD i 0 := by
  unfold splice
  have hm : min off X.length = off := by omega
  by_cases h1 : i < off
  · rw [if_neg (by omega)]
    have h4 : i < X.length := by omega
    simp [List.getD, List.getElem?_append, hm, h1, h4]
  · by_cases h2 : i < off + cs.length
    · rw [if_pos (by omega)]
      have h3 : i - off < cs.length := by omega
      simp [List.getD, List.getElem?_append, hm, h1, h3]
    · rw [if_neg (by omega)]
      have h3 : ¬ i - off < cs.length := by omega
      simp [List.getD, List.getElem?_append, hm, h1, h3, List.getElem?_drop]
      congr 2
      omega
theorem splice_mem {X cs : List Int} {off : Nat} {z : Int} (h : z ∈ splice X off cs) : z ∈ X ∨ z ∈ cs := by
  unfold splice at h
  rcases List.mem_append.1 h with h | h
  · exact .inl (List.mem_of_mem_take h)
  · rcases List.mem_append.1 h with h | h
    · exact .inr h
    · exact .inl (List.mem_of_mem_drop h)
theorem Kp.setRow {Q : Nat → Prop} {g : Nat} (hg : Q g) (w : World) (cs : Array Value) : Kp Q w (w.setRow g cs) :=
  ⟨rfl, rfl, rfl, by simp [World.setRow], fun k hk hn => setRow_other w g k cs (fun e => hn (e ▸ hg))⟩
theorem run_copy6 {P : Program} {w : World} (dT sT ty elem : TypeId) (hu : P.underlying dT = some (.slice elem)) (hsz : (P.info? elem).map (·.size) = some 1)
    (dp sp : Option Addr) (dLen dCap sLen sCap : Nat) (g off : Nat) (X : List Int) (t : TypeId) (hg : w.heap[g]? = some (.cells (X.map (Value.int .u8)).toArray t (0, 0))) (cs : List Int) (hn : cs.length = Nat.min sLen dLen)
    (hpos : 0 < cs.length → dp = some ⟨g, off, none⟩ ∧ Seg w sp cs) (hfit : off + cs.length ≤ X.length) :
    ∃ w', (Builtin.copy_ #[dT, sT] ty #[.slice dp dLen dCap, .slice sp sLen sCap]).run P w = .ok (.int .i64 (cs.length : Int)) w' ∧ w'.heap[g]? = some (.cells ((splice X off cs).map (Value.int .u8)).toArray t (0, 0)) ∧ Kp (fun k => k = g) w w' := by
  by_cases h0 : cs.length = 0
  · obtain rfl : cs = [] := List.eq_nil_of_length_eq_zero h0
    refine ⟨w, ?_, ?_, Kp.refl _ _⟩
    · exact run_copy_none (P := P) w dT sT ty elem dp sp dLen dCap sLen sCap hu hsz (by simpa using hn.symm)
    · simpa [splice] using hg
  · obtain ⟨rfl, hs⟩ := hpos (by omega)
    obtain ⟨sg, soff, rfl, _⟩ := hs.at_ 0 (by omega)
    have hrun := run_copy_row P w dT sT ty elem g off dLen dCap ⟨sg, soff, none⟩ sLen sCap _ t (cs.map (Value.int .u8)) hu hsz hg (by simpa using hn) (seg_cells hs) (by simpa using hfit) (ints_oneCell _ _)
    refine ⟨_, by simpa [goInt] using hrun, ?_, Kp.setRow (Q := fun k => k = g) rfl _ _⟩
    rw [setRow_heap w g _ _ t _ hg, ← splice_map]
    simp [splice]
theorem step_copy6 {P : Program} {ops : Array Oper} {o : Oper} {a : Act} {w : World} {K : Act → World → Prop} {Q : Exit → Act → World → Prop} {E : Prop} (hgd : o.guard = none) (d s : Operand) (dT sT : TypeId)
    (ho : o.op = .call { callee := .builtin .copy, args := #[d, s], argTypes := #[dT, sT] }) (elem : TypeId) (hu : P.underlying dT = some (.slice elem)) (hsz : (P.info? elem).map (·.size) = some 1)
    {dp sp : Option Addr} {dLen dCap sLen sCap : Nat} (hd : a.eval d = .slice dp dLen dCap) (hs : a.eval s = .slice sp sLen sCap)
    (g off : Nat) (X : List Int) (t : TypeId) (hg : w.heap[g]? = some (.cells (X.map (Value.int .u8)).toArray t (0, 0))) (cs : List Int) (m : Nat) (hm : cs.length = m) (hn : m = Nat.min sLen dLen)
    (hpos : 0 < cs.length → dp = some ⟨g, off, none⟩ ∧ Seg w sp cs) (hfit : off + m ≤ X.length)
    (h : ∀ w', Hid (w'.heap[g]? = some (.cells ((splice X off cs).map (Value.int .u8)).toArray t (0, 0))) → Kp (fun k => k = g) w w' → K (a.put o.dst (.int .i64 (m : Int))) w') :
    if Region.wanted o (yielded ops a.tmps) = true then Oper.wp P o a w K Q else E := by
  have hw : Region.wanted o (yielded ops a.tmps) = true := by simp [Region.wanted, hgd]
  rw [if_pos hw]
  subst hm
  obtain ⟨w', hrun, h1, h2⟩ := run_copy6 (P := P) (w := w) dT sT o.type elem hu hsz dp sp dLen dCap sLen sCap g off X t hg cs hn hpos hfit
  unfold Oper.wp
  simp [execOp, ho, resolve, invoke, builtin, hd, hs, hrun, Result.andThen]
  exact h w' h1 h2
end Go.Proofs.YtmddnmpldmdllaaDoor

namespace Go.Proofs.YtmddnmpldmdllaaDoor
open Go.RowKit
set_option linter.unusedVariables false

/-! Bytes that are put in: the last of them, at most the size, go round once at most. -/
theorem getD_app6 (A B : List Int) (i : Nat) : (A ++ B).getD i 0 = if i < A.length then A.getD i 0 else B.getD (i - A.length) 0 := by
  by_cases h : i < A.length
  · rw [if_pos h]; simp [List.getD, List.getElem?_append, h]
  · rw [if_neg h]; simp [List.getD, List.getElem?_append, h]
theorem getD_drop6 (A : List Int) (j i : Nat) : (A.drop j).getD i 0 = A.getD (j + i) 0 := by simp [List.getD, List.getElem?_drop]
theorem getD_take6 (A : List Int) (j i : Nat) (h : i < j) : (A.take j).getD i 0 = A.getD i 0 := by simp [List.getD, h]
theorem mod_far6 {S a i : Nat} (h1 : i < a) (h2 : a < i + S) : a % S ≠ i % S := by
  intro e
  have h3 := Nat.sub_mod_eq_zero_of_mod_eq e
  rw [Nat.mod_eq_of_lt (by omega)] at h3
  omega
theorem Rnd.put {S : Nat} {L K p q : List Int} {r m : Nat} (h : Rnd S L K) (hS : 1 ≤ S) (hp : ∀ z ∈ p, 0 ≤ z ∧ z ≤ 255) (hq : q = p.drop (p.length - S)) (hr : r = (L.length + p.length - q.length) % S) (hm : m = min q.length (S - r)) :
    Rnd S (L ++ p) (splice (splice K r (q.take m)) 0 (q.drop m)) := by
  have hl := h.len
  have hrS : r < S := by rw [hr]; exact Nat.mod_lt _ hS
  have hql : q.length = min p.length S := by rw [hq, List.length_drop]; omega
  have ht : (q.take m).length = m := by rw [List.length_take]; omega
  have hd : (q.drop m).length = q.length - m := by rw [List.length_drop]
  have f1 : r + (q.take m).length ≤ K.length := by omega
  have l1 : (splice K r (q.take m)).length = S := by rw [length_splice _ _ _ f1, hl]
  have f2 : 0 + (q.drop m).length ≤ (splice K r (q.take m)).length := by omega
  have hqm : ∀ z ∈ q, 0 ≤ z ∧ z ≤ 255 := fun z hz => hp z (by rw [hq] at hz; exact List.mem_of_mem_drop hz)
  refine ⟨by rw [length_splice _ _ _ f2, l1], ?_, ?_⟩
  · intro z hz
    rcases splice_mem hz with hz | hz
    · rcases splice_mem hz with hz | hz
      · exact h.bd z hz
      · exact hqm z (List.mem_of_mem_take hz)
    · exact hqm z (List.mem_of_mem_drop hz)
  · intro i h1 h2
    rw [List.length_append] at h1 h2
    rw [splice_getD _ _ _ f2, splice_getD _ _ _ f1, ht, hd]
    have hbase : L.length + p.length - q.length ≤ i ∨ i < L.length + p.length - q.length := by omega
    obtain ⟨base, hb⟩ : ∃ base, base = L.length + p.length - q.length := ⟨_, rfl⟩
    rw [← hb] at hr hbase
    rcases hbase with hi | hi
    · obtain ⟨j, rfl⟩ : ∃ j, i = base + j := ⟨i - base, by omega⟩
      have hj : j < q.length := by omega
      have hmod : (base + j) % S = (r + j) % S := by rw [hr, Nat.mod_add_mod]
      have hv : (L ++ p).getD (base + j) 0 = q.getD j 0 := by
        rw [getD_app6, if_neg (by omega), hq, getD_drop6]
        congr 1
        omega
      rw [hv, hmod]
      by_cases hjr : r + j < S
      · rw [Nat.mod_eq_of_lt hjr, if_neg (by omega), if_pos (by omega), getD_take6 _ _ _ (by omega)]
        congr 1
        omega
      · have e : (r + j) % S = r + j - S := by rw [Nat.mod_eq_sub_mod (by omega), Nat.mod_eq_of_lt (by omega)]
        rw [e, if_pos (by omega), getD_drop6]
        congr 1
        omega
    · have hv : (L ++ p).getD i 0 = L.getD i 0 := by rw [getD_app6, if_pos (by omega)]
      have hK := h.at_ i (by omega) (by omega)
      have hi' : i % S < S := Nat.mod_lt _ hS
      have hno : ∀ j, j < q.length → (r + j) % S ≠ i % S := by
        intro j hj
        have e : (r + j) % S = (base + j) % S := by rw [hr, Nat.mod_add_mod]
        rw [e]
        exact mod_far6 (by omega) (by omega)
      have n1 : ¬ (0 ≤ i % S ∧ i % S < 0 + (q.length - m)) := by
        rintro ⟨_, e⟩
        refine hno (i % S + m) (by omega) ?_
        rw [show r + (i % S + m) = i % S + S by omega, Nat.add_mod_right, Nat.mod_eq_of_lt hi']
      have n2 : ¬ (r ≤ i % S ∧ i % S < r + m) := by
        rintro ⟨e1, e2⟩
        refine hno (i % S - r) (by omega) ?_
        rw [show r + (i % S - r) = i % S by omega, Nat.mod_eq_of_lt hi']
      rw [if_neg n1, if_neg n2, hK, hv]
end Go.Proofs.YtmddnmpldmdllaaDoor
