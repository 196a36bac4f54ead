
import Derived.Test.YthebboppbebffaaRgDis
import Derived.Deep.OwnRows
import Derived.Laws.CopyOwn
import Derived.Lib.SliceRun
namespace Go.Proofs.Ythebboppbebffaa
open Go.RowKit
set_option linter.unusedVariables false

/-! The program's ring: byte i of all that were put in stands at i modulo the size. -/
structure Rnd (S : Nat) (L K : List Int) : Prop where
  len : K.length = S
  bd : ∀ z ∈ K, 0 ≤ z ∧ z ≤ 255
  at_ : ∀ i, i < L.length → L.length ≤ i + S → K.getD (i % S) 0 = L.getD i 0
structure RPk (w : World) (b g S : Nat) (L K : List Int) : Prop where
  hp : w.heap[b]? = some (.cells #[.slice (some ⟨g, 0, none⟩) S S, .int .i64 (L.length : Int)] 40 (0, 0))
  hk : w.heap[g]? = some (.cells (K.map (Value.int .u8)).toArray 5 (0, 0))
  rd : Rnd S L K
  ne : b ≠ g
  bd : ∀ z ∈ L, 0 ≤ z ∧ z ≤ 255
  s1 : 1 ≤ S
  s2 : S ≤ 32768
def FP (b g : Nat) (k : Nat) : Prop := k = b ∨ k = g
def RP (w : World) (b : Nat) (F : Nat → Prop) (S : Nat) (L : List Int) : Prop := ∃ g K, F = FP b g ∧ RPk w b g S L K
variable {w w' : World} {b g S : Nat} {F Q : Nat → Prop} {L K : List Int}
theorem RPk.b_lt (h : RPk w b g S L K) : b < w.heap.size := (Array.getElem?_eq_some_iff.1 h.hp).1
theorem RPk.g_lt (h : RPk w b g S L K) : g < w.heap.size := (Array.getElem?_eq_some_iff.1 h.hk).1
theorem RPk.c0 (h : RPk w b g S L K) : w.cell? ⟨b, 0, none⟩ = some (.slice (some ⟨g, 0, none⟩) S S) := two_cell0 h.hp
theorem RPk.c1 (h : RPk w b g S L K) : w.cell? ⟨b, 1, none⟩ = some (.int .i64 (L.length : Int)) := two_cell1 h.hp
theorem RPk.kp (h : RPk w b g S L K) (hk : Kp Q w w') (hn : Dj (FP b g) Q) : RPk w' b g S L K :=
  ⟨hk.heap h.hp (fun e => hn b (.inl rfl) e), hk.heap h.hk (fun e => hn g (.inr rfl) e), h.rd, h.ne, h.bd, h.s1, h.s2⟩
theorem RPk.old (h : RPk w b g S L K) (hb : Below w.heap.size w w') : RPk w' b g S L K := h.kp (Q := fun _ => False) (Kp.of_below hb) (fun _ _ e => e)
theorem RPk.seg (h : RPk w b g S L K) : Seg w (some ⟨g, 0, none⟩) K := by
  refine ⟨fun i hi => ⟨g, 0, rfl, ?_⟩, by decide, getD_bd (by decide) h.rd.bd⟩
  rw [Nat.zero_add]
  simp [World.cell?, h.hk, List.getD, hi]
theorem RP.lt (h : RP w b F S L) : ∀ k, F k → k < w.heap.size := by
  obtain ⟨g, K, rfl, h⟩ := h
  rintro k (rfl | rfl)
  · exact h.b_lt
  · exact h.g_lt
theorem RP.kp (h : RP w b F S L) (hk : Kp Q w w') (hn : Dj F Q) : RP w' b F S L := by
  obtain ⟨g, K, rfl, h⟩ := h
  exact ⟨g, K, rfl, h.kp hk hn⟩
theorem RP.bd (h : RP w b F S L) : ∀ z ∈ L, 0 ≤ z ∧ z ≤ 255 := by
  obtain ⟨g, K, rfl, h⟩ := h
  exact h.bd
theorem RP.has (h : RP w b F S L) : F b := by
  obtain ⟨g, K, rfl, h⟩ := h
  exact .inl rfl
theorem RP.hp (h : RP w b F S L) : ∃ cs, w.heap[b]? = some (.cells cs 40 (0, 0)) := by
  obtain ⟨g, K, rfl, h⟩ := h
  exact ⟨_, h.hp⟩
theorem RP.old (h : RP w b F S L) (hb : Below w.heap.size w w') : RP w' b F S L := h.kp (Q := fun _ => False) (Kp.of_below hb) (fun _ _ e => e)

/-! New. -/
theorem made_noughts6 (n : Nat) : madeCells #[.int .u8 0] n = ((List.replicate n (0 : Int)).map (Value.int .u8)).toArray := by
  apply Array.toList_inj.1
  rw [toList_madeCells_one]
  simp
theorem run_make6 (n : Nat) (h : n ≤ 140737488355328) (w : World) :
    (Instr.makeSlice 34 (.int .i64 (n : Int)) (.int .i64 (n : Int))).run Try.prog w = .ok (.slice (some ⟨w.heap.size, 0, none⟩) n n) (w.alloc (.cells ((List.replicate n (0 : Int)).map (Value.int .u8)).toArray 5)) := by
  rw [← made_noughts6]
  exact run_make_row' 34 5 (.int .u8 0) 1 Try.underlying34 info_u8r rfl .i64 .i64 n (by omega) (by omega) w
theorem noughts_bd6 (n : Nat) : ∀ z ∈ List.replicate n (0 : Int), 0 ≤ z ∧ z ≤ 255 := by
  intro z hz
  obtain ⟨_, rfl⟩ := List.mem_replicate.1 hz
  decide
theorem heap_new6 (w : World) (cs : Array Value) (t : TypeId) : (w.alloc (.cells cs t)).heap[w.heap.size]? = some (.cells cs t (0, 0)) := by rw [World.alloc]; simp
theorem heap_alloc6 (w : World) (o : Obj) {k : Nat} {x : Obj} (h : w.heap[k]? = some x) : (w.alloc o).heap[k]? = some x := by
  have hk : k < w.heap.size := (Array.getElem?_eq_some_iff.1 h).1
  rw [← h]
  simp only [World.alloc, Array.getElem?_push, Nat.ne_of_lt hk, if_false]
set_option maxRecDepth 100000 in
theorem pnew_no (s : Int) (h : s < 1 ∨ 32768 < s) (w : World) : Calls Try.prog 11 #[.int .i64 s] w fun e w' => e = .returned (.tuple #[.pointer none, .int .i64 60]) ∧ Below w.heap.size w w' := by
  by_cases h1 : s < 1
  · go_enter Try.func11, Try.ntmps11
    go_wp2_with fail
    go_ret2
    exact ⟨rfl, Below.refl _ _⟩
  · have h2 : 32768 < s := by omega
    go_enter Try.func11, Try.ntmps11
    go_wp2_with fail
    go_ret2
    exact ⟨rfl, Below.refl _ _⟩
set_option maxRecDepth 100000 in
theorem pnew_ok (S : Nat) (h1 : 1 ≤ S) (h2 : S ≤ 32768) (w : World) : Calls Try.prog 11 #[.int .i64 (S : Int)] w fun e w' => ∃ b F, e = .returned (.tuple #[.pointer (some ⟨b, 0, none⟩), .int .i64 0]) ∧ RP w' b F S [] ∧ Below w.heap.size w w' ∧ ∀ k, F k → w.heap.size ≤ k := by
  have h1i : ¬ (S : Int) < 1 := by omega
  have h2i : ¬ (32768 : Int) < (S : Int) := by omega
  have hmk := run_make6 S (by omega) w
  obtain ⟨wA, hwA⟩ : ∃ wA, wA = w.alloc (.cells ((List.replicate S (0 : Int)).map (Value.int .u8)).toArray 5) := ⟨_, rfl⟩
  rw [← hwA] at hmk
  have HW : Hid (wA = w.alloc (.cells ((List.replicate S (0 : Int)).map (Value.int .u8)).toArray 5)) := hwA
  clear hwA
  go_enter Try.func11, Try.ntmps11
  go_wp2_with fail
  go_ret2
  have bA : Below w.heap.size w wA := by rw [HW.out]; exact (Below.refl _ _).alloc (Nat.le_refl _) _
  have hsA : wA.heap.size = w.heap.size + 1 := by rw [HW.out]; simp
  have hgA : wA.heap[w.heap.size]? = some (.cells ((List.replicate S (0 : Int)).map (Value.int .u8)).toArray 5 (0, 0)) := by rw [HW.out]; exact heap_new6 _ _ _
  refine ⟨wA.heap.size, rfl, FP wA.heap.size w.heap.size, ⟨w.heap.size, List.replicate S 0, rfl, ?_, heap_alloc6 _ _ hgA, ⟨by simp, noughts_bd6 S, by simp⟩, by omega, by simp, h1, h2⟩, ?_, ?_⟩
  · exact heap_new6 _ _ _
  · exact bA.trans (((Below.refl _ _).alloc (Nat.le_refl _) _).mono bA.size)
  · rintro k (rfl | rfl) <;> omega

/-! made, Total, Room, Held. -/
set_option maxRecDepth 100000 in
theorem pmade (h : RPk w b g S L K) : Calls Try.prog 31 #[.pointer (some ⟨b, 0, none⟩)] w fun e w' => e = .returned (.bool true) ∧ w' = w := by
  have c0 := h.c0
  have h1 : (0 : Int) < (S : Int) := by have := h.s1; omega
  have h2 : 0 < S := h.s1
  clear h
  go_enter Try.func31, Try.ntmps31
  go_wp2_with fail
  go_ret
  exact ⟨rfl, rfl⟩
set_option maxRecDepth 100000 in
theorem ptotal (h : RPk w b g S L K) : Calls Try.prog 15 #[.pointer (some ⟨b, 0, none⟩)] w fun e w' => e = .returned (.int .i64 (L.length : Int)) ∧ w' = w := by
  have c1 := h.c1
  clear h
  generalize L.length = n at *
  go_enter Try.func15, Try.ntmps15
  go_wp2_with fail
  go_ret
  exact ⟨rfl, rfl⟩
set_option maxRecDepth 100000 in
theorem proom (h : RPk w b g S L K) : Calls Try.prog 22 #[.pointer (some ⟨b, 0, none⟩)] w fun e w' => e = .returned (.int .i64 (S : Int)) ∧ w' = w := by
  have c0 := h.c0
  clear h
  go_enter Try.func22, Try.ntmps22
  go_wp2_with fail
  go_ret
  exact ⟨rfl, rfl⟩
set_option maxRecDepth 100000 in
theorem pheld (h : RPk w b g S L K) : Calls Try.prog 16 #[.pointer (some ⟨b, 0, none⟩)] w fun e w' => e = .returned (.int .i64 (heldN S L : Int)) ∧ w' = w := by
  have T := ptotal h
  have R := proom h
  have HH : Hid (heldN S L ≤ L.length ∧ heldN S L ≤ S ∧ (heldN S L = L.length ∨ heldN S L = S)) := by
    show _ ∧ _ ∧ _
    unfold heldN
    omega
  clear h
  generalize heldN S L = hN at *
  generalize L.length = n at *
  go_enter Try.func16, Try.ntmps16
  go_wp2_with fail
  refine T.mono ?_
  rintro e w1 ⟨rfl, rfl⟩
  go_wp2_with fail
  refine R.mono ?_
  rintro e w1 ⟨rfl, rfl⟩
  go_wp2_with fail
  all_goals
    go_ret
    refine ⟨?_, rfl⟩
    have h1 := HH.out
    first
      | (have e : hN = S := by omega
         rw [e]; rfl)
      | (have e : hN = n := by omega
         rw [e]; rfl)

/-! far, place, At. -/
set_option maxRecDepth 100000 in
theorem pfar (d : Int) (h : RPk w b g S L K) : Calls Try.prog 32 #[.pointer (some ⟨b, 0, none⟩), .int .i64 d] w fun e w' => e = .returned (.int .i64 (atE S L d)) ∧ w' = w := by
  have CH := pheld h
  clear h
  by_cases h1 : d < 1
  · have HE : Hid (atE S L d = 61) := by show _ = _; unfold atE; rw [if_neg (by omega)]
    go_enter Try.func32, Try.ntmps32
    go_wp2_with fail
    go_ret
    exact ⟨by rw [HE.out]; rfl, rfl⟩
  · by_cases h2 : (heldN S L : Int) < d
    · have HE : Hid (atE S L d = 61) := by show _ = _; unfold atE; rw [if_neg (by omega)]
      generalize atE S L d = aE at *
      generalize heldN S L = hN at *
      go_enter Try.func32, Try.ntmps32
      go_wp2_with fail
      refine CH.mono ?_
      rintro e w1 ⟨rfl, rfl⟩
      go_wp2_with fail
      go_ret
      exact ⟨by rw [HE.out]; rfl, rfl⟩
    · have HE : Hid (atE S L d = 0) := by show _ = _; unfold atE; rw [if_pos (by omega)]
      generalize atE S L d = aE at *
      generalize heldN S L = hN at *
      go_enter Try.func32, Try.ntmps32
      go_wp2_with fail
      refine CH.mono ?_
      rintro e w1 ⟨rfl, rfl⟩
      go_wp2_with fail
      go_ret
      exact ⟨by rw [HE.out]; rfl, rfl⟩
set_option maxRecDepth 100000 in
/-- Where the byte stands that was put in d back. -/
theorem pplace (n d : Nat) (c0 : w.cell? ⟨b, 0, none⟩ = some (.slice (some ⟨g, 0, none⟩) S S)) (c1 : w.cell? ⟨b, 1, none⟩ = some (.int .i64 (n : Int))) (h1 : 1 ≤ S) (h2 : S ≤ 32768) (hd : d ≤ n) (hl : n ≤ 140737488355328) : Calls Try.prog 33 #[.pointer (some ⟨b, 0, none⟩), .int .i64 (d : Int)] w fun e w' => e = .returned (.int .i64 (((n - d) % S : Nat) : Int)) ∧ Below w.heap.size w w' := by
  obtain ⟨m, hm⟩ : ∃ m, m = n - d := ⟨_, rfl⟩
  have hw : IntKind.i64.wrap ((n : Int) - (d : Int)) = (m : Int) := by rw [IntWalk.i64_in _ (by omega)]; omega
  have hS0 : ¬ (S : Int) = 0 := by omega
  rw [← hm]
  obtain ⟨r, hr⟩ : ∃ r, r = m % S := ⟨_, rfl⟩
  have hrl : r < S := by rw [hr]; exact Nat.mod_lt _ h1
  have HR : Hid (m % S = r) := hr.symm
  rw [← hr]
  have htm : (m : Int).tmod (S : Int) = (r : Int) := by rw [hr, Int.ofNat_tmod]
  have hwr : IntKind.i64.wrap (r : Int) = (r : Int) := IntWalk.i64_in _ (by omega)
  clear hr hm
  go_enter Try.func33, Try.ntmps33
  go_wp2_with fail
  go_quiet (fail)
  go_wp2
  go_ret
  exact ⟨rfl, ⟨rfl, rfl, rfl, Nat.le_refl _, fun _ _ => rfl⟩⟩
end Go.Proofs.Ythebboppbebffaa
