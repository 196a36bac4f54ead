
import Derived.Test.YthebboppbebffaaRgTold
namespace Go.Proofs.Ythebboppbebffaa
open Go.RowKit
set_option linter.unusedVariables false

/-- Both rings have gone on alike. -/
def DoQ (w : World) (b bx S M : Nat) (F G : Nat → Prop) (L : List Int) (e : Ending) (w' : World) : Prop :=
  e = .returned (.bool true) ∧ ∃ F' G' L', RP w' b F' S L' ∧ WR w' bx G' S L' ∧ Dj F' G' ∧ Kp (fun k => F k ∨ G k) w w' ∧ FrP w (fun k => F k ∨ G k) (fun k => F' k ∨ G' k) ∧ L'.length ≤ L.length + M
theorem four_cells {w : World} {b : Nat} {x y z t : Value} {T : TypeId} (h : w.heap[b]? = some (.cells #[x, y, z, t] T (0, 0))) : w.cell? ⟨b, 0, none⟩ = some x ∧ w.cell? ⟨b, 1, none⟩ = some y ∧ w.cell? ⟨b, 2, none⟩ = some z ∧ w.cell? ⟨b, 3, none⟩ = some t := by simp [World.cell?, h]
/-- What stands at the head of a call: both rings, and the call's own four cells in a new block. -/
structure DoI (w wA : World) (b bx S : Nat) (F G : Nat → Prop) (L : List Int) (K D N : Int) (ba : Option Addr) (np bc ob : Nat) : Prop where
  r : RP wA b F S L
  x : WR wA bx G S L
  dj : Dj F G
  bel : Below w.heap.size w wA
  obe : ob = w.heap.size
  lt : ∀ k, F k ∨ G k → k < w.heap.size
  c : wA.cell? ⟨ob, 0, none⟩ = some (.int .i64 K) ∧ wA.cell? ⟨ob, 1, none⟩ = some (.slice ba np bc) ∧ wA.cell? ⟨ob, 2, none⟩ = some (.int .i64 D) ∧ wA.cell? ⟨ob, 3, none⟩ = some (.int .i64 N)
  sz : wA.heap.size = w.heap.size + 1
theorem DoI.new {w : World} {b bx S : Nat} {F G : Nat → Prop} {L : List Int} {K D N : Int} {ba : Option Addr} {np bc : Nat} (h : RP w b F S L) (hw : WR w bx G S L) (hd : Dj F G) :
    DoI w (w.alloc (.cells #[.int .i64 K, .slice ba np bc, .int .i64 D, .int .i64 N] 36)) b bx S F G L K D N ba np bc w.heap.size := by
  have bA : Below w.heap.size w (w.alloc (.cells #[.int .i64 K, .slice ba np bc, .int .i64 D, .int .i64 N] 36)) := (Below.refl _ _).alloc (Nat.le_refl _) _
  refine ⟨h.old bA, hw.old bA, hd, bA, rfl, ?_, four_cells (heap_alloc_new _ _), by simp⟩
  rintro k (e | e)
  · exact h.lt k e
  · exact hw.lt k e
theorem DoQ.same {w w' : World} {b bx S M : Nat} {F G : Nat → Prop} {L : List Int} (h : RP w' b F S L) (hw : WR w' bx G S L) (hd : Dj F G) (hb : Below w.heap.size w w') : DoQ w b bx S M F G L (.returned (.bool true)) w' :=
  ⟨rfl, F, G, L, h, hw, hd, Kp.of_below hb, fun k e => .inl e, by omega⟩
set_option maxRecDepth 100000 in
set_option maxHeartbeats 4000000 in
theorem do_at {b bx S M : Nat} {F G : Nat → Prop} {L : List Int} (D N : Int) (ba : Option Addr) (np bc : Nat) (w : World) (h : RP w b F S L) (hw : WR w bx G S L) (hd : Dj F G) (hl : L.length ≤ 70368744177000) (hS : S ≤ 32768) :
    Calls Try.prog 14 #[.pointer (some ⟨b, 0, none⟩), .pointer (some ⟨bx, 0, none⟩), .agg #[.int .i64 1, .slice ba np bc, .int .i64 D, .int .i64 N]] w fun e w' => DoQ w b bx S M F G L e w' := by
  have I : DoI w _ b bx S F G L 1 D N ba np bc w.heap.size := DoI.new h hw hd
  obtain ⟨wA, hwA⟩ : ∃ wA, wA = w.alloc (.cells #[.int .i64 1, .slice ba np bc, .int .i64 D, .int .i64 N] 36) := ⟨_, rfl⟩
  rw [← hwA] at I
  have HWA : Hid (wA = w.alloc (.cells #[.int .i64 1, .slice ba np bc, .int .i64 D, .int .i64 N] 36)) := hwA
  obtain ⟨ob, hob⟩ : ∃ ob, ob = w.heap.size := ⟨_, rfl⟩
  have HOB : Hid (ob = w.heap.size) := hob
  rw [← hob] at I
  obtain ⟨c0, c1, c2, c3⟩ := I.c
  have hsz := I.sz
  have hoA : ob < wA.heap.size := by omega
  have bA := I.bel
  clear hwA hob h hw
  have CP := pat_any D I.r (by omega)
  have CW : Hid (∀ W, Below wA.heap.size wA W → Calls Try.prog 27 #[.pointer (some ⟨bx, 0, none⟩), .int .i64 D] W fun e w' => e = .returned (.tuple #[.int .u8 (atV S L D), .int .i64 (atE S L D)]) ∧ Below W.heap.size W w') := fun W hW => wat_any D (I.x.old hW) (by omega) hS
  generalize atV S L D = av at *
  generalize atE S L D = ae at *
  go_enter Try.func14, Try.ntmps14
  go_wp2_with fail
  rw [← HWA.out, ← HOB.out]
  refine CP.mono ?_
  rintro e w2 ⟨rfl, B2⟩
  have d2 : w2.cell? ⟨ob, 2, none⟩ = some (.int .i64 D) := (B2.cell (p := ⟨ob, 2, none⟩) hoA).trans c2
  clear c0 c1 c2 c3
  go_wp2_with fail
  refine (CW.out _ B2).mono ?_
  rintro e w3 ⟨rfl, B3⟩
  go_wp2_with fail
  refine (num6_any ae w3).mono ?_
  rintro e w4 ⟨rfl, hw4⟩
  subst w4
  go_wp2_with fail
  go_ret
  have b3 : Below wA.heap.size wA w3 := B2.trans (B3.mono B2.size)
  exact DoQ.same (I.r.old b3) (I.x.old b3) hd (bA.trans (b3.mono bA.size))
set_option maxRecDepth 100000 in
set_option maxHeartbeats 4000000 in
theorem do_none {b bx S M : Nat} {F G : Nat → Prop} {L : List Int} (K D N : Int) (ba : Option Addr) (np bc : Nat) (w : World) (h : RP w b F S L) (hw : WR w bx G S L) (hd : Dj F G) (hl : L.length ≤ 70368744177000) (hS : S ≤ 32768) (hK : K ≠ 0 ∧ K ≠ 1 ∧ K ≠ 2 ∧ K ≠ 3 ∧ K ≠ 4) :
    Calls Try.prog 14 #[.pointer (some ⟨b, 0, none⟩), .pointer (some ⟨bx, 0, none⟩), .agg #[.int .i64 K, .slice ba np bc, .int .i64 D, .int .i64 N]] w fun e w' => DoQ w b bx S M F G L e w' := by
  have I : DoI w _ b bx S F G L K D N ba np bc w.heap.size := DoI.new h hw hd
  obtain ⟨wA, hwA⟩ : ∃ wA, wA = w.alloc (.cells #[.int .i64 K, .slice ba np bc, .int .i64 D, .int .i64 N] 36) := ⟨_, rfl⟩
  rw [← hwA] at I
  have HWA : Hid (wA = w.alloc (.cells #[.int .i64 K, .slice ba np bc, .int .i64 D, .int .i64 N] 36)) := hwA
  obtain ⟨ob, hob⟩ : ∃ ob, ob = w.heap.size := ⟨_, rfl⟩
  have HOB : Hid (ob = w.heap.size) := hob
  rw [← hob] at I
  obtain ⟨c0, c1, c2, c3⟩ := I.c
  have hsz := I.sz
  have hoA : ob < wA.heap.size := by omega
  have bA := I.bel
  clear hwA hob h hw
  have k0 : ¬ K = 0 := hK.1
  have k1 : ¬ K = 1 := hK.2.1
  have k2 : ¬ K = 2 := hK.2.2.1
  have k3 : ¬ K = 3 := hK.2.2.2.1
  have k4 : ¬ K = 4 := hK.2.2.2.2
  have HD : Hid (DoQ w b bx S M F G L (.returned (.bool true)) wA) := DoQ.same I.r I.x hd bA
  rw [HWA.out] at HD
  clear hK I bA
  go_enter Try.func14, Try.ntmps14
  go_wp2_with fail
  go_ret
  exact HD.out
end Go.Proofs.Ythebboppbebffaa
