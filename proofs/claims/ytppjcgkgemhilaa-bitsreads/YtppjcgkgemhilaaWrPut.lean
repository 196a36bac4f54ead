import Derived.Test.YtppjcgkgemhilaaWrPair
import Derived.Deep.RegionHeld3
namespace Go.Proofs.Ytppjcgkgemhilaa
open Go.RowKit
set_option linter.unusedVariables false

set_option maxHeartbeats 4000000 in
theorem writes_put (b bx B : Nat) (v u : Value) (L : List Bool) (x : Nat) (n : Int) (w : World) (h : Pair w b bx B v u L) (hb : b ≠ bx) (hb1 : b < B) (hb2 : bx < B) (hx : x < 18446744073709551616) (hn0 : -9223372036854775808 ≤ n) (hn1 : n ≤ 9223372036854775807) (hl : L.length ≤ 1073741824) (ba : Option Addr) (bl bc : Nat) :
    Calls Try.prog 10 #[.pointer (some ⟨b, 0, none⟩), .pointer (some ⟨bx, 0, none⟩), .agg #[.int .i64 0, .int .u64 (x : Int), .int .i64 n, .slice ba bl bc]] w fun e w' => e = .returned (.bool true) ∧ Done w w' b bx B v u (putL L x n) := by
  obtain ⟨wA, hwA⟩ : ∃ wA, wA = w.alloc (.cells #[.int .i64 0, .int .u64 (x : Int), .int .i64 n, .slice ba bl bc] 34) := ⟨_, rfl⟩
  have bA : Below w.heap.size w wA := by rw [hwA]; exact (Below.refl _ _).alloc (Nat.le_refl _) _
  have hA : wA.heap[w.heap.size]? = some (.cells #[.int .i64 0, .int .u64 (x : Int), .int .i64 n, .slice ba bl bc] 34 (0, 0)) := by rw [hwA]; exact heap_new w _
  obtain ⟨hc0, hc1, hc2, _⟩ := four_cell hA
  obtain ⟨ob, hob⟩ : ∃ ob, ob = w.heap.size := ⟨_, rfl⟩
  have HW : Hid (wA = w.alloc (.cells #[.int .i64 0, .int .u64 (x : Int), .int .i64 n, .slice ba bl bc] 34)) := hwA
  have HO : Hid (ob = w.heap.size) := hob
  have hbw := h.g.b_lt
  have hxw := h.x.b_lt
  have pA := h.old bA
  have pD : Pair wA.drew b bx B v u L := pA.old ((Below.refl _ _).drew)
  have hvl := h.g.own_lt
  have hul := h.x.own_lt
  rw [← hob] at hc0 hc1 hc2
  have hobv : ¬ WS b v ob := by
    rintro (e | e)
    · omega
    · have := (hvl ob e).2.1; omega
  have hobu : ¬ WS bx u ob := by
    rintro (e | e)
    · omega
    · have := (hul ob e).2.1; omega
  have HP : Hid (∀ W, WrL W b B v L → Calls Try.prog 16 #[.pointer (some ⟨b, 0, none⟩), .int .u64 (x : Int), .int .i64 n] W fun e w' => e = .returned (.int .i64 (errW x n)) ∧ ∃ v', WrL w' b B v' (putL L x n) ∧ Kp (WS b v) W w' ∧ Fresh W v v') := fun W hW => put_any b B v L x n W hW hx hn0 hn1 (by omega)
  have HR : Hid (∀ W, RwL W bx B u L → Calls Try.prog 26 #[.pointer (some ⟨bx, 0, none⟩), .int .u64 (x : Int), .int .i64 n] W fun e w' => e = .returned (.int .i64 (errW x n)) ∧ ∃ v', RwL w' bx B v' (putL L x n) ∧ Kp (WS bx u) W w' ∧ Fresh W u v') := fun W hW => rput_any bx B u L x n W hW hx hn0 hn1 (by omega)
  clear hwA hob hA hvl hul hbw hxw
  generalize errW x n = er at *
  generalize putL L x n = L' at *
  have hoA : ob < wA.drew.heap.size := by have := World.block_lt_of_cell? wA _ hc0; simpa using this
  go_enter Try.func10, Try.ntmps10
  go_wp2_with fail
  rw [← HW.out, ← HO.out]
  go_region_held3 (fun w' => w'.cell? ⟨ob, 1, none⟩ = some (.int .u64 (x : Int)) ∧ w'.cell? ⟨ob, 2, none⟩ = some (.int .i64 n))
    (first
      | go_keep
      | (go_split_ands
         refine ⟨?_, ?_⟩
         · (first | (rw [World.cell?_of_block (a := ⟨ob, 1, none⟩) (kP.block ob (Nat.lt_of_lt_of_le hoA kR.size) hobv)]; assumption) | (rw [World.cell?_of_block (a := ⟨ob, 1, none⟩) (kP.block ob hoA hobv)]; assumption) | (rw [World.cell?_of_block (a := ⟨ob, 1, none⟩) (kR.block ob (Nat.lt_of_lt_of_le hoA kP.size) hobu)]; assumption) | (rw [World.cell?_of_block (a := ⟨ob, 1, none⟩) (kR.block ob hoA hobu)]; assumption))
         · (first | (rw [World.cell?_of_block (a := ⟨ob, 2, none⟩) (kP.block ob (Nat.lt_of_lt_of_le hoA kR.size) hobv)]; assumption) | (rw [World.cell?_of_block (a := ⟨ob, 2, none⟩) (kP.block ob hoA hobv)]; assumption) | (rw [World.cell?_of_block (a := ⟨ob, 2, none⟩) (kR.block ob (Nat.lt_of_lt_of_le hoA kP.size) hobu)]; assumption) | (rw [World.cell?_of_block (a := ⟨ob, 2, none⟩) (kR.block ob hoA hobu)]; assumption))))
    (first
      | (go_at_call 16; refine (HP.out _ (by first | exact pD.g | exact gX)).mono ?_; rintro e wP ⟨rfl, v1, gP, kP, fP⟩; first | (have xX := pD.x.apartW pD.g kP hb hb1 hb2 pD.ap) | skip)
      | (go_at_call 26; refine (HR.out _ (by first | exact pD.x | exact xX)).mono ?_; rintro e wR ⟨rfl, u1, gR, kR, fR⟩; first | (have gX := pD.g.apartR pD.x kR hb hb1 hb2 pD.ap) | skip))
  all_goals
    go_wp2
    go_ret
    refine ⟨by simp, Done.after bA (Done.after (w := wA) ((Below.refl _ _).drew) ?_ ?_) ?_⟩
    · first
        | exact pair_wr pD hb hb1 hb2 gP kP fP gR kR fR
        | exact pair_rw pD hb hb1 hb2 gR kR fR gP kP fP
    · exact pA.g.b_lt
    · exact h.g.b_lt
set_option maxHeartbeats 4000000 in
theorem writes_turned (b bx B : Nat) (v u : Value) (L : List Bool) (x : Nat) (n : Int) (w : World) (h : Pair w b bx B v u L) (hb : b ≠ bx) (hb1 : b < B) (hb2 : bx < B) (hx : x < 18446744073709551616) (hn0 : -9223372036854775808 ≤ n) (hn1 : n ≤ 9223372036854775807) (hl : L.length ≤ 1073741824) (ba : Option Addr) (bl bc : Nat) :
    Calls Try.prog 10 #[.pointer (some ⟨b, 0, none⟩), .pointer (some ⟨bx, 0, none⟩), .agg #[.int .i64 1, .int .u64 (x : Int), .int .i64 n, .slice ba bl bc]] w fun e w' => e = .returned (.bool true) ∧ Done w w' b bx B v u (turnL L x n) := by
  obtain ⟨wA, hwA⟩ : ∃ wA, wA = w.alloc (.cells #[.int .i64 1, .int .u64 (x : Int), .int .i64 n, .slice ba bl bc] 34) := ⟨_, rfl⟩
  have bA : Below w.heap.size w wA := by rw [hwA]; exact (Below.refl _ _).alloc (Nat.le_refl _) _
  have hA : wA.heap[w.heap.size]? = some (.cells #[.int .i64 1, .int .u64 (x : Int), .int .i64 n, .slice ba bl bc] 34 (0, 0)) := by rw [hwA]; exact heap_new w _
  obtain ⟨hc0, hc1, hc2, _⟩ := four_cell hA
  obtain ⟨ob, hob⟩ : ∃ ob, ob = w.heap.size := ⟨_, rfl⟩
  have HW : Hid (wA = w.alloc (.cells #[.int .i64 1, .int .u64 (x : Int), .int .i64 n, .slice ba bl bc] 34)) := hwA
  have HO : Hid (ob = w.heap.size) := hob
  have hbw := h.g.b_lt
  have hxw := h.x.b_lt
  have pA := h.old bA
  have pD : Pair wA.drew b bx B v u L := pA.old ((Below.refl _ _).drew)
  have hvl := h.g.own_lt
  have hul := h.x.own_lt
  rw [← hob] at hc0 hc1 hc2
  have hobv : ¬ WS b v ob := by
    rintro (e | e)
    · omega
    · have := (hvl ob e).2.1; omega
  have hobu : ¬ WS bx u ob := by
    rintro (e | e)
    · omega
    · have := (hul ob e).2.1; omega
  have HP : Hid (∀ W, WrL W b B v L → Calls Try.prog 15 #[.pointer (some ⟨b, 0, none⟩), .int .u64 (x : Int), .int .i64 n] W fun e w' => e = .returned (.int .i64 (errW x n)) ∧ ∃ v', WrL w' b B v' (turnL L x n) ∧ Kp (WS b v) W w' ∧ Fresh W v v') := fun W hW => turned_any b B v L x n W hW hx hn0 hn1 (by omega)
  have HR : Hid (∀ W, RwL W bx B u L → Calls Try.prog 27 #[.pointer (some ⟨bx, 0, none⟩), .int .u64 (x : Int), .int .i64 n] W fun e w' => e = .returned (.int .i64 (errW x n)) ∧ ∃ v', RwL w' bx B v' (turnL L x n) ∧ Kp (WS bx u) W w' ∧ Fresh W u v') := fun W hW => rturned_any bx B u L x n W hW hx hn0 hn1 (by omega)
  clear hwA hob hA hvl hul hbw hxw
  generalize errW x n = er at *
  generalize turnL L x n = L' at *
  have hoA : ob < wA.drew.heap.size := by have := World.block_lt_of_cell? wA _ hc0; simpa using this
  go_enter Try.func10, Try.ntmps10
  go_wp2_with fail
  rw [← HW.out, ← HO.out]
  go_region_held3 (fun w' => w'.cell? ⟨ob, 1, none⟩ = some (.int .u64 (x : Int)) ∧ w'.cell? ⟨ob, 2, none⟩ = some (.int .i64 n))
    (first
      | go_keep
      | (go_split_ands
         refine ⟨?_, ?_⟩
         · (first | (rw [World.cell?_of_block (a := ⟨ob, 1, none⟩) (kP.block ob (Nat.lt_of_lt_of_le hoA kR.size) hobv)]; assumption) | (rw [World.cell?_of_block (a := ⟨ob, 1, none⟩) (kP.block ob hoA hobv)]; assumption) | (rw [World.cell?_of_block (a := ⟨ob, 1, none⟩) (kR.block ob (Nat.lt_of_lt_of_le hoA kP.size) hobu)]; assumption) | (rw [World.cell?_of_block (a := ⟨ob, 1, none⟩) (kR.block ob hoA hobu)]; assumption))
         · (first | (rw [World.cell?_of_block (a := ⟨ob, 2, none⟩) (kP.block ob (Nat.lt_of_lt_of_le hoA kR.size) hobv)]; assumption) | (rw [World.cell?_of_block (a := ⟨ob, 2, none⟩) (kP.block ob hoA hobv)]; assumption) | (rw [World.cell?_of_block (a := ⟨ob, 2, none⟩) (kR.block ob (Nat.lt_of_lt_of_le hoA kP.size) hobu)]; assumption) | (rw [World.cell?_of_block (a := ⟨ob, 2, none⟩) (kR.block ob hoA hobu)]; assumption))))
    (first
      | (go_at_call 15; refine (HP.out _ (by first | exact pD.g | exact gX)).mono ?_; rintro e wP ⟨rfl, v1, gP, kP, fP⟩; first | (have xX := pD.x.apartW pD.g kP hb hb1 hb2 pD.ap) | skip)
      | (go_at_call 27; refine (HR.out _ (by first | exact pD.x | exact xX)).mono ?_; rintro e wR ⟨rfl, u1, gR, kR, fR⟩; first | (have gX := pD.g.apartR pD.x kR hb hb1 hb2 pD.ap) | skip))
  all_goals
    go_wp2
    go_ret
    refine ⟨by simp, Done.after bA (Done.after (w := wA) ((Below.refl _ _).drew) ?_ ?_) ?_⟩
    · first
        | exact pair_wr pD hb hb1 hb2 gP kP fP gR kR fR
        | exact pair_rw pD hb hb1 hb2 gR kR fR gP kP fP
    · exact pA.g.b_lt
    · exact h.g.b_lt
end Go.Proofs.Ytppjcgkgemhilaa
