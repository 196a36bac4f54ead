
import Derived.Test.YtaipfcfmhdigfaaLzT3
import Derived.Test.YtaipfcfmhdigfaaLzP8
import Derived.Deep.OwnRows
namespace Go.Proofs.Ytaipfcfmhdigfaa
open Go.RowKit
set_option linter.unusedVariables false

/-! The landed lz: a forest of places. -/
theorem make_ints7t (n : Nat) (h : n ≤ 4194304) (w : World) :
    (Instr.makeSlice 89 (.int .i64 (n : Int)) (.int .i64 (n : Int))).run Try.prog w = .ok (.slice (some ⟨w.heap.size, 0, none⟩) n n) (w.alloc (.cells (madeCells #[.int .i64 0] n) 3)) := by
  exact run_make_row' 89 3 (.int .i64 0) 8 Try.underlying89 info_int7 rfl .i64 .i64 n (by omega) (by omega) w
structure Fst (w : World) (B fb m g : Nat) (D : List Int) (a : Option Addr) (n cap W s : Nat) (A : Nat → Int) : Prop where
  hp : w.heap[fb]? = some (.cells #[.slice a n cap, .int .i64 (W : Int), .map (some m), .slice (some ⟨g, 0, none⟩) (2 * n) (2 * n)] 112 (0, 0))
  row : RowI w g (2 * n) A
  mp : MapK w m s (lst7 D s)
  seg : Seg w a D
  fg : fb ≠ g
  mg : m ≠ g
  gl : g < w.heap.size
  bf : B ≤ fb
  bm : B ≤ m
  bg : B ≤ g
  old : ∀ x off, a = some ⟨x, off, none⟩ → 0 < D.length → x < B
theorem Fst.lt {w : World} {B fb m g : Nat} {D : List Int} {a : Option Addr} {n cap W s : Nat} {A : Nat → Int} (h : Fst w B fb m g D a n cap W s A) : fb < w.heap.size := (Array.getElem?_eq_some_iff.1 h.hp).1
theorem Fst.fm {w : World} {B fb m g : Nat} {D : List Int} {a : Option Addr} {n cap W s : Nat} {A : Nat → Int} (h : Fst w B fb m g D a n cap W s A) : fb ≠ m := by
  intro e
  obtain ⟨D', ⟨es, cl, e4, _⟩, _⟩ := h.mp
  rw [← e, h.hp] at e4
  cases e4
theorem Fst.kps {w w' : World} {S : Nat → Prop} {B fb m g : Nat} {D : List Int} {a : Option Addr} {n cap W s : Nat} {A : Nat → Int} (h : Fst w B fb m g D a n cap W s A) (hk : Kp S w w') (h1 : ¬ S fb) (h2 : ¬ S m) (h3 : ¬ S g) (hB : ∀ k, S k → B ≤ k) : Fst w' B fb m g D a n cap W s A :=
  ⟨hk.heap h.hp h1, h.row.of_block (hk.block g h.gl h3), h.mp.block (hk.block m h.mp.lt h2), h.seg.kp hk (fun x off e h0 hS => by have h1 := h.old x off e h0; have h2 := hB x hS; omega), h.fg, h.mg, Nat.lt_of_lt_of_le h.gl hk.size, h.bf, h.bm, h.bg, h.old⟩
theorem Fst.kp {w w' : World} {B fb m g : Nat} {D : List Int} {a : Option Addr} {n cap W s : Nat} {A : Nat → Int} (h : Fst w B fb m g D a n cap W s A) (hb : Below w.heap.size w w') : Fst w' B fb m g D a n cap W s A :=
  h.kps (S := fun _ => False) (Kp.of_below hb) (fun e => e) (fun e => e) (fun e => e) (fun _ e => e.elim)
theorem Fst.cells {w : World} {B fb m g : Nat} {D : List Int} {a : Option Addr} {n cap W s : Nat} {A : Nat → Int} (h : Fst w B fb m g D a n cap W s A) : w.cell? ⟨fb, 0, none⟩ = some (.slice a n cap) ∧ w.cell? ⟨fb, 1, none⟩ = some (.int .i64 (W : Int)) ∧ w.cell? ⟨fb, 2, none⟩ = some (.map (some m)) ∧ w.cell? ⟨fb, 3, none⟩ = some (.slice (some ⟨g, 0, none⟩) (2 * n) (2 * n)) := by
  have := h.hp
  refine ⟨?_, ?_, ?_, ?_⟩ <;> simp [World.cell?, this]
theorem Fst.set {w : World} {B fb m g : Nat} {D : List Int} {a : Option Addr} {n cap W s : Nat} {A : Nat → Int} (h : Fst w B fb m g D a n cap W s A) {i : Nat} (hi : i < 2 * n) (x : Int) : Fst (w.setCell ⟨g, i, none⟩ (.int .i64 x)) B fb m g D a n cap W s (updI A i x) := by
  have hk : Kp (fun k => k = g) w (w.setCell ⟨g, i, none⟩ (.int .i64 x)) := Kp.set (S := fun k => k = g) rfl _
  exact ⟨hk.heap h.hp h.fg, h.row.set hi x, h.mp.block (hk.block m h.mp.lt h.mg), h.seg.kp hk (fun y off e h0 hS => by have h1 := h.old y off e h0; have h2 := h.bg; omega), h.fg, h.mg, Nat.lt_of_lt_of_le h.gl hk.size, h.bf, h.bm, h.bg, h.old⟩
theorem fst_new {D : List Int} (a : Option Addr) (n cap W : Nat) (w : World) (hs : Seg w a D) (B : Nat) (hB : B ≤ w.heap.size) (hold : ∀ x off, a = some ⟨x, off, none⟩ → 0 < D.length → x < B) :
    Fst (((w.alloc (.map #[] 0)).alloc (.cells (madeCells #[.int .i64 0] (2 * n)) 3)).alloc (.cells #[.slice a n cap, .int .i64 (W : Int), .map (some w.heap.size), .slice (some ⟨w.heap.size + 1, 0, none⟩) (2 * n) (2 * n)] 112)) B (w.heap.size + 1 + 1) w.heap.size (w.heap.size + 1) D a n cap W 0 (fun _ => 0) := by
  have b1 : Below w.heap.size w (w.alloc (.map #[] 0)) := (Below.refl _ _).alloc (Nat.le_refl _) _
  have hm := MapK.made w
  have hz : (w.alloc (.map #[] 0)).heap.size = w.heap.size + 1 := by simp
  generalize w.alloc (.map #[] 0) = w1 at *
  have hr := rowI_made w1 (2 * n) 3
  have b2 : Below w1.heap.size w1 (w1.alloc (.cells (madeCells #[.int .i64 0] (2 * n)) 3)) := (Below.refl _ _).alloc (Nat.le_refl _) _
  have hz2 : (w1.alloc (.cells (madeCells #[.int .i64 0] (2 * n)) 3)).heap.size = w.heap.size + 1 + 1 := by simp [hz]
  rw [hz] at hr
  generalize w1.alloc (.cells (madeCells #[.int .i64 0] (2 * n)) 3) = w2 at *
  have hn := heap_alloc_new w2 (.cells #[.slice a n cap, .int .i64 (W : Int), .map (some w.heap.size), .slice (some ⟨w.heap.size + 1, 0, none⟩) (2 * n) (2 * n)] 112)
  have b3 : Below w2.heap.size w2 (w2.alloc (.cells #[.slice a n cap, .int .i64 (W : Int), .map (some w.heap.size), .slice (some ⟨w.heap.size + 1, 0, none⟩) (2 * n) (2 * n)] 112)) := below_box _ _
  rw [hz2] at hn
  generalize w2.alloc (.cells #[.slice a n cap, .int .i64 (W : Int), .map (some w.heap.size), .slice (some ⟨w.heap.size + 1, 0, none⟩) (2 * n) (2 * n)] 112) = w3 at *
  refine ⟨hn, hr.of_block (b3.block _ (by omega)), (hm.block (b2.block _ (by omega))).block (b3.block _ (by omega)), ((hs.old b1).old b2).old b3, by omega, by omega, by have := b3.size; omega, by omega, hB, by omega, hold⟩
set_option maxRecDepth 100000 in
set_option maxHeartbeats 1000000 in
theorem pnewf7 (D : List Int) (a : Option Addr) (n cap W : Nat) (w : World) (hs : Seg w a D) (B : Nat) (hB : B ≤ w.heap.size) (hold : ∀ x off, a = some ⟨x, off, none⟩ → 0 < D.length → x < B) (hl : n ≤ 1048576) :
    Calls Try.prog 51 #[.slice a n cap, .int .i64 (W : Int)] w fun e w' => ∃ fb m g, e = .returned (.pointer (some ⟨fb, 0, none⟩)) ∧ Fst w' B fb m g D a n cap W 0 (fun _ => 0) ∧ Below w.heap.size w w' := by
  have hmm := @run_makeMap Try.prog
  have hmk := make_ints7t (2 * n) (by omega)
  have hw2 : IntKind.i64.wrap (2 * (n : Int)) = ((2 * n : Nat) : Int) := by rw [IntWalk.i64_in _ (by omega)]; omega
  have HF := fst_new (D := D) a n cap W w hs B hB hold
  have HB : Below w.heap.size w (((w.alloc (.map #[] 0)).alloc (.cells (madeCells #[.int .i64 0] (2 * n)) 3)).alloc (.cells #[.slice a n cap, .int .i64 (W : Int), .map (some w.heap.size), .slice (some ⟨w.heap.size + 1, 0, none⟩) (2 * n) (2 * n)] 112)) := by
    have b1 : Below w.heap.size w (w.alloc (.map #[] 0)) := (Below.refl _ _).alloc (Nat.le_refl _) _
    have b2 := b1.alloc b1.size (.cells (madeCells #[.int .i64 0] (2 * n)) 3)
    exact b2.alloc b2.size _
  obtain ⟨N, hN⟩ : ∃ N, N = 2 * n := ⟨_, rfl⟩
  rw [← hN] at hmk hw2
  have hi : 2 * (n : Int) = (N : Int) := by omega
  have HE : Hid (N = 2 * n) := hN
  have HF2 : Hid _ := HF
  have HB2 : Hid _ := HB
  clear hN HF HB
  go_enter Try.func51, Try.ntmps51
  go_wp2_with fail
  go_ret
  rw [HE.out]
  exact ⟨_, _, _, rfl, HF2.out, HB2.out⟩
end Go.Proofs.Ytaipfcfmhdigfaa
