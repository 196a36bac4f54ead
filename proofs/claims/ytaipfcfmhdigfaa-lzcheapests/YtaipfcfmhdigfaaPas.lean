import Derived.Test.YtaipfcfmhdigfaaPar
import Derived.Test.YtaipfcfmhdigfaaPal
import Derived.Deep.OwnRows
namespace Go.Proofs.Ytaipfcfmhdigfaa
open Go.RowKit
set_option linter.unusedVariables false

/-! The landed lz: a forest of places. -/
theorem make_ints7t (n : Nat) (h : n ≤ 4194304) (w : World) :
    (Instr.makeSlice 89 (.int .i64 (n : Int)) (.int .i64 (n : Int))).run Try.prog w = .ok (.slice (some ⟨w.heap.size, 0, none⟩) n n) (w.alloc (.cells (madeCells #[.int .i64 0] n) 3)) := by
  exact run_make_row' 89 3 (.int .i64 0) 8 Try.underlying89 info_int7 rfl .i64 .i64 n (by omega) (by omega) w
structure Fst (w : World) (B fb m g : Nat) (D : List Int) (a : Option Addr) (n cap W s : Nat) (A : Nat → Int) : Prop where
  hp : w.heap[fb]? = some (.cells #[.slice a n cap, .int .i64 (W : Int), .map (some m), .slice (some ⟨g, 0, none⟩) (2 * n) (2 * n)] 112 (0, 0))
  row : RowI w g (2 * n) A
  mp : MapK w m s (lst7 D s)
  seg : Seg w a D
  fg : fb ≠ g
  mg : m ≠ g
  gl : g < w.heap.size
  bf : B ≤ fb
  bm : B ≤ m
  bg : B ≤ g
  old : ∀ x off, a = some ⟨x, off, none⟩ → 0 < D.length → x < B
theorem Fst.lt {w : World} {B fb m g : Nat} {D : List Int} {a : Option Addr} {n cap W s : Nat} {A : Nat → Int} (h : Fst w B fb m g D a n cap W s A) : fb < w.heap.size := (Array.getElem?_eq_some_iff.1 h.hp).1
theorem Fst.fm {w : World} {B fb m g : Nat} {D : List Int} {a : Option Addr} {n cap W s : Nat} {A : Nat → Int} (h : Fst w B fb m g D a n cap W s A) : fb ≠ m := by
  intro e
  obtain ⟨D', ⟨es, cl, e4, _⟩, _⟩ := h.mp
  rw [← e, h.hp] at e4
  cases e4
theorem Fst.kps {w w' : World} {S : Nat → Prop} {B fb m g : Nat} {D : List Int} {a : Option Addr} {n cap W s : Nat} {A : Nat → Int} (h : Fst w B fb m g D a n cap W s A) (hk : Kp S w w') (h1 : ¬ S fb) (h2 : ¬ S m) (h3 : ¬ S g) (hB : ∀ k, S k → B ≤ k) : Fst w' B fb m g D a n cap W s A :=
  ⟨hk.heap h.hp h1, h.row.of_block (hk.block g h.gl h3), h.mp.block (hk.block m h.mp.lt h2), h.seg.kp hk (fun x off e h0 hS => by have h1 := h.old x off e h0; have h2 := hB x hS; omega), h.fg, h.mg, Nat.lt_of_lt_of_le h.gl hk.size, h.bf, h.bm, h.bg, h.old⟩
theorem Fst.kp {w w' : World} {B fb m g : Nat} {D : List Int} {a : Option Addr} {n cap W s : Nat} {A : Nat → Int} (h : Fst w B fb m g D a n cap W s A) (hb : Below w.heap.size w w') : Fst w' B fb m g D a n cap W s A :=
  h.kps (S := fun _ => False) (Kp.of_below hb) (fun e => e) (fun e => e) (fun e => e) (fun _ e => e.elim)
theorem Fst.cells {w : World} {B fb m g : Nat} {D : List Int} {a : Option Addr} {n cap W s : Nat} {A : Nat → Int} (h : Fst w B fb m g D a n cap W s A) : w.cell? ⟨fb, 0, none⟩ = some (.slice a n cap) ∧ w.cell? ⟨fb, 1, none⟩ = some (.int .i64 (W : Int)) ∧ w.cell? ⟨fb, 2, none⟩ = some (.map (some m)) ∧ w.cell? ⟨fb, 3, none⟩ = some (.slice (some ⟨g, 0, none⟩) (2 * n) (2 * n)) := by
  have := h.hp
  refine ⟨?_, ?_, ?_, ?_⟩ <;> simp [World.cell?, this]
theorem Fst.set {w : World} {B fb m g : Nat} {D : List Int} {a : Option Addr} {n cap W s : Nat} {A : Nat → Int} (h : Fst w B fb m g D a n cap W s A) {i : Nat} (hi : i < 2 * n) (x : Int) : Fst (w.setCell ⟨g, i, none⟩ (.int .i64 x)) B fb m g D a n cap W s (updI A i x) := by
  have hk : Kp (fun k => k = g) w (w.setCell ⟨g, i, none⟩ (.int .i64 x)) := Kp.set (S := fun k => k = g) rfl _
  exact ⟨hk.heap h.hp h.fg, h.row.set hi x, h.mp.block (hk.block m h.mp.lt h.mg), h.seg.kp hk (fun y off e h0 hS => by have h1 := h.old y off e h0; have h2 := h.bg; omega), h.fg, h.mg, Nat.lt_of_lt_of_le h.gl hk.size, h.bf, h.bm, h.bg, h.old⟩
theorem fst_new {D : List Int} (a : Option Addr) (n cap W : Nat) (w : World) (hs : Seg w a D) (B : Nat) (hB : B ≤ w.heap.size) (hold : ∀ x off, a = some ⟨x, off, none⟩ → 0 < D.length → x < B) :
    Fst (((w.alloc (.map #[] 0)).alloc (.cells (madeCells #[.int .i64 0] (2 * n)) 3)).alloc (.cells #[.slice a n cap, .int .i64 (W : Int), .map (some w.heap.size), .slice (some ⟨w.heap.size + 1, 0, none⟩) (2 * n) (2 * n)] 112)) B (w.heap.size + 1 + 1) w.heap.size (w.heap.size + 1) D a n cap W 0 (fun _ => 0) := by
  have b1 : Below w.heap.size w (w.alloc (.map #[] 0)) := (Below.refl _ _).alloc (Nat.le_refl _) _
  have hm := MapK.made w
  have hz : (w.alloc (.map #[] 0)).heap.size = w.heap.size + 1 := by simp
  generalize w.alloc (.map #[] 0) = w1 at *
  have hr := rowI_made w1 (2 * n) 3
  have b2 : Below w1.heap.size w1 (w1.alloc (.cells (madeCells #[.int .i64 0] (2 * n)) 3)) := (Below.refl _ _).alloc (Nat.le_refl _) _
  have hz2 : (w1.alloc (.cells (madeCells #[.int .i64 0] (2 * n)) 3)).heap.size = w.heap.size + 1 + 1 := by simp [hz]
  rw [hz] at hr
  generalize w1.alloc (.cells (madeCells #[.int .i64 0] (2 * n)) 3) = w2 at *
  have hn := heap_alloc_new w2 (.cells #[.slice a n cap, .int .i64 (W : Int), .map (some w.heap.size), .slice (some ⟨w.heap.size + 1, 0, none⟩) (2 * n) (2 * n)] 112)
  have b3 : Below w2.heap.size w2 (w2.alloc (.cells #[.slice a n cap, .int .i64 (W : Int), .map (some w.heap.size), .slice (some ⟨w.heap.size + 1, 0, none⟩) (2 * n) (2 * n)] 112)) := below_box _ _
  rw [hz2] at hn
  generalize w2.alloc (.cells #[.slice a n cap, .int .i64 (W : Int), .map (some w.heap.size), .slice (some ⟨w.heap.size + 1, 0, none⟩) (2 * n) (2 * n)] 112) = w3 at *
  refine ⟨hn, hr.of_block (b3.block _ (by omega)), (hm.block (b2.block _ (by omega))).block (b3.block _ (by omega)), ((hs.old b1).old b2).old b3, by omega, by omega, by have := b3.size; omega, by omega, hB, by omega, hold⟩
set_option maxRecDepth 100000 in
set_option maxHeartbeats 1000000 in
theorem pnewf7 (D : List Int) (a : Option Addr) (n cap W : Nat) (w : World) (hs : Seg w a D) (B : Nat) (hB : B ≤ w.heap.size) (hold : ∀ x off, a = some ⟨x, off, none⟩ → 0 < D.length → x < B) (hl : n ≤ 1048576) :
    Calls Try.prog 51 #[.slice a n cap, .int .i64 (W : Int)] w fun e w' => ∃ fb m g, e = .returned (.pointer (some ⟨fb, 0, none⟩)) ∧ Fst w' B fb m g D a n cap W 0 (fun _ => 0) ∧ Below w.heap.size w w' := by
  have hmm := @run_makeMap Try.prog
  have hmk := make_ints7t (2 * n) (by omega)
  have hw2 : IntKind.i64.wrap (2 * (n : Int)) = ((2 * n : Nat) : Int) := by rw [IntWalk.i64_in _ (by omega)]; omega
  have HF := fst_new (D := D) a n cap W w hs B hB hold
  have HB : Below w.heap.size w (((w.alloc (.map #[] 0)).alloc (.cells (madeCells #[.int .i64 0] (2 * n)) 3)).alloc (.cells #[.slice a n cap, .int .i64 (W : Int), .map (some w.heap.size), .slice (some ⟨w.heap.size + 1, 0, none⟩) (2 * n) (2 * n)] 112)) := by
    have b1 : Below w.heap.size w (w.alloc (.map #[] 0)) := (Below.refl _ _).alloc (Nat.le_refl _) _
    have b2 := b1.alloc b1.size (.cells (madeCells #[.int .i64 0] (2 * n)) 3)
    exact b2.alloc b2.size _
  obtain ⟨N, hN⟩ : ∃ N, N = 2 * n := ⟨_, rfl⟩
  rw [← hN] at hmk hw2
  have hi : 2 * (n : Int) = (N : Int) := by omega
  have HE : Hid (N = 2 * n) := hN
  have HF2 : Hid _ := HF
  have HB2 : Hid _ := HB
  clear hN HF HB
  go_enter Try.func51, Try.ntmps51
  go_wp2_with fail
  go_ret
  rw [HE.out]
  exact ⟨_, _, _, rfl, HF2.out, HB2.out⟩
end Go.Proofs.Ytaipfcfmhdigfaa

namespace Go.Proofs.Ytaipfcfmhdigfaa
open Go.RowKit
set_option linter.unusedVariables false

set_option maxRecDepth 100000 in
set_option maxHeartbeats 4000000 in
theorem pplant7 (B fb m g : Nat) (D : List Int) (a : Option Addr) (n cap W s : Nat) (A : Nat → Int) (hn : Hid (D.length = n)) (w : World) (h : Fst w B fb m g D a n cap W s A) (hs : s + 2 < n) (hl : n ≤ 1048576) :
    Calls Try.prog 54 #[.pointer (some ⟨fb, 0, none⟩), .int .i64 (s : Int)] w fun e w' => e = .returned (.int .i64 (lst7 D s (D.getD s 0) (D.getD (s + 1) 0) (D.getD (s + 2) 0))) ∧ Fst w' B fb m g D a n cap W (s + 1) A ∧ Kp (fun k => k = m) w w' := by
  have CK := pkey7 D a n cap s hn w h.seg hs (by omega)
  have bx := h.seg.bd s
  have byy := h.seg.bd (s + 1)
  have bz := h.seg.bd (s + 2)
  obtain ⟨c0, c1, c2, c3⟩ := h.cells
  have HST : Hid (lst7 D (s + 1) = fun x' y' z' => if x' = D.getD s 0 ∧ y' = D.getD (s + 1) 0 ∧ z' = D.getD (s + 2) 0 then (s : Int) else lst7 D s x' y' z') := rfl
  generalize D.getD s 0 = x at *
  generalize D.getD (s + 1) 0 = y at *
  generalize D.getD (s + 2) 0 = z at *
  have HC : Hid (Fst w B fb m g D a n cap W s A) := h
  have hbw := h.lt
  obtain ⟨pv, hpv⟩ : ∃ pv, pv = lst7 D s x y z := ⟨_, rfl⟩
  rw [← hpv]
  have HPV : Hid (pv = lst7 D s x y z) := hpv
  clear h hpv
  go_enter Try.func54, Try.ntmps54
  go_wp2_with fail
  refine CK.mono ?_
  rintro e w1 ⟨rfl, b1⟩
  have bA : Below w1.heap.size w1 (w1.alloc (.cells #[.int .u8 x, .int .u8 y, .int .u8 z] 97)) := below_box _ _
  have hCX := ((show Fst w B fb m g D a n cap W s A from HC.out).kp b1).kp bA
  have BX : Below w.heap.size w (w1.alloc (.cells #[.int .u8 x, .int .u8 y, .int .u8 z] 97)) := b1.trans (bA.mono b1.size)
  have hKX := heap_alloc_new w1 (.cells #[.int .u8 x, .int .u8 y, .int .u8 z] 97)
  obtain ⟨wX, hwX⟩ : ∃ wX, wX = w1.alloc (.cells #[.int .u8 x, .int .u8 y, .int .u8 z] 97) := ⟨_, rfl⟩
  obtain ⟨ob, hob⟩ : ∃ ob, ob = w1.heap.size := ⟨_, rfl⟩
  have HWX : Hid (wX = w1.alloc (.cells #[.int .u8 x, .int .u8 y, .int .u8 z] 97)) := hwX
  have HOB : Hid (ob = w1.heap.size) := hob
  rw [← hwX] at hCX hKX BX
  rw [← hob] at hKX
  have k0 : wX.cell? ⟨ob, 0, none⟩ = some (.int .u8 x) := three_cell0 hKX
  have k1 : wX.cell? ⟨ob, 1, none⟩ = some (.int .u8 y) := three_cell1 hKX
  have k2 : wX.cell? ⟨ob, 2, none⟩ = some (.int .u8 z) := three_cell2 hKX
  obtain ⟨d0, d1, d2, d3⟩ := hCX.cells
  obtain ⟨v, ok, hr, hcs⟩ := (hCX.mp.block (w' := wX.drew) rfl).look bx byy bz
  obtain ⟨w6, hr6, m6, g6⟩ := (hCX.mp.block (w' := wX.drew.drew) rfl).store (by unfold maxLen; omega) bx byy bz s (by omega)
  have HN6 : Hid (Fst w6 B fb m g D a n cap W (s + 1) A) := by
    have hb6 : ∀ k, k < wX.heap.size → k ≠ m → w6.heap[k]? = wX.heap[k]? := fun k h1 h2 => g6.block k h1 (fun e => h2 (by cases e; rfl))
    exact ⟨(hb6 fb hCX.lt hCX.fm).trans hCX.hp, hCX.row.of_block (hb6 g hCX.gl (Ne.symm hCX.mg)), by rw [HST.out]; exact m6, hCX.seg.drew.drew.grown g6 (fun x off e h0 e2 => by cases e2; have := hCX.old _ off e h0; have := hCX.bm; omega), hCX.fg, hCX.mg, Nat.lt_of_lt_of_le hCX.gl g6.size, hCX.bf, hCX.bm, hCX.bg, hCX.old⟩
  have B6 : Kp (fun k => k = m) w w6 := by
    have h1 : Kp (fun k => k = m) w wX := Kp.of_below BX
    have h2 : Kp (fun k => k = m) wX.drew.drew w6 := Kp.grown (S := fun k => k = m) g6 (fun k e => by cases e; rfl)
    have h3 : Kp (fun k => k = m) wX w6 := ⟨h2.os, h2.tape, h2.output, h2.size, h2.block⟩
    exact h1.trans h3 (fun _ _ e => e)
  clear hwX hob hCX hKX CK HC c0 c1 c2 c3 d0 d1 d3 bA m6 g6
  rw [← HPV.out] at hcs
  rcases hcs with ⟨rfl, rfl, hv⟩ | ⟨rfl, hf⟩
  · go_wp2_with fail
    rw [← HWX.out, ← HOB.out]
    go_region
    all_goals go_wp2
    all_goals go_region
    all_goals go_wp2
    all_goals go_ret
    all_goals exact ⟨rfl, HN6.out, B6⟩
  · clear HPV
    subst hf
    go_wp2_with fail
    rw [← HWX.out, ← HOB.out]
    go_region
    all_goals go_wp2
    all_goals go_region
    all_goals go_wp2
    all_goals go_ret
    all_goals exact ⟨rfl, HN6.out, B6⟩
end Go.Proofs.Ytaipfcfmhdigfaa

namespace Go.Proofs.Ytaipfcfmhdigfaa
open Go.RowKit
set_option linter.unusedVariables false

/-! How far a place has been brought down, without memory. -/
structure Sn7 (D : List Int) (W s : Nat) (A0 : Nat → Int) (t0 : Bt7) (L0 : List (Nat × Nat)) (t : Bt7) (A : Nat → Int) (v : Int) (less more n1 n2 most : Nat) (L : List (Nat × Nat)) : Prop where
  rc : L ++ vis7 D s W t most = L0 ++ rec7 D s W
  is : IsT7 A v t
  cn : Cn7 t less more
  ok : t.Ok D
  dj : t.Dj
  mem : ∀ q, t.mem q → q < s
  sw : Sw7 D s t n1 n2
  l1 : n1 ≤ lim7 D s
  l2 : n2 ≤ lim7 D s
  k1 : less ≤ 2 * s + 1
  k2 : more ≤ 2 * s + 1
  m2 : most ≤ 258
  po : ∀ A', Po7 D s W A t less more A' → Po7 D s W A0 t0 (2 * s) (2 * s + 1) A'
theorem sn7_start {D : List Int} {W s : Nat} {A : Nat → Int} {t : Bt7} (hs : s + 2 < D.length) (ht : Tr7 D W s A (D.getD s 0) (D.getD (s + 1) 0) (D.getD (s + 2) 0) t) (L : List (Nat × Nat)) : Sn7 D W s A t L t A (lst7 D s (D.getD s 0) (D.getD (s + 1) 0) (D.getD (s + 2) 0)) (2 * s) (2 * s + 1) 3 3 2 L := by
  have h3 : 3 ≤ lim7 D s := by unfold lim7; omega
  refine ⟨by rw [tr7_rec hs ht], ht.is, ⟨by omega, ?_, ?_⟩, ht.ok, ht.dj, fun q hq => (ht.mem q hq).1, sw7_start ht, h3, h3, by omega, by omega, by omega, fun A' h => h⟩
  · rintro ⟨q, a, b⟩
    have := (ht.mem q a).1
    omega
  · rintro ⟨q, a, b⟩
    have := (ht.mem q a).1
    omega
theorem sn7_len {D : List Int} {W s : Nat} {A0 : Nat → Int} {t0 : Bt7} {L0 : List (Nat × Nat)} {t : Bt7} {A : Nat → Int} {v : Int} {less more n1 n2 most : Nat} {L : List (Nat × Nat)} (h : Sn7 D W s A0 t0 L0 t A v less more n1 n2 most L) : L.length ≤ L0.length + 256 := by
  have h1 := congrArg List.length h.rc
  have h2 := rec7_len D s W
  simp only [List.length_append] at h1
  omega
theorem sn7_nil {D : List Int} {W s : Nat} {A0 : Nat → Int} {t0 : Bt7} {L0 : List (Nat × Nat)} {A : Nat → Int} {v : Int} {less more n1 n2 most : Nat} {L : List (Nat × Nat)} (h : Sn7 D W s A0 t0 L0 .nil A v less more n1 n2 most L) : v = -1 ∧ L = L0 ++ rec7 D s W ∧ Po7 D s W A0 t0 (2 * s) (2 * s + 1) (updI (updI A less (-1)) more (-1)) := by
  refine ⟨h.is, ?_, h.po _ (po7_none h.cn rfl)⟩
  have := h.rc
  rw [vis7, List.append_nil] at this
  exact this
section
variable {D : List Int} {W s : Nat} {A0 : Nat → Int} {t0 : Bt7} {L0 : List (Nat × Nat)} {A : Nat → Int} {v : Int} {less more n1 n2 most p : Nat} {l r : Bt7} {L : List (Nat × Nat)}
theorem sn7_far (h : Sn7 D W s A0 t0 L0 (.node p l r) A v less more n1 n2 most L) (hw : W < s - p) : L = L0 ++ rec7 D s W ∧ Po7 D s W A0 t0 (2 * s) (2 * s + 1) (updI (updI A less (-1)) more (-1)) := by
  refine ⟨?_, h.po _ (po7_none h.cn (by rw [spl7, if_pos hw]))⟩
  have := h.rc
  rw [vis7, if_pos hw, List.append_nil] at this
  exact this
def new7 (D : List Int) (s p most : Nat) (L : List (Nat × Nat)) : List (Nat × Nat) := if most < al7 D p s then L ++ [(al7 D p s, s - p)] else L
theorem new7_eq (L : List (Nat × Nat)) : new7 D s p most L = L ++ (if most < al7 D p s then [(al7 D p s, s - p)] else []) := by
  unfold new7
  split
  · rfl
  · rw [List.append_nil]
theorem sn7_facts (h : Sn7 D W s A0 t0 L0 (.node p l r) A v less more n1 n2 most L) (hs : s ≤ D.length) : v = (p : Int) ∧ p < s ∧ min n1 n2 ≤ al7 D p s ∧ al7 D p s ≤ lim7 D s ∧ less ≠ 2 * p ∧ less ≠ 2 * p + 1 ∧ more ≠ 2 * p ∧ more ≠ 2 * p + 1 ∧ less ≠ more :=
  ⟨h.is.1, h.mem p (.inl rfl), sw7_known h.sw hs (by have := h.l1; omega) (.inl rfl), al7_lim hs, fun e => h.cn.l ⟨p, .inl rfl, .inl e⟩, fun e => h.cn.l ⟨p, .inl rfl, .inr e⟩, fun e => h.cn.m ⟨p, .inl rfl, .inl e⟩, fun e => h.cn.m ⟨p, .inl rfl, .inr e⟩, h.cn.ne⟩
theorem sn7_full (h : Sn7 D W s A0 t0 L0 (.node p l r) A v less more n1 n2 most L) (hw : ¬ W < s - p) (hn : al7 D p s = lim7 D s) : new7 D s p most L = L0 ++ rec7 D s W ∧ Po7 D s W A0 t0 (2 * s) (2 * s + 1) (updI (updI A less (A (2 * p))) more (A (2 * p + 1))) := by
  refine ⟨?_, h.po _ (po7_full h.is h.cn hw hn)⟩
  have := h.rc
  rw [vis7, if_neg hw, if_pos hn, List.append_nil] at this
  rw [new7_eq]
  exact this
theorem isT7_bd {A : Nat → Int} {v : Int} {t : Bt7} {p : Nat} (h : IsT7 A v t) (hm : ∀ q, t.mem q → q < p) : -1 ≤ v ∧ v < (p : Int) := by
  cases t with
  | nil => have : v = -1 := h; omega
  | node q l r => have := h.1; have := hm q (.inl rfl); omega
theorem sn7_right (h : Sn7 D W s A0 t0 L0 (.node p l r) A v less more n1 n2 most L) (hs : s ≤ D.length) (hw : ¬ W < s - p) (hn : ¬ al7 D p s = lim7 D s) (hl : sf7 D p (al7 D p s) < sf7 D s (al7 D p s)) :
    Sn7 D W s A0 t0 L0 r (updI A less (p : Int)) (A (2 * p + 1)) (2 * p + 1) more (al7 D p s) n2 (max most (al7 D p s)) (new7 D s p most L) ∧ updI A less (p : Int) (2 * p + 1) = A (2 * p + 1) ∧ -1 ≤ A (2 * p + 1) ∧ A (2 * p + 1) < (p : Int) := by
  obtain ⟨q1, q2, q3, q4⟩ := po7_right h.is h.dj h.cn hw hn hl
  have hb := isT7_bd q1 (fun q hq => (h.ok.2.1 q hq).1)
  have hp := h.mem p (.inl rfl)
  refine ⟨⟨?_, q1, q2, h.ok.2.2.2, h.dj.2.2.2.2, fun q hq => h.mem q (.inr (.inr hq)), sw7_right h.sw h.ok hs hp, al7_lim hs, h.l2, by omega, h.k2, by have := al7_le D p s; have := h.m2; omega, fun A' hA => h.po A' (q4 A' hA)⟩, q3, hb⟩
  have := h.rc
  rw [vis7, if_neg hw, if_neg hn, if_pos hl, ← List.append_assoc] at this
  rw [new7_eq]
  exact this
theorem sn7_left (h : Sn7 D W s A0 t0 L0 (.node p l r) A v less more n1 n2 most L) (hs : s ≤ D.length) (hw : ¬ W < s - p) (hn : ¬ al7 D p s = lim7 D s) (hl : ¬ sf7 D p (al7 D p s) < sf7 D s (al7 D p s)) :
    Sn7 D W s A0 t0 L0 l (updI A more (p : Int)) (A (2 * p)) less (2 * p) n1 (al7 D p s) (max most (al7 D p s)) (new7 D s p most L) ∧ updI A more (p : Int) (2 * p) = A (2 * p) ∧ -1 ≤ A (2 * p) ∧ A (2 * p) < (p : Int) := by
  obtain ⟨q1, q2, q3, q4⟩ := po7_left h.is h.dj h.cn hw hn hl
  have hb := isT7_bd q1 (fun q hq => (h.ok.1 q hq).1)
  have hp := h.mem p (.inl rfl)
  refine ⟨⟨?_, q1, q2, h.ok.2.2.1, h.dj.2.2.2.1, fun q hq => h.mem q (.inr (.inl hq)), sw7_left h.sw h.ok hs hp, h.l1, al7_lim hs, h.k1, by omega, by have := al7_le D p s; have := h.m2; omega, fun A' hA => h.po A' (q4 A' hA)⟩, q3, hb⟩
  have := h.rc
  rw [vis7, if_neg hw, if_neg hn, if_neg hl, ← List.append_assoc] at this
  rw [new7_eq]
  exact this
end
/-! Rows of matches of the call's own. -/
def flatR (L : List (Nat × Nat)) : List Value := L.flatMap fun x => [.int .u16 (x.1 : Int), .int .u16 (x.2 : Int)]
theorem flatR_app (l r : List (Nat × Nat)) : flatR (l ++ r) = flatR l ++ flatR r := by unfold flatR; rw [List.flatMap_append]
theorem info_rch : (Try.prog.info? 88).map (fun i => (i.zero, i.size, i.bytes)) = some (some (.agg #[.int .u16 0, .int .u16 0]), 2, 4) := by kernel_rfl
theorem wpList_appRF {P : Program} {ops : Array Oper} {rest : List Oper} {o : Oper} {a : Act} {Q : Exit → Act → World → Prop} (hgd : o.guard = none) (s x : Operand) (t : TypeId)
    (ho : o.op = .call { callee := .builtin .append, args := #[s, x], argTypes := #[t, t] })
    (base : Nat) (e : TypeId) (i : TypeInfo) (z : Value) (bytes : Nat) (ht : P.underlying t = some (.slice e)) (hi : P.info? e = some i) (hz : i.zero = some z)
    (hsize : i.size = 2) (hby : i.bytes = bytes) (hzs : z.cells.size = 2) (w0 : World) (y1 y2 : Nat)
    {ra : Option Addr} {n rc : Nat} {l : List (Nat × Nat)} (hown : w0.ownsRow base e 2 (.slice ra n rc) n (flatR l)) (hs : a.eval s = .slice ra n rc) (hx : a.eval x = .slice (some ⟨w0.heap.size, 0, none⟩) 1 1)
    (h63 : n + 1 ≤ 140737488355328) (hbytes : (n + 1) * bytes ≤ 140737488355328) (hbase : base ≤ w0.heap.size)
    (h : ∀ (g : Nat) (c : Nat) (w' : World), w'.ownsRow base e 2 (.slice (some ⟨g, 0, none⟩) (n + 1) c) (n + 1) (flatR (l ++ [(y1, y2)])) → Kp (fun k => (Value.slice ra n rc).ownBlock = some k) w0 w' → ((Value.slice ra n rc).ownBlock = some g ∨ g = w0.heap.size + 1) → wpList P ops Q rest (a.put o.dst (.slice (some ⟨g, 0, none⟩) (n + 1) c)) w') : wpList P ops Q (o :: rest) a (w0.alloc (.cells #[.int .u16 (y1 : Int), .int .u16 (y2 : Int)] e)) := by
  have hnew : ∀ j u, ([.int .u16 (y1 : Int), .int .u16 (y2 : Int)] : List Value)[j]? = some u → (w0.alloc (.cells #[.int .u16 (y1 : Int), .int .u16 (y2 : Int)] e)).cell? ((⟨w0.heap.size, 0, none⟩ : Addr).add j) = some u := by
    intro j u hu
    have hadd : (⟨w0.heap.size, 0, none⟩ : Addr).add j = ⟨w0.heap.size, j, none⟩ := by unfold Addr.add; split <;> simp_all
    rw [hadd]
    have hh := heap_alloc_new w0 (.cells #[.int .u16 (y1 : Int), .int .u16 (y2 : Int)] e)
    simp only [World.cell?, hh]
    simpa using hu
  refine wpList_append_lies _ hgd s x t ho base e i z 2 bytes ht hi hz hsize hby hzs (by decide) _ n (flatR l) hs (hown.alloc _) ⟨w0.heap.size, 0, none⟩ 1 1 [.int .u16 (y1 : Int), .int .u16 (y2 : Int)] hx rfl hnew (by intro u hu; simp only [List.mem_cons, List.not_mem_nil, or_false] at hu; rcases hu with rfl | rfl <;> rfl) (by decide) (by unfold maxLen; omega) hbytes (by simp; omega) (w0.heap.size + 1) (by simp) ?_
  intro g c w' h1 h2 h3 _
  refine h g c w' (by rw [flatR_app]; exact h1) ?_ h3
  exact (Kp.alloc w0 _).trans (Kp.grown (S := fun k => (Value.slice ra n rc).ownBlock = some k) h2 (fun i e => e)) (fun _ _ e => e)
/-- What the forest and the list of matches may write. -/
def FS (m g : Nat) (v : Value) : Nat → Prop := fun k => k = m ∨ k = g ∨ v.ownBlock = some k
theorem fs_back {w : World} {m g j : Nat} {v v1 : Value} (h : Fresh w v v1) (hj : j < w.heap.size) (e : FS m g v1 j) : FS m g v j := by
  rcases e with e | e | e
  · exact .inl e
  · exact .inr (.inl e)
  · rcases h j e with e | e
    · exact .inr (.inr e)
    · omega
/-- A forest, and beside it a list of matches of the call's own. -/
structure FL (B fb m g : Nat) (D : List Int) (a : Option Addr) (n cap W s : Nat) (A : Nat → Int) (w0 wr : World) (v0 : Value) (la : Option Addr) (ln lc : Nat) (L : List (Nat × Nat)) : Prop where
  own : wr.ownsRow B 88 2 (.slice la ln lc) ln (flatR L)
  len : L.length = ln
  f : Fst wr B fb m g D a n cap W s A
  sep : ∀ k, (Value.slice la ln lc).ownBlock = some k → k ≠ fb ∧ k ≠ m ∧ k ≠ g
  fr : Fresh w0 v0 (.slice la ln lc)
  kp : Kp (FS m g v0) w0 wr
theorem FL.old {B fb m g : Nat} {D : List Int} {a : Option Addr} {n cap W s : Nat} {A : Nat → Int} {w0 wr w2 : World} {v0 : Value} {la : Option Addr} {ln lc : Nat} {L : List (Nat × Nat)} (h : FL B fb m g D a n cap W s A w0 wr v0 la ln lc L) (hb : Below wr.heap.size wr w2) : FL B fb m g D a n cap W s A w0 w2 v0 la ln lc L :=
  ⟨own_belowT h.own hb, h.len, h.f.kp hb, h.sep, h.fr, h.kp.trans (Kp.of_below (S := FS m g v0) hb) (fun _ _ e => e)⟩
theorem FL.drewN {B fb m g : Nat} {D : List Int} {a : Option Addr} {n cap W s : Nat} {A : Nat → Int} {w0 wr : World} {v0 : Value} {la : Option Addr} {ln lc : Nat} {L : List (Nat × Nat)} (h : FL B fb m g D a n cap W s A w0 wr v0 la ln lc L) (k : Nat) : FL B fb m g D a n cap W s A w0 (wr.drewN k) v0 la ln lc L :=
  h.old ⟨rfl, rfl, rfl, Nat.le_refl _, fun _ _ => rfl⟩
theorem FL.set {B fb m g : Nat} {D : List Int} {a : Option Addr} {n cap W s : Nat} {A : Nat → Int} {w0 wr : World} {v0 : Value} {la : Option Addr} {ln lc : Nat} {L : List (Nat × Nat)} (h : FL B fb m g D a n cap W s A w0 wr v0 la ln lc L) {i : Nat} (hi : i < 2 * n) (x : Int) : FL B fb m g D a n cap W s (updI A i x) w0 (wr.setCell ⟨g, i, none⟩ (.int .i64 x)) v0 la ln lc L := by
  have hk : Kp (fun k => k = g) wr (wr.setCell ⟨g, i, none⟩ (.int .i64 x)) := Kp.set (S := fun k => k = g) rfl _
  refine ⟨own_kp3 h.own hk (fun k e => (h.sep k e).2.2), h.len, h.f.set hi x, h.sep, h.fr, h.kp.trans hk (fun k _ e => .inr (.inl e))⟩
theorem FL.push {B fb m g : Nat} {D : List Int} {a : Option Addr} {n cap W s : Nat} {A : Nat → Int} {w0 wr w3 : World} {v0 : Value} {la : Option Addr} {ln lc : Nat} {L : List (Nat × Nat)} (h : FL B fb m g D a n cap W s A w0 wr v0 la ln lc L) {gg c : Nat} {y : Nat × Nat}
    (ho : w3.ownsRow B 88 2 (.slice (some ⟨gg, 0, none⟩) (ln + 1) c) (ln + 1) (flatR (L ++ [y]))) (hK : Kp (fun k => (Value.slice la ln lc).ownBlock = some k) wr w3) (hat : (Value.slice la ln lc).ownBlock = some gg ∨ gg = wr.heap.size + 1) : FL B fb m g D a n cap W s A w0 w3 v0 (some ⟨gg, 0, none⟩) (ln + 1) c (L ++ [y]) := by
  refine ⟨ho, by rw [List.length_append, h.len]; rfl, h.f.kps hK (fun e => (h.sep _ e).1 rfl) (fun e => (h.sep _ e).2.1 rfl) (fun e => (h.sep _ e).2.2 rfl) (fun k e => (h.own.lt k e).1), fun k e => ?_, ?_, ?_⟩
  · have e2 : gg = k := by simpa [Value.ownBlock] using e
    subst e2
    rcases hat with e | e
    · exact h.sep gg e
    · have h1 := h.f.lt
      have h2 := h.f.mp.lt
      have h3 := h.f.gl
      omega
  · refine Fresh.trans7 h.fr (wr := wr) (fun k e => ?_) h.kp.size
    have e2 : gg = k := by simpa [Value.ownBlock] using e
    subst e2
    rcases hat with e | e
    · exact .inl e
    · exact .inr (by omega)
  · refine h.kp.trans hK (fun k hk e => ?_)
    rcases h.fr k e with e | e
    · exact .inr (.inr e)
    · omega
end Go.Proofs.Ytaipfcfmhdigfaa
