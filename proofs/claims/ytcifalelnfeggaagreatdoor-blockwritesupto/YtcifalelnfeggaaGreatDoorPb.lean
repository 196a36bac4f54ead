import Derived.Test.YtcifalelnfeggaaGreatDoorPa
import Derived.Laws.Rows
import Derived.Laws.Tables
import Derived.Laws.CopyOwn
import Derived.Test.YtcifalelnfeggaaGreatDoorProg
import Derived.WalkKit
import Derived.WalkSpells
import Derived.BigQuiet
import Derived.Deep.QuietTactic
import Derived.WalkLawsBesides
import Derived.Deep.RegionHeld3
import Derived.Deep.OwnRows
namespace Go.Proofs.YtcifalelnfeggaaGreatDoor
open Go.RowKit
set_option linter.unusedVariables false

/-! The landed head: most, longest, leading. -/
theorem below_box8 (w : World) (o : Obj) : Below w.heap.size w (w.alloc o) := (Below.refl _ _).alloc (Nat.le_refl _) o
theorem below_boxd8 (w : World) (o : Obj) : Below w.heap.size w ((w.alloc o).drew) := ⟨(below_box8 w o).os, (below_box8 w o).tape, (below_box8 w o).output, (below_box8 w o).size, (below_box8 w o).block⟩
theorem lst8_bd (s : Int) : 1 ≤ lst8 s ∧ lst8 s ≤ 11 := by
  unfold lst8
  split
  · omega
  · split <;> omega
theorem grt8_bd (s : Int) : 1 ≤ grt8 s ∧ grt8 s ≤ 138 := by
  unfold grt8
  split
  · omega
  · split
    · omega
    · split <;> omega
theorem mor8_in (s : Int) : mor8 s = 0 ∨ mor8 s = 2 ∨ mor8 s = 3 ∨ mor8 s = 7 := by
  unfold mor8
  split
  · omega
  · split
    · omega
    · split <;> omega
theorem two_set {w : World} {r : Nat} {a b : Value} {t : TypeId} (h : w.heap[r]? = some (.cells #[a, b] t (0, 0))) (x y : Value) : ((w.setCell ⟨r, 0, none⟩ x).setCell ⟨r, 1, none⟩ y).heap[r]? = some (.cells #[x, y] t (0, 0)) := by
  have h1 := heap_setCell_same w r 0 #[a, b] t x h
  have h2 := heap_setCell_same _ r 1 _ t y h1
  rw [h2]
  rfl
theorem below_two8 {B r : Nat} {w0 w : World} {x y : Value} (hb : Below B w0 w) (hr : B ≤ r) : Below B w0 ((w.setCell ⟨r, 0, none⟩ x).setCell ⟨r, 1, none⟩ y) :=
  ⟨hb.os, hb.tape, hb.output, by simpa using hb.size, fun i hi => by rw [heap_setCell_other _ ⟨r, 1, none⟩ i y (by simp; omega), heap_setCell_other _ ⟨r, 0, none⟩ i x (by simp; omega)]; exact hb.block i hi⟩
theorem TabS.below {w w' : World} {B : Nat} (h : TabS w) (hb : Below B w w') (hB : B = w.heap.size) : TabS w' := by subst hB; exact SegZ.old h hb
set_option maxRecDepth 100000 in
set_option maxHeartbeats 1000000 in
theorem pmost8 (x l : Int) (b : Nat) (hb : b = 0 ∨ b = 2 ∨ b = 3 ∨ b = 7) (hl : 0 ≤ l ∧ l ≤ 11) (w : World) :
    Calls Tryz.prog 175 #[.agg #[.int .i64 x, .int .i64 l, .int .i64 (b : Int)]] w fun e w' => e = .returned (.int .i64 (l + 2 ^ b - 1)) ∧ Below w.heap.size w w' := by
  rcases hb with rfl | rfl | rfl | rfl
  all_goals
    go_enter Tryz.func175, Tryz.ntmps175
    go_wp2_with fail
    go_region
    go_wp2_with fail
    go_ret
    refine ⟨?_, below_boxd8 _ _⟩
    first | rfl | (simp; done) | (simp; omega)
set_option maxRecDepth 100000 in
set_option maxHeartbeats 1000000 in
theorem plongest8 (s k : Nat) (hs : s < 19) (hk : k ≤ 1000000) (w : World) (T : TabS w) :
    Calls Tryz.prog 174 #[.int .i64 (s : Int), .int .i64 (k : Int)] w fun e w' => e = .returned (.agg #[.int .i64 (s : Int), .int .i64 (min (k : Int) (grt8 s))]) ∧ Below w.heap.size w w' := by
  obtain ⟨c0, c1, c2⟩ := T.at8 s hs
  have hz := World.block_lt_of_cell? w _ c0
  simp only at hz
  have hg := grt8_lst (s : Int) (by omega)
  have hl := lst8_bd s
  have CM := pmost8 (sln8 s) (lst8 s) (mor8 s) (mor8_in s) (by omega)
  rw [← hg] at CM
  have hgb := grt8_bd s
  have HC : Hid (∀ w : World, Calls Tryz.prog 175 #[.agg #[.int .i64 (sln8 s), .int .i64 (lst8 s), .int .i64 (mor8 s : Int)]] w fun e w' => e = .returned (.int .i64 (grt8 s)) ∧ Below w.heap.size w w') := CM
  clear CM hg hl
  generalize sln8 (s : Int) = x0 at *
  generalize lst8 (s : Int) = x1 at *
  generalize mor8 (s : Int) = x2 at *
  generalize grt8 (s : Int) = G at *
  have hmin : ∃ M, min (k : Int) G = M ∧ (((k : Int) ≤ G ∧ M = (k : Int)) ∨ (G < (k : Int) ∧ M = G)) := ⟨_, rfl, by omega⟩
  obtain ⟨M, hM, hmin⟩ := hmin
  rw [hM]
  clear hM
  rcases hmin with ⟨h1, rfl⟩ | ⟨h1, rfl⟩
  · go_enter Tryz.func174, Tryz.ntmps174
    go_wp2_with ((go_at_call 175; refine (HC.out _).mono ?_; rintro e w1 ⟨rfl, b1⟩; have hr : w1.heap[w.heap.size]? = some (.cells #[.int .i64 0, .int .i64 0] 211 (0, 0)) := (b1.block _ (by simp)).trans (heap_alloc_new w _); have c8 := cell_of_row w1 _ 0 _ _ _ hr; have d8 := cell_of_row w1 _ 1 _ _ _ hr; have f8 := frozen_of_row w1 _ 0 _ _ hr; have g8 := frozen_of_row w1 _ 1 _ _ hr; simp only [List.getElem?_toArray, List.getElem?_cons_zero, List.getElem?_cons_succ] at c8 d8))
    refine bodyPost_ret (v := .agg #[.int .i64 (s : Int), .int .i64 (k : Int)]) (results_cell_row (fn := Tryz.f174) (p := 4) (ty := 211) rfl _ _ w.heap.size _ _ _ _ rfl (two_set hr _ _) Tryz.underlying211 rfl (by kernel_rfl)) rfl ?_
    refine ⟨rfl, ?_⟩
    have b0 : Below w.heap.size w w1 := (below_box8 w _).trans (b1.mono (by simp))
    exact below_two8 b0 (Nat.le_refl _)
  · go_enter Tryz.func174, Tryz.ntmps174
    go_wp2_with ((go_at_call 175; refine (HC.out _).mono ?_; rintro e w1 ⟨rfl, b1⟩; have hr : w1.heap[w.heap.size]? = some (.cells #[.int .i64 0, .int .i64 0] 211 (0, 0)) := (b1.block _ (by simp)).trans (heap_alloc_new w _); have c8 := cell_of_row w1 _ 0 _ _ _ hr; have d8 := cell_of_row w1 _ 1 _ _ _ hr; have f8 := frozen_of_row w1 _ 0 _ _ hr; have g8 := frozen_of_row w1 _ 1 _ _ hr; simp only [List.getElem?_toArray, List.getElem?_cons_zero, List.getElem?_cons_succ] at c8 d8))
    refine bodyPost_ret (v := .agg #[.int .i64 (s : Int), .int .i64 M]) (results_cell_row (fn := Tryz.f174) (p := 4) (ty := 211) rfl _ _ w.heap.size _ _ _ _ rfl (two_set hr _ _) Tryz.underlying211 rfl (by kernel_rfl)) rfl ?_
    refine ⟨rfl, ?_⟩
    have b0 : Below w.heap.size w w1 := (below_box8 w _).trans (b1.mono (by simp))
    exact below_two8 b0 (Nat.le_refl _)
end Go.Proofs.YtcifalelnfeggaaGreatDoor

namespace Go.Proofs.YtcifalelnfeggaaGreatDoor
open Go.RowKit
set_option linter.unusedVariables false

/-! The landed head: leading, stretch. -/
theorem TabS.one {w : World} (h : TabS w) (i : Nat) (z : Int) (hi : i < 57) (hz : snsL.getD i 0 = z) : w.cell? ⟨0, i, none⟩ = some (.int .i64 z) := by
  obtain ⟨b, o, e, c⟩ := h.at_ i hi
  cases e
  rw [Nat.zero_add, hz] at c
  exact c
set_option maxRecDepth 100000 in
set_option maxHeartbeats 2000000 in
theorem pleading8 (v : Int) (k : Nat) (again : Bool) (hk : k ≤ 1000000) (w : World) (T : TabS w) :
    Calls Tryz.prog 171 #[.int .i64 v, .int .i64 (k : Int), .bool again] w fun e w' => e = .returned (.agg #[.int .i64 (led8 v k again).sy, .int .i64 (led8 v k again).ct]) ∧ Below w.heap.size w w' := by
  have c0 := T.one 55 11 (by omega) rfl
  have c1 := T.one 52 3 (by omega) rfl
  have c2 := T.one 49 3 (by omega) rfl
  have hz := World.block_lt_of_cell? w _ c0
  simp only at hz
  have HC : Hid (∀ (s : Nat), s < 19 → ∀ W : World, Below w.heap.size w W → Calls Tryz.prog 174 #[.int .i64 (s : Int), .int .i64 (k : Int)] W fun e w' => e = .returned (.agg #[.int .i64 (s : Int), .int .i64 (min (k : Int) (grt8 s))]) ∧ Below W.heap.size W w') := fun s hs W hb => plongest8 s k hs hk W (SegZ.old T hb)
  have H18 := HC.out 18 (by omega) _ (below_box8 w (.cells #[.int .i64 0, .int .i64 0] 211))
  have H17 := HC.out 17 (by omega) _ (below_box8 w (.cells #[.int .i64 0, .int .i64 0] 211))
  have H16 := HC.out 16 (by omega) _ (below_box8 w (.cells #[.int .i64 0, .int .i64 0] 211))
  have e18 : grt8 ((18 : Nat) : Int) = 138 := rfl
  have e17 : grt8 ((17 : Nat) : Int) = 10 := rfl
  have e16 : grt8 ((16 : Nat) : Int) = 6 := rfl
  rw [e18] at H18
  rw [e17] at H17
  rw [e16] at H16
  have m18 : min (k : Int) 138 = ((min k 138 : Nat) : Int) := by omega
  have m17 : min (k : Int) 10 = ((min k 10 : Nat) : Int) := by omega
  have m16 : min (k : Int) 6 = ((min k 6 : Nat) : Int) := by omega
  rw [m18] at H18
  rw [m17] at H17
  rw [m16] at H16
  clear HC e18 e17 e16 m18 m17 m16
  by_cases hv : v = 0
  · subst hv
    by_cases h11 : 11 ≤ k
    · have hL : led8 0 k again = ⟨18, (min k 138 : Nat)⟩ := by unfold led8; simp [h11]
      rw [hL]
      have hi : (11 : Int) ≤ (k : Int) := by omega
      clear H17 H16 hL
      generalize ((min k 138 : Nat) : Int) = M at *
      go_enter Tryz.func171, Tryz.ntmps171
      go_wp2_with ((go_at_call 174; refine H18.mono ?_; rintro e w1 ⟨rfl, b1⟩; have hr : w1.heap[w.heap.size]? = some (.cells #[.int .i64 0, .int .i64 0] 211 (0, 0)) := (b1.block _ (by simp)).trans (heap_alloc_new w _); have c8 := cell_of_row w1 _ 0 _ _ _ hr; have d8 := cell_of_row w1 _ 1 _ _ _ hr; have f8 := frozen_of_row w1 _ 0 _ _ hr; have g8 := frozen_of_row w1 _ 1 _ _ hr; simp only [List.getElem?_toArray, List.getElem?_cons_zero, List.getElem?_cons_succ] at c8 d8))
      refine bodyPost_ret (v := .agg #[.int .i64 18, .int .i64 M]) (results_cell_row (fn := Tryz.f171) (p := 6) (ty := 211) rfl _ _ w.heap.size _ _ _ _ rfl (two_set hr _ _) Tryz.underlying211 rfl (by kernel_rfl)) rfl ?_
      refine ⟨rfl, ?_⟩
      have b0 : Below w.heap.size w w1 := (below_box8 w _).trans (b1.mono (by simp))
      exact below_two8 b0 (Nat.le_refl _)
    · have hi : ¬ (11 : Int) ≤ (k : Int) := by omega
      by_cases h3 : 3 ≤ k
      · have hL : led8 0 k again = ⟨17, (min k 10 : Nat)⟩ := by unfold led8; simp [h11, h3]
        rw [hL]
        have hi3 : (3 : Int) ≤ (k : Int) := by omega
        clear H18 H16 hL
        generalize ((min k 10 : Nat) : Int) = M at *
        go_enter Tryz.func171, Tryz.ntmps171
        go_wp2_with ((go_at_call 174; refine H17.mono ?_; rintro e w1 ⟨rfl, b1⟩; have hr : w1.heap[w.heap.size]? = some (.cells #[.int .i64 0, .int .i64 0] 211 (0, 0)) := (b1.block _ (by simp)).trans (heap_alloc_new w _); have c8 := cell_of_row w1 _ 0 _ _ _ hr; have d8 := cell_of_row w1 _ 1 _ _ _ hr; have f8 := frozen_of_row w1 _ 0 _ _ hr; have g8 := frozen_of_row w1 _ 1 _ _ hr; simp only [List.getElem?_toArray, List.getElem?_cons_zero, List.getElem?_cons_succ] at c8 d8))
        refine bodyPost_ret (v := .agg #[.int .i64 17, .int .i64 M]) (results_cell_row (fn := Tryz.f171) (p := 6) (ty := 211) rfl _ _ w.heap.size _ _ _ _ rfl (two_set hr _ _) Tryz.underlying211 rfl (by kernel_rfl)) rfl ?_
        refine ⟨rfl, ?_⟩
        have b0 : Below w.heap.size w w1 := (below_box8 w _).trans (b1.mono (by simp))
        exact below_two8 b0 (Nat.le_refl _)
      · have hL : led8 0 k again = ⟨0, 1⟩ := by unfold led8; simp [h11, h3]
        rw [hL]
        have hi3 : ¬ (3 : Int) ≤ (k : Int) := by omega
        clear H18 H17 H16 hL
        go_enter Tryz.func171, Tryz.ntmps171
        go_wp2_with fail
        refine bodyPost_ret (v := .agg #[.int .i64 0, .int .i64 1]) (results_cell_row (fn := Tryz.f171) (p := 6) (ty := 211) rfl _ _ w.heap.size _ _ _ _ rfl (heap_alloc_new w _) Tryz.underlying211 rfl (by kernel_rfl)) rfl ?_
        exact ⟨rfl, below_box8 w _⟩
  · have hvb : (v == 0) = false := by simp [hv]
    by_cases h3 : again = true ∧ 3 ≤ k
    · obtain ⟨rfl, h3⟩ := h3
      have hL : led8 v k true = ⟨16, (min k 6 : Nat)⟩ := led8_more hv h3
      rw [hL]
      have hi3 : (3 : Int) ≤ (k : Int) := by omega
      clear H18 H17 hL
      generalize ((min k 6 : Nat) : Int) = M at *
      go_enter Tryz.func171, Tryz.ntmps171
      go_wp2_with ((go_at_call 174; refine H16.mono ?_; rintro e w1 ⟨rfl, b1⟩; have hr : w1.heap[w.heap.size]? = some (.cells #[.int .i64 0, .int .i64 0] 211 (0, 0)) := (b1.block _ (by simp)).trans (heap_alloc_new w _); have c8 := cell_of_row w1 _ 0 _ _ _ hr; have d8 := cell_of_row w1 _ 1 _ _ _ hr; have f8 := frozen_of_row w1 _ 0 _ _ hr; have g8 := frozen_of_row w1 _ 1 _ _ hr; simp only [List.getElem?_toArray, List.getElem?_cons_zero, List.getElem?_cons_succ] at c8 d8))
      refine bodyPost_ret (v := .agg #[.int .i64 16, .int .i64 M]) (results_cell_row (fn := Tryz.f171) (p := 6) (ty := 211) rfl _ _ w.heap.size _ _ _ _ rfl (two_set hr _ _) Tryz.underlying211 rfl (by kernel_rfl)) rfl ?_
      refine ⟨rfl, ?_⟩
      have b0 : Below w.heap.size w w1 := (below_box8 w _).trans (b1.mono (by simp))
      exact below_two8 b0 (Nat.le_refl _)
    · have hL : led8 v k again = ⟨v, 1⟩ := by
        unfold led8
        rw [if_neg (by simp [hv]), if_neg (by simp [hv]), if_neg (fun h => h3 h.2)]
      rw [hL]
      clear H18 H17 H16 hL
      have hcase : again = false ∨ (again = true ∧ ¬ (3 : Int) ≤ (k : Int)) := by
        cases again
        · exact .inl rfl
        · exact .inr ⟨rfl, by intro h; exact h3 ⟨rfl, by omega⟩⟩
      clear h3
      rcases hcase with rfl | ⟨rfl, hi3⟩
      all_goals
        go_enter Tryz.func171, Tryz.ntmps171
        go_wp2_with fail
        refine bodyPost_ret (v := .agg #[.int .i64 v, .int .i64 1]) (results_cell_row (fn := Tryz.f171) (p := 6) (ty := 211) rfl _ _ w.heap.size _ _ _ _ rfl (heap_alloc_new w _) Tryz.underlying211 rfl (by kernel_rfl)) rfl ?_
        exact ⟨rfl, below_box8 w _⟩
end Go.Proofs.YtcifalelnfeggaaGreatDoor

namespace Go.Proofs.YtcifalelnfeggaaGreatDoor
open Go.RowKit
set_option linter.unusedVariables false

/-! The document's Runs: the walk. -/
def RsQ (w : World) (ty : TypeId) (R : List Rn8) (er : Int) (e : Ending) (w' : World) : Prop := ∃ oa oc, e = .returned (.tuple #[.slice oa R.length oc, .int .i64 er]) ∧ w'.ownsRow w.heap.size ty 2 (.slice oa R.length oc) R.length (flatN R) ∧ Below w.heap.size w w'
/-- How far Runs has come. -/
def RnI (zs : List Int) (w wr : World) (ty : TypeId) (to ti : Value) : Prop := ∃ (i m oc : Nat) (oa : Option Addr) (R : List Rn8), i ≤ zs.length ∧ m ≤ i ∧ ti = .int .i64 (i : Int) ∧ to = .slice oa m oc ∧ R.length = m ∧ runs8 zs = R ++ rung8 (zs.length - i) (zs.drop i) ∧ wr.ownsRow w.heap.size ty 2 (.slice oa m oc) m (flatN R) ∧ Below w.heap.size w wr
theorem Kp.cellN {S : Nat → Prop} {a b : World} {k o : Nat} {v : Value} (h : Kp S a b) (hc : a.cell? ⟨k, o, none⟩ = some v) (hn : ¬ S k) : b.cell? ⟨k, o, none⟩ = some v := by
  have hl := World.block_lt_of_cell? a _ hc
  have := h.block k hl hn
  simp only [World.cell?] at hc ⊢
  rw [this]
  exact hc
theorem SegN.kp {S : Nat → Prop} {a b : World} {la : Option Addr} {L : List Rn8} (h : SegN a la L) (hk : Kp S a b) (hn : ∀ g o, la = some ⟨g, o, none⟩ → ¬ S g) : SegN b la L :=
  ⟨fun i hi => by
    obtain ⟨g, o, e, c1, c2⟩ := h.at_ i hi
    exact ⟨g, o, e, hk.cellN c1 (hn _ _ e), hk.cellN c2 (hn _ _ e)⟩⟩
theorem own_apartN {w w1 : World} {base n m oc c : Nat} {e e' : TypeId} {oa la : Option Addr} {xs ys : List Value} (h : w.ownsRow base e 2 (.slice oa m oc) m xs) (l : w1.ownsRow w.heap.size e' 2 (.slice la n c) n ys) : ∀ g o, la = some ⟨g, o, none⟩ → (Value.slice oa m oc).ownBlock ≠ some g := by
  intro g o ea hg
  have h1 := (h.lt g hg).2
  rcases l.2 with ⟨h0, _⟩ | ⟨g', cp, cur, hv, hb, _⟩
  · rw [ea] at h0
    simp at h0
  · rw [ea] at hv
    simp only [Value.slice.injEq, Option.some.injEq, Addr.mk.injEq] at hv
    omega
/-- How far Runs has come within a row. -/
def RnX (L R : List Rn8) (w wq : World) (ty : TypeId) (la : Option Addr) (N p m : Nat) (to ti tx : Value) : Prop := ∃ (x p' m' oc : Nat) (oa : Option Addr), x ≤ N ∧ tx = .int .i64 (x : Int) ∧ ti = .int .i64 (p' : Int) ∧ to = .slice oa m' oc ∧ m' = m + x ∧ p' = p + sum8 (L.take x) ∧ wq.ownsRow w.heap.size ty 2 (.slice oa m' oc) m' (flatN (R ++ L.take x)) ∧ Below w.heap.size w wq ∧ SegN wq la L ∧ ∀ g o, la = some ⟨g, o, none⟩ → (Value.slice oa m' oc).ownBlock ≠ some g
set_option maxRecDepth 100000 in
set_option maxHeartbeats 8000000 in
theorem rruns8 (zs : List Int) (a : Option Addr) (n cap : Nat) (hn : Hid (zs.length = n)) (w : World) (hs : SegZ w a zs) :
    Calls Tryz.prog 86 #[.slice a n cap] w (RsQ w 148 (rns8 zs) (rer8 zs)) := by
  obtain ⟨i0, hi, hz0, hz1, hz2⟩ := info_parts info_run8
  have HNO : Hid (¬ may8 zs → ∀ w', Below w.heap.size w w' → RsQ w 148 (rns8 zs) (rer8 zs) (.returned (.tuple #[.slice none 0 0, .int .i64 80])) w') := fun hm w' hb => by
    unfold rns8 rer8
    rw [if_neg hm, if_neg hm]
    exact ⟨none, 0, rfl, World.ownsRow_nil _ _ _ _, hb⟩
  by_cases h320 : 320 < n
  · have h3i : 320 < (n : Int) := by omega
    have hm : ¬ may8 zs := fun h => by have := h.1; rw [hn.out] at this; omega
    have HF := HNO.out hm w (Below.refl _ _)
    clear hm HNO
    go_enter Tryz.func86, Tryz.ntmps86
    go_wp2_with fail
    go_ret2
    exact HF
  · have h3i : ¬ 320 < (n : Int) := by omega
    have HS : Hid (SegZ w a zs) := hs
    clear hs
    go_enter Tryz.func86, Tryz.ntmps86
    go_wp2_with fail
    go_loopw [4] (fun ti wr => ∃ i : Nat, i ≤ n ∧ ti = .int .i64 (i : Int) ∧ Hid (∀ j, j < i → 0 ≤ zs.getD j 0 ∧ zs.getD j 0 ≤ 15) ∧ wr = w) (fun ti _ => n - (intOf ti).toNat)
    case atStart => exact ⟨0, by omega, rfl, (show ∀ j, _ from fun j hj => by omega), rfl⟩
    case round =>
      obtain ⟨i, hin, rfl, HA, hwr⟩ := hrel
      have hwr2 : w = wr := hwr.symm
      subst hwr2
      clear hwr
      by_cases hlt : i < n
      · have hlti : (i : Int) < (n : Int) := by omega
        have hiz : i < zs.length := by rw [hn.out]; exact hlt
        obtain ⟨b, off, rfl, c0⟩ := (show SegZ w a zs from HS.out).at_ i hiz
        have hbd := (show SegZ w (some ⟨b, off, none⟩) zs from HS.out).bd i
        have HNM : Hid (¬ (0 ≤ zs.getD i 0 ∧ zs.getD i 0 ≤ 15) → ¬ may8 zs) := fun h hm => h (may8_at hiz hm)
        have HNX : Hid (0 ≤ zs.getD i 0 ∧ zs.getD i 0 ≤ 15 → ∀ j, j < i + 1 → 0 ≤ zs.getD j 0 ∧ zs.getD j 0 ≤ 15) := fun h j hj => by
          by_cases e : j = i
          · subst e; exact h
          · exact HA.out j (by omega)
        generalize zs.getD i 0 = z at *
        by_cases g1 : z < 0
        · have HF := HNO.out (HNM.out (by omega)) w (Below.refl _ _)
          clear HNM HNX HNO
          go_wp2_with fail
          go_ret2
          exact HF
        · by_cases g2 : 15 < z
          · have HF := HNO.out (HNM.out (by omega)) w (Below.refl _ _)
            clear HNM HNX HNO
            go_wp2_with fail
            go_ret2
            exact HF
          · have HN2 : Hid (∀ j, j < i + 1 → 0 ≤ zs.getD j 0 ∧ zs.getD j 0 ≤ 15) := HNX.out (by omega)
            clear HNM HNX
            go_wp2_with fail
            go_roundw
            case rel => exact ⟨i + 1, by omega, by go_num, HN2, trivial⟩
            case measure => simp [intOf]; omega
      · have hge : ¬ (i : Int) < (n : Int) := by omega
        have hM : may8 zs := may8_all (by rw [hn.out]; omega) (fun j hj => HA.out j (by rw [hn.out] at hj; omega))
        have HM : Hid (may8 zs) := hM
        clear hM HA HNO
        go_wp2_with fail
        go_loopw [5, 6] (fun to ti wq => RnI zs w wq 148 to ti) (fun _ ti _ => n - (intOf ti).toNat)
        case atStart => exact ⟨0, 0, 0, none, [], by omega, by omega, rfl, rfl, rfl, by simp [runs8], World.ownsRow_nil _ _ _ _, Below.refl _ _⟩
        case round =>
          obtain ⟨p, m, oc, oa, R, hpn, hmp, rfl, rfl, hRl, hrun, OO, BR⟩ := hrel
          rw [hn.out] at hpn
          have HRL : Hid (R.length = m) := hRl
          have HRN : Hid (runs8 zs = R ++ rung8 (zs.length - p) (zs.drop p)) := hrun
          clear hRl hrun
          by_cases hpl : p < n
          · have hpli : (p : Int) < (n : Int) := by omega
            have hpz : p < zs.length := by rw [hn.out]; exact hpl
            have HAT := rung8_at hpz
            have hpre0 : 1 ≤ pre8 (zs.getD p 0) (zs.drop p) := by
              rw [pre8_iff]
              refine ⟨by rw [List.length_drop]; omega, fun j hj => ?_⟩
              obtain rfl : j = 0 := by omega
              simp [List.getD]
            have hprl := pre8_le (zs.getD p 0) (zs.drop p)
            rw [List.length_drop, hn.out] at hprl
            obtain ⟨b, off, rfl, c0⟩ := ((show SegZ w a zs from HS.out).old BR).at_ p hpz
            have hvb := (show SegZ w (some ⟨b, off, none⟩) zs from HS.out).bd p
            have HGO : Hid (∀ k, k ≤ pre8 (zs.getD p 0) (zs.drop p) → p + k < n → zs.getD (p + k) 0 = zs.getD p 0 → k + 1 ≤ pre8 (zs.getD p 0) (zs.drop p)) := fun k h1 h2 h3 => by
              rw [pre8_iff] at h1 ⊢
              refine ⟨by rw [List.length_drop, hn.out]; omega, fun j hj => ?_⟩
              by_cases e : j = k
              · subst e; simpa [List.getD] using h3
              · exact h1.2 j (by omega)
            have HST : Hid (∀ k, k ≤ pre8 (zs.getD p 0) (zs.drop p) → (n ≤ p + k ∨ zs.getD (p + k) 0 ≠ zs.getD p 0) → k = pre8 (zs.getD p 0) (zs.drop p)) := fun k h1 h2 => by
              by_cases e : k + 1 ≤ pre8 (zs.getD p 0) (zs.drop p)
              · have h3 := (pre8_iff _ _ _).1 e
                have h4 := h3.2 k (by omega)
                rw [List.length_drop, hn.out] at h3
                rcases h2 with h2 | h2
                · omega
                · exact absurd (by simpa [List.getD] using h4) h2
              · omega
            have HAT2 : Hid (rung8 (zs.length - p) (zs.drop p) = row8 (zs.getD p 0) (pre8 (zs.getD p 0) (zs.drop p)) ++ rung8 (zs.length - (p + sum8 (row8 (zs.getD p 0) (pre8 (zs.getD p 0) (zs.drop p))))) (zs.drop (p + sum8 (row8 (zs.getD p 0) (pre8 (zs.getD p 0) (zs.drop p)))))) := HAT
            have HCE : Hid (∀ k, p + k < n → ∃ c, c = zs.getD (p + k) 0 ∧ wr.cell? ⟨b, off + (p + k), none⟩ = some (.int .i64 c)) := fun k hk => by
              obtain ⟨b', off', e, c⟩ := ((show SegZ w (some ⟨b, off, none⟩) zs from HS.out).old BR).at_ (p + k) (by rw [hn.out]; omega)
              cases e
              exact ⟨_, rfl, c⟩
            generalize zs.getD p 0 = v at *
            generalize pre8 v (zs.drop p) = K at *
            have CR := rrow8 v K hpre0 (by omega) wr
            have hrs := row8_sum (v := v) hpre0
            have hrct := row8_ct v K hpre0
            generalize row8 v K = L at *
            obtain ⟨N, hN⟩ : ∃ N, N = L.length := ⟨_, rfl⟩
            have HN : Hid (L.length = N) := hN.symm
            have HLN : Hid (∀ x, x ≤ N → x ≤ sum8 (L.take x) ∧ sum8 (L.take x) ≤ sum8 L) := fun x hx => by
              have h1 := sum8_len (L.take x) fun r hr => (hrct r (List.mem_of_mem_take hr)).1
              rw [List.length_take] at h1
              exact ⟨by omega, sum8_takele L x⟩
            have HCT : Hid (∀ x, x < N → 1 ≤ (L.getD x ⟨0, 0⟩).ct ∧ sum8 (L.take (x + 1)) = sum8 (L.take x) + (L.getD x ⟨0, 0⟩).ct.toNat) := fun x hx => by
              have hxl : x < L.length := by omega
              refine ⟨(hrct _ (by simp [List.getD, hxl])).1, sum8_take L x hxl⟩
            have HSU : Hid (1 ≤ sum8 L ∧ sum8 L ≤ K) := hrs
            clear HAT hrs hrct hN
            go_wp2_with fail
            go_loopw [8] (fun tk wq => ∃ k : Nat, 1 ≤ k ∧ k ≤ K ∧ tk = .int .i64 (k : Int) ∧ wq = wr) (fun tk _ => K - (intOf tk).toNat)
            case atStart => exact ⟨1, by omega, hpre0, rfl, rfl⟩
            case round =>
              obtain ⟨k, hk1, hkK, rfl, hwq⟩ := hrel
              subst hwq
              by_cases hgo : p + k < n ∧ zs.getD (p + k) 0 = v
              · obtain ⟨hqn, hzv⟩ := hgo
                obtain ⟨c, hce, hcc⟩ := HCE.out k hqn
                have hqni : (p : Int) + (k : Int) < (n : Int) := by omega
                have HK2 := HGO.out k hkK hqn hzv
                have hcb : (c == v) = true := by rw [hce, hzv]; exact beq_self_eq_true v
                clear HGO HST HCE hce hzv
                go_wp2_with fail
                go_roundw
                case rel => exact ⟨k + 1, by omega, HK2, by go_num, trivial⟩
                case measure => simp [intOf]; omega
              · have hkE := HST.out k hkK (by by_cases h : n ≤ p + k; exact .inl h; exact .inr fun e => hgo ⟨by omega, e⟩)
                have hst : (¬ p + k < n) ∨ (p + k < n ∧ ∃ c, (c == v) = false ∧ wr.cell? ⟨b, off + (p + k), none⟩ = some (.int .i64 c)) := by
                  by_cases h : p + k < n
                  · obtain ⟨c, hce, hcc⟩ := HCE.out k h
                    exact .inr ⟨h, c, by have : c ≠ v := fun e => hgo ⟨h, by rw [← hce, e]⟩
                                         simp [this], hcc⟩
                  · exact .inl h
                clear HGO HST HCE hgo
                subst hkE
                have hqs : ((p : Int) + (k : Int) < (n : Int)) ∨ ¬ ((p : Int) + (k : Int) < (n : Int)) := by omega
                rcases hst with hqn | ⟨hqn, c, hcb, hcc⟩
                all_goals
                  first
                    | have hqni : (p : Int) + (k : Int) < (n : Int) := by omega
                    | have hqni : ¬ (p : Int) + (k : Int) < (n : Int) := by omega
                  clear hqs
                  go_wp2_with (first | (go_at_call 113; refine CR.mono ?_; rintro e w1 ⟨la, lc, rfl, LO, LB⟩; rw [HN.out] at LO; rw [HN.out]))
                  have SL := own_segN LO HN.out
                  have AL := own_apartN OO LO
                  have OL := own_belowN OO LB
                  have BL : Below w.heap.size w w1 := BR.trans (LB.mono BR.size)
                  clear LO LB OO CR c0
                  go_loopw [5, 6, 10] (fun to ti tx wq => RnX L R w wq 148 la N p m to ti tx) (fun _ _ tx _ => N - (intOf tx).toNat)
                  case atStart => exact ⟨0, p, m, oc, oa, by omega, rfl, rfl, rfl, by omega, by simp [sum8], by rw [List.take_zero, List.append_nil]; exact OL, BL, SL, AL⟩
                  case round =>
                    clear SL AL OL BL BR
                    obtain ⟨x, p', m', oc', oa', hxN, rfl, rfl, rfl, hm', hp', OX, BX, SX, AX⟩ := hrel
                    have HMX : Hid (m' = m + x) := hm'
                    have HPX : Hid (p' = p + sum8 (L.take x)) := hp'
                    have hsz := BX.size
                    clear hm' hp'
                    by_cases hx : x < N
                    · have hxi : (x : Int) < (N : Int) := by omega
                      have hxl : x < L.length := by rw [HN.out]; exact hx
                      have hct := HCT.out x hx
                      have HTK : Hid (L.take (x + 1) = L.take x ++ [L.getD x ⟨0, 0⟩]) := take_snocN hxl
                      obtain ⟨bl, ofl, rfl, cs, cc⟩ := SX.at_ x hxl
                      have hAX := AX bl ofl rfl
                      generalize L.getD x ⟨0, 0⟩ = r at *
                      obtain ⟨sy, ct⟩ := r
                      obtain ⟨cn, rfl⟩ : ∃ cn : Nat, ct = (cn : Int) := ⟨ct.toNat, by have := hct.1; simp only at this; omega⟩
                      simp only [Int.toNat_natCast] at hct cs cc
                      have HPC : Hid (p' + cn = p + sum8 (L.take (x + 1))) := by
                        show _ = _
                        rw [HPX.out, hct.2]
                        omega
                      have hpc : p' + cn ≤ 320 ∧ m' ≤ 320 ∧ x + 1 ≤ 320 := by
                        have := HLN.out x (by omega)
                        have := HLN.out (x + 1) hx
                        have := HSU.out
                        have := HMX.out
                        have := HPX.out
                        omega
                      clear hct
                      go_wp2_with (first | (at_builtin; refine wpList_appN rfl (.tmp 67) (.tmp 72) 144 rfl w.heap.size 148 i0 _ 16 Tryz.underlying144 hi hz0 hz1 hz2 rfl wr ⟨sy, cn⟩ OX rfl rfl (by omega) (by omega) hsz ?_; intro ga gc w3 own3 hk3 hat3; have cc3 := hk3.cellN cc hAX))
                      have B3 : Below w.heap.size w w3 := BX.trans (hk3.below (fun q e => (OX.lt q e).1) hsz)
                      have SX3 := SX.kp hk3 AX
                      have hbl := World.block_lt_of_cell? wr _ cs
                      have AX3 : ∀ g o, some (⟨bl, ofl, none⟩ : Addr) = some ⟨g, o, none⟩ → (Value.slice (some ⟨ga, 0, none⟩) (m' + 1) gc).ownBlock ≠ some g := fun g o e h => by
                        cases e
                        have h2 : ga = bl := by simpa [Value.ownBlock] using h
                        subst h2
                        rcases hat3 with h3 | h3
                        · exact hAX h3
                        · simp only at hbl; omega
                      clear hk3 hat3 hAX SX AX cs cc
                      go_roundw
                      case rel => exact ⟨x + 1, p' + cn, m' + 1, gc, _, hx, by go_num, by go_num, rfl, by rw [HMX.out]; omega, HPC.out, by rw [HTK.out, ← List.append_assoc]; exact own3, B3, SX3, AX3⟩
                      case measure => simp [intOf]; omega
                    · have hxge : ¬ (x : Int) < (N : Int) := by omega
                      have HTA : Hid (L.take x = L) := List.take_of_length_le (by rw [HN.out]; omega)
                      have HPL : Hid (p' = p + sum8 L) := by show _ = _; rw [HPX.out, HTA.out]
                      have HR2 : Hid (runs8 zs = (R ++ L) ++ rung8 (zs.length - p') (zs.drop p')) := by
                        show _ = _
                        rw [HRN.out, HAT2.out, HPL.out, List.append_assoc]
                      have HL2 : Hid ((R ++ L).length = m') := by
                        show _ = _
                        rw [List.length_append, HRL.out, HN.out, HMX.out]
                        omega
                      have hb2 : p' ≤ n ∧ m' ≤ p' ∧ p < p' := by
                        have := HLN.out x hxN
                        have := HSU.out
                        have := HMX.out
                        have := HPX.out
                        rw [HTA.out] at *
                        omega
                      rw [HTA.out] at OX
                      clear SX AX HRN HAT2 HPX HMX HLN HCT HTA
                      go_wp2_with fail
                      go_roundw
                      case rel => exact ⟨p', m', oc', oa', R ++ L, by rw [hn.out]; omega, by omega, rfl, rfl, HL2.out, HR2.out, OX, BX⟩
                      case measure => simp [intOf]; omega
          · have hpge : ¬ (p : Int) < (n : Int) := by omega
            have HE : Hid (runs8 zs = R) := by
              show _ = _
              rw [HRN.out, show zs.length - p = 0 by rw [hn.out]; omega, rung8, List.append_nil]
            clear HRN
            go_wp2_with fail
            go_ret2
            unfold rns8 rer8
            rw [if_pos HM.out, if_pos HM.out]
            refine ⟨oa, oc, ?_, ?_, BR⟩
            · rw [HE.out, HRL.out]; rfl
            · rw [HE.out, HRL.out]; exact OO
end Go.Proofs.YtcifalelnfeggaaGreatDoor

namespace Go.Proofs.YtcifalelnfeggaaGreatDoor
open Go.RowKit
set_option linter.unusedVariables false

/-! The landed head: stretch, spread. -/
theorem info_arun8 : (Tryz.prog.info? 211).map (fun i => (i.zero, i.size, i.bytes)) = some (some (.agg #[.int .i64 0, .int .i64 0]), 2, 16) := by kernel_rfl
set_option maxRecDepth 100000 in
set_option maxHeartbeats 2000000 in
theorem pstretch8 (zs : List Int) (a : Option Addr) (n cap : Nat) (hn : Hid (zs.length = n)) (w : World) (hs : SegZ w a zs) (h1 : 1 ≤ n) (hl : n ≤ 1000000) :
    Calls Tryz.prog 164 #[.slice a n cap] w fun e w' => e = .returned (.int .i64 (pre8 (zs.getD 0 0) zs : Int)) ∧ Below w.heap.size w w' := by
  have hpre0 : 1 ≤ pre8 (zs.getD 0 0) zs := by
    rw [pre8_iff]
    refine ⟨by rw [hn.out]; omega, fun j hj => ?_⟩
    obtain rfl : j = 0 := by omega
    rfl
  have hprl := pre8_le (zs.getD 0 0) zs
  rw [hn.out] at hprl
  have HGO : Hid (∀ k, k ≤ pre8 (zs.getD 0 0) zs → k < n → zs.getD k 0 = zs.getD 0 0 → k + 1 ≤ pre8 (zs.getD 0 0) zs) := fun k h1 h2 h3 => by
    rw [pre8_iff] at h1 ⊢
    refine ⟨by rw [hn.out]; omega, fun j hj => ?_⟩
    by_cases e : j = k
    · subst e; exact h3
    · exact h1.2 j (by omega)
  have HST : Hid (∀ k, k ≤ pre8 (zs.getD 0 0) zs → (n ≤ k ∨ zs.getD k 0 ≠ zs.getD 0 0) → k = pre8 (zs.getD 0 0) zs) := fun k h1 h2 => by
    by_cases e : k + 1 ≤ pre8 (zs.getD 0 0) zs
    · have h3 := (pre8_iff _ _ _).1 e
      have h4 := h3.2 k (by omega)
      rw [hn.out] at h3
      rcases h2 with h2 | h2
      · omega
      · exact absurd h4 h2
    · omega
  obtain ⟨b, off, rfl, c0⟩ := hs.at_ 0 (by rw [hn.out]; omega)
  have HS : Hid (SegZ w (some ⟨b, off, none⟩) zs) := hs
  clear hs
  generalize zs.getD 0 0 = v at *
  generalize pre8 v zs = K at *
  go_enter Tryz.func164, Tryz.ntmps164
  go_wp2_with fail
  go_loopw [3] (fun tk wr => ∃ k : Nat, 1 ≤ k ∧ k ≤ K ∧ tk = .int .i64 (k : Int) ∧ Below w.heap.size w wr) (fun tk _ => K - (intOf tk).toNat)
  case atStart => exact ⟨1, by omega, hpre0, rfl, Below.refl _ _⟩
  case round =>
    obtain ⟨k, hk1, hkK, rfl, BR⟩ := hrel
    have c00 := ((show SegZ w (some ⟨b, off, none⟩) zs from HS.out).old BR).at_
    have cz : wr.cell? ⟨b, off, none⟩ = some (.int .i64 v) := (BR.cell (p := ⟨b, off, none⟩) (World.block_lt_of_cell? w _ c0)).trans (by simpa using c0)
    by_cases hkn : k < n
    · have hki : (k : Int) < (n : Int) := by omega
      obtain ⟨b', off', e, cc⟩ := c00 k (by rw [hn.out]; exact hkn)
      cases e
      by_cases hzv : zs.getD k 0 = v
      · have HK2 := HGO.out k hkK hkn hzv
        rw [hzv] at cc
        clear HGO HST c00
        go_wp2_with fail
        go_region
        go_wp2_with fail
        go_roundw
        case rel => exact ⟨k + 1, by omega, HK2, by go_num, BR.drew⟩
        case measure => simp [intOf]; omega
      · have hkE := HST.out k hkK (.inr hzv)
        have hzb : (zs.getD k 0 == v) = false := by rw [beq_eq_false_iff_ne]; exact hzv
        generalize zs.getD k 0 = z at *
        clear HGO HST c00
        subst hkE
        go_wp2_with fail
        go_region
        go_wp2_with fail
        go_ret
        exact ⟨rfl, BR.drew⟩
    · have hki : ¬ (k : Int) < (n : Int) := by omega
      have hkE := HST.out k hkK (.inl (by omega))
      clear HGO HST c00
      subst hkE
      go_wp2_with fail
      go_region
      go_wp2_with fail
      go_ret
      exact ⟨rfl, BR.drew⟩
end Go.Proofs.YtcifalelnfeggaaGreatDoor

namespace Go.Proofs.YtcifalelnfeggaaGreatDoor
open Go.RowKit
set_option linter.unusedVariables false

/-! The landed head: spread. -/
def SpQ (w : World) (ty : TypeId) (R : List Rn8) (e : Ending) (w' : World) : Prop := ∃ oa oc, e = .returned (.slice oa R.length oc) ∧ w'.ownsRow w.heap.size ty 2 (.slice oa R.length oc) R.length (flatN R) ∧ Below w.heap.size w w'
def SpI (v : Int) (K : Nat) (w wr : World) (ty : TypeId) (tk to : Value) : Prop := ∃ (j m oc : Nat) (oa : Option Addr) (R : List Rn8), m + j ≤ K ∧ tk = .int .i64 (j : Int) ∧ to = .slice oa m oc ∧ R.length = m ∧ spd8 K v K false = R ++ spd8 j v j (decide (0 < m)) ∧ wr.ownsRow w.heap.size ty 2 (.slice oa m oc) m (flatN R) ∧ Below w.heap.size w wr
theorem spd8_one (v : Int) {j : Nat} (hj : 0 < j) (b : Bool) : spd8 j v j b = led8 v j b :: spd8 (j - (led8 v j b).ct.toNat) v (j - (led8 v j b).ct.toNat) true := by
  obtain ⟨i, rfl⟩ : ∃ i, j = i + 1 := ⟨j - 1, by omega⟩
  have hc := led8_ct v (k := i + 1) (by omega) b
  rw [spd8, if_neg (by omega), spd8_fuel v i (i + 1 - (led8 v (i + 1) b).ct.toNat) _ true (by omega) (by omega)]
set_option maxRecDepth 100000 in
set_option maxHeartbeats 400000 in
theorem pspread8 (v : Int) (K : Nat) (hK : K ≤ 1000) (w : World) (T : TabS w) :
    Calls Tryz.prog 165 #[.int .i64 v, .int .i64 (K : Int)] w (SpQ w 211 (spd8 K v K false)) := by
  obtain ⟨i0, hi, hz0, hz1, hz2⟩ := info_parts info_arun8
  have HC : Hid (∀ (j : Nat) (b : Bool) (W : World), j ≤ 1000 → Below w.heap.size w W → Calls Tryz.prog 171 #[.int .i64 v, .int .i64 (j : Int), .bool b] W fun e w' => e = .returned (.agg #[.int .i64 (led8 v j b).sy, .int .i64 (led8 v j b).ct]) ∧ Below W.heap.size W w') := fun j b W hj hb => pleading8 v j b (by omega) W (SegZ.old T hb)
  clear T
  go_enter Tryz.func165, Tryz.ntmps165
  go_wp2_with fail
  go_loopw [1, 5] (fun tk to wr => SpI v K w wr 211 tk to) (fun tk _ _ => (intOf tk).toNat)
  case atStart => exact ⟨K, 0, 0, none, [], by omega, rfl, rfl, rfl, by simp, World.ownsRow_nil _ _ _ _, Below.refl _ _⟩
  case round =>
    obtain ⟨j, m, oc, oa, R, hmj, rfl, rfl, hRl, hsp, OO, BR⟩ := hrel
    have HRL : Hid (R.length = m) := hRl
    clear hRl
    by_cases hj : 0 < j
    · have hji : (0 : Int) < (j : Int) := by omega
      have C1 := HC.out j (decide (0 < m)) wr (by omega) BR
      rw [spd8_one v hj] at hsp
      have hct := led8_ct v (k := j) (by omega) (decide (0 < m))
      generalize led8 v j (decide (0 < m)) = r at *
      obtain ⟨sy, ct⟩ := r
      obtain ⟨c, rfl⟩ : ∃ c : Nat, ct = (c : Int) := ⟨ct.toNat, by have := hct.1; simp only at this; omega⟩
      simp only [Int.toNat_natCast] at hsp hct C1
      obtain ⟨q, hq⟩ : ∃ q, q = j - c := ⟨_, rfl⟩
      rw [← hq] at hsp
      have hqi : (j : Int) - (c : Int) = (q : Int) := by omega
      have HSP : Hid (spd8 K v K false = (R ++ [⟨sy, c⟩]) ++ spd8 q v q true) := by show _ = _; rw [hsp]; simp
      have hqb : q < j ∧ q + m + 1 ≤ K ∧ c ≤ j ∧ 1 ≤ c := by omega
      clear hsp hct hq
      have HI : Hid ((j : Int) - (c : Int) = (q : Int)) := hqi
      clear hqi
      go_wp2_with (first
        | (go_at_call 171; refine C1.mono ?_; rintro e w1 ⟨rfl, b1⟩; have O1 := own_belowN OO b1; have B1 : Below w.heap.size w w1 := BR.trans (b1.mono BR.size); have hsz1 := B1.size)
        | (at_builtin; refine wpList_appN rfl (.tmp 15) (.tmp 17) 206 rfl w.heap.size 211 i0 _ 16 Tryz.underlying206 hi hz0 hz1 hz2 rfl (w1.alloc (.cells #[.int .i64 sy, .int .i64 (c : Int)] 211)) ⟨sy, c⟩ (O1.alloc _) rfl (by show Value.slice (some ⟨w1.heap.size + 1, 0, none⟩) 1 1 = _; simp) (by omega) (by omega) (by simp; omega) ?_; intro ga gc w3 own3 hk3 hat3; have cc3 := hk3.cellN (k := w1.heap.size) (o := 1) (v := .int .i64 (c : Int)) (by rw [cell_of_row _ _ 1 _ _ _ (heap_alloc_new w1 _)]; rfl) (fun e => by have := (O1.lt _ e).2; simp at this)))
      have B3 : Below w.heap.size w w3 := (B1.trans ((below_box8 w1 _).mono hsz1)).trans (hk3.below (fun q e => (O1.lt q e).1) (by simp; omega))
      clear hk3 hat3 O1 B1
      go_roundw
      case rel => exact ⟨q, m + 1, gc, _, R ++ [⟨sy, c⟩], by omega, by have h5 := HI.out; go_num, rfl, by rw [List.length_append, HRL.out]; rfl, by rw [HSP.out]; simp, own3, B3⟩
      case measure => have := HI.out; simp [intOf]; omega
    · obtain rfl : j = 0 := by omega
      have HSP : Hid (spd8 K v K false = R) := by show _ = _; rw [hsp]; simp [spd8]
      clear hsp
      go_wp2_with fail
      go_ret
      refine ⟨oa, oc, ?_, ?_, BR⟩
      · rw [HSP.out, HRL.out]; rfl
      · rw [HSP.out, HRL.out]; exact OO
end Go.Proofs.YtcifalelnfeggaaGreatDoor

namespace Go.Proofs.YtcifalelnfeggaaGreatDoor
open Go.RowKit
set_option linter.unusedVariables false

/-! The landed head: Runs. -/
theorem SegZ.drop8 {w : World} {b off : Nat} {zs : List Int} (h : SegZ w (some ⟨b, off, none⟩) zs) (p : Nat) : SegZ w (some ⟨b, off + p, none⟩) (zs.drop p) :=
  ⟨fun i hi => by
    rw [List.length_drop] at hi
    obtain ⟨b', off', e, c⟩ := h.at_ (p + i) (by omega)
    cases e
    refine ⟨b, off + p, rfl, ?_⟩
    rw [Nat.add_assoc, c]
    simp [List.getD], fun i => by have := h.bd (p + i); simpa [List.getD] using this⟩
theorem flatN_len : ∀ l : List Rn8, (flatN l).length = l.length * 2
  | [] => rfl
  | t :: r => by
    have e : flatN (t :: r) = .int .i64 t.sy :: .int .i64 t.ct :: flatN r := rfl
    rw [e, List.length_cons, List.length_cons, flatN_len r, List.length_cons]
    omega
theorem flatN_one (l : List Rn8) : ∀ u ∈ flatN l, u.oneCell' = true := by
  intro u hu
  unfold flatN at hu
  obtain ⟨x, _, h⟩ := List.mem_flatMap.1 hu
  simp only [List.mem_cons, List.not_mem_nil, or_false] at h
  rcases h with rfl | rfl <;> rfl
/-- Runs that lie somewhere behind a row of the call's own. -/
theorem wpList_appR {P : Program} {ops : Array Oper} {rest : List Oper} {o : Oper} {a : Act} {Q : Exit → Act → World → Prop} (hgd : o.guard = none) (s x : Operand) (t : TypeId)
    (ho : o.op = .call { callee := .builtin .append, args := #[s, x], argTypes := #[t, t] })
    (base : Nat) (e : TypeId) (i : TypeInfo) (z : Value) (bytes : Nat) (ht : P.underlying t = some (.slice e)) (hi : P.info? e = some i) (hz : i.zero = some z)
    (hsize : i.size = 2) (hby : i.bytes = bytes) (hzs : z.cells.size = 2) (w0 : World) {b2 m c2 : Nat} {e2 : TypeId} {la : Option Addr} {L : List Rn8}
    {ra : Option Addr} {n rc : Nat} {l : List Rn8} (hown : w0.ownsRow base e 2 (.slice ra n rc) n (flatN l)) (hs : a.eval s = .slice ra n rc)
    (hL : w0.ownsRow b2 e2 2 (.slice la m c2) m (flatN L)) (hx : a.eval x = .slice la m c2) (hm : 0 < m)
    (h63 : n + m ≤ 140737488355328) (hbytes : (n + m) * bytes ≤ 140737488355328) (hbase : base ≤ w0.heap.size)
    (h : ∀ (g : Nat) (c : Nat) (w' : World), w'.ownsRow base e 2 (.slice (some ⟨g, 0, none⟩) (n + m) c) (n + m) (flatN (l ++ L)) → Kp (fun k => (Value.slice ra n rc).ownBlock = some k) w0 w' → wpList P ops Q rest (a.put o.dst (.slice (some ⟨g, 0, none⟩) (n + m) c)) w') : wpList P ops Q (o :: rest) a w0 := by
  have hLl : L.length = m := by have := hL.1; rw [flatN_len] at this; omega
  rcases hL.2 with ⟨_, h0⟩ | ⟨g, cp, cur, hv, _⟩
  · omega
  simp only [Value.slice.injEq] at hv
  obtain ⟨rfl, _, rfl⟩ := hv
  refine wpList_append_lies _ hgd s x t ho base e i z 2 bytes ht hi hz hsize hby hzs (by decide) _ n (flatN l) hs hown ⟨g, 0, none⟩ m c2 (flatN L) hx (by rw [flatN_len, hLl]) (fun j u hu => hL.cells (g := g) rfl j u hu) (flatN_one L) hm (by unfold maxLen; omega) hbytes hbase _ rfl ?_
  intro g c w' h1 h2 h3 _
  exact h g c w' (by rw [flatN_app]; exact h1) (Kp.grown (S := fun k => (Value.slice ra n rc).ownBlock = some k) h2 (fun i e => e))
set_option maxRecDepth 100000 in
set_option maxHeartbeats 4000000 in
theorem pruns8 (zs : List Int) (a : Option Addr) (n cap : Nat) (hn : Hid (zs.length = n)) (hcap : n ≤ cap) (w : World) (hs : SegZ w a zs) (T : TabS w) :
    Calls Tryz.prog 148 #[.slice a n cap] w (RsQ w 211 (rns8 zs) (rer8 zs)) := by
  obtain ⟨i0, hi, hz0, hz1, hz2⟩ := info_parts info_arun8
  have HNO : Hid (¬ may8 zs → ∀ w', Below w.heap.size w w' → RsQ w 211 (rns8 zs) (rer8 zs) (.returned (.tuple #[.slice none 0 0, .int .i64 80])) w') := fun hm w' hb => by
    unfold rns8 rer8
    rw [if_neg hm, if_neg hm]
    exact ⟨none, 0, rfl, World.ownsRow_nil _ _ _ _, hb⟩
  by_cases h320 : 320 < n
  · have h3i : 320 < (n : Int) := by omega
    have hm : ¬ may8 zs := fun h => by have := h.1; rw [hn.out] at this; omega
    have HF := HNO.out hm w (Below.refl _ _)
    clear hm HNO
    go_enter Tryz.func148, Tryz.ntmps148
    go_wp2_with fail
    go_ret2
    exact HF
  · have h3i : ¬ 320 < (n : Int) := by omega
    have HS : Hid (SegZ w a zs) := hs
    have HT : Hid (TabS w) := T
    clear hs T
    go_enter Tryz.func148, Tryz.ntmps148
    go_wp2_with fail
    go_loopw [14] (fun ti wr => ∃ i : Nat, i ≤ n ∧ ti = .int .i64 (i : Int) ∧ Hid (∀ j, j < i → 0 ≤ zs.getD j 0 ∧ zs.getD j 0 ≤ 15) ∧ wr = w) (fun ti _ => n - (intOf ti).toNat)
    case atStart => exact ⟨0, by omega, rfl, (show ∀ j, _ from fun j hj => by omega), rfl⟩
    case round =>
      obtain ⟨i, hin, rfl, HA, hwr⟩ := hrel
      have hwr2 : w = wr := hwr.symm
      subst hwr2
      clear hwr
      by_cases hlt : i < n
      · have hlti : (i : Int) < (n : Int) := by omega
        have hiz : i < zs.length := by rw [hn.out]; exact hlt
        obtain ⟨b, off, rfl, c0⟩ := (show SegZ w a zs from HS.out).at_ i hiz
        have hbd := (show SegZ w (some ⟨b, off, none⟩) zs from HS.out).bd i
        have HNM : Hid (¬ (0 ≤ zs.getD i 0 ∧ zs.getD i 0 ≤ 15) → ¬ may8 zs) := fun h hm => h (may8_at hiz hm)
        have HNX : Hid (0 ≤ zs.getD i 0 ∧ zs.getD i 0 ≤ 15 → ∀ j, j < i + 1 → 0 ≤ zs.getD j 0 ∧ zs.getD j 0 ≤ 15) := fun h j hj => by
          by_cases e : j = i
          · subst e; exact h
          · exact HA.out j (by omega)
        generalize zs.getD i 0 = z at *
        by_cases g1 : z < 0
        · have HF := HNO.out (HNM.out (by omega)) w (Below.refl _ _)
          clear HNM HNX HNO
          go_wp2_with fail
          go_ret2
          exact HF
        · by_cases g2 : 15 < z
          · have HF := HNO.out (HNM.out (by omega)) w (Below.refl _ _)
            clear HNM HNX HNO
            go_wp2_with fail
            go_ret2
            exact HF
          · have HN2 : Hid (∀ j, j < i + 1 → 0 ≤ zs.getD j 0 ∧ zs.getD j 0 ≤ 15) := HNX.out (by omega)
            clear HNM HNX
            go_wp2_with fail
            go_roundw
            case rel => exact ⟨i + 1, by omega, by go_num, HN2, trivial⟩
            case measure => simp [intOf]; omega
      · have hge : ¬ (i : Int) < (n : Int) := by omega
        have hM : may8 zs := may8_all (by rw [hn.out]; omega) (fun j hj => HA.out j (by rw [hn.out] at hj; omega))
        have HM : Hid (may8 zs) := hM
        clear hM HA HNO
        go_wp2_with fail
        go_loopw [6, 7] (fun to ti wq => RnI zs w wq 211 to ti) (fun _ ti _ => n - (intOf ti).toNat)
        case atStart => exact ⟨0, 0, 0, none, [], by omega, by omega, rfl, rfl, rfl, by simp [runs8], World.ownsRow_nil _ _ _ _, Below.refl _ _⟩
        case round =>
          obtain ⟨p, m, oc, oa, R, hpn, hmp, rfl, rfl, hRl, hrun, OO, BR⟩ := hrel
          rw [hn.out] at hpn
          have HRL : Hid (R.length = m) := hRl
          have HRN : Hid (runs8 zs = R ++ rung8 (zs.length - p) (zs.drop p)) := hrun
          clear hRl hrun
          by_cases hpl : p < n
          · have hpli : (p : Int) < (n : Int) := by omega
            have hpz : p < zs.length := by rw [hn.out]; exact hpl
            have HAT := rung8_str hpz
            have hpre0 : 1 ≤ pre8 (zs.getD p 0) (zs.drop p) := by
              rw [pre8_iff]
              refine ⟨by rw [List.length_drop]; omega, fun j hj => ?_⟩
              obtain rfl : j = 0 := by omega
              simp [List.getD]
            have hprl := pre8_le (zs.getD p 0) (zs.drop p)
            rw [List.length_drop, hn.out] at hprl
            have hSW := (show SegZ w a zs from HS.out).old BR
            obtain ⟨b, off, rfl, c0⟩ := hSW.at_ p hpz
            have CS := pstretch8 (zs.drop p) (some ⟨b, off + p, none⟩) (n - p) (cap - p) (by show _ = _; rw [List.length_drop, hn.out]) wr (hSW.drop8 p) (by omega) (by omega)
            have e0 : (zs.drop p).getD 0 0 = zs.getD p 0 := by simp [List.getD]
            rw [e0] at CS
            have HCP : Hid (∀ (k : Nat) (W : World), k ≤ 1000 → Below w.heap.size w W → Calls Tryz.prog 165 #[.int .i64 (zs.getD p 0), .int .i64 (k : Int)] W (SpQ W 211 (spd8 k (zs.getD p 0) k false))) := fun k W hk hb => pspread8 _ k hk W (SegZ.old HT.out hb)
            have hlen := spd8_len (zs.getD p 0) (pre8 (zs.getD p 0) (zs.drop p)) (pre8 (zs.getD p 0) (zs.drop p)) false
            have hpos : 0 < (spd8 (pre8 (zs.getD p 0) (zs.drop p)) (zs.getD p 0) (pre8 (zs.getD p 0) (zs.drop p)) false).length := by rw [spd8_one _ (by omega)]; simp
            have HAT2 : Hid (rung8 (zs.length - p) (zs.drop p) = spd8 (pre8 (zs.getD p 0) (zs.drop p)) (zs.getD p 0) (pre8 (zs.getD p 0) (zs.drop p)) false ++ rung8 (zs.length - (p + pre8 (zs.getD p 0) (zs.drop p))) (zs.drop (p + pre8 (zs.getD p 0) (zs.drop p)))) := HAT
            clear HAT hSW e0
            have hvb := (show SegZ w (some ⟨b, off, none⟩) zs from HS.out).bd p
            generalize zs.getD p 0 = v at *
            generalize pre8 v (zs.drop p) = K at *
            have CP : Hid (∀ (W : World), Below w.heap.size w W → Calls Tryz.prog 165 #[.int .i64 v, .int .i64 (K : Int)] W (SpQ W 211 (spd8 K v K false))) := fun W hb => HCP.out K W (by omega) hb
            clear HCP
            generalize spd8 K v K false = L at *
            obtain ⟨N, hN⟩ : ∃ N, N = L.length := ⟨_, rfl⟩
            have HN : Hid (L.length = N) := hN.symm
            rw [← hN] at hlen hpos
            obtain ⟨np, hnp⟩ : ∃ np, n - p = np := ⟨_, rfl⟩
            obtain ⟨cp, hcp⟩ : ∃ cp, cap - p = cp := ⟨_, rfl⟩
            rw [hnp, hcp] at CS
            have hpi1 : p ≤ n := by omega
            clear hN
            go_wp2_with (first
              | (go_at_call 164; refine CS.mono ?_; rintro e w1 ⟨rfl, b1⟩; have B1 : Below w.heap.size w w1 := BR.trans (b1.mono BR.size); have O1 := own_belowN OO b1; have c1 : w1.cell? ⟨b, off + p, none⟩ = some (.int .i64 v) := (b1.cell (p := ⟨b, off + p, none⟩) (World.block_lt_of_cell? wr _ c0)).trans c0)
              | (go_at_call 165; refine (CP.out _ B1).mono ?_; rintro e w2 ⟨la, lc, rfl, LO, b2⟩; rw [HN.out] at LO; rw [HN.out]; have B2 : Below w.heap.size w w2 := B1.trans (b2.mono B1.size); have O2 := own_belowN O1 b2; have hsz2 := B2.size)
              | (at_builtin; refine wpList_appR rfl (.tmp 33) (.tmp 39) 206 rfl w.heap.size 211 i0 _ 16 Tryz.underlying206 hi hz0 hz1 hz2 rfl w2 O2 rfl LO rfl hpos (by omega) (by omega) hsz2 ?_; intro ga gc w3 own3 hk3))
            have B3 : Below w.heap.size w w3 := B2.trans (hk3.below (fun q e => (O2.lt q e).1) hsz2)
            clear hk3 O1 O2 LO b1 b2 OO BR
            have HL2 : Hid ((R ++ L).length = m + N) := by show _ = _; rw [List.length_append, HRL.out, HN.out]
            have HR2 : Hid (runs8 zs = (R ++ L) ++ rung8 (zs.length - (p + K)) (zs.drop (p + K))) := by
              show _ = _
              rw [HRN.out, HAT2.out, List.append_assoc]
            go_roundw
            case rel => exact ⟨p + K, m + N, gc, _, R ++ L, by rw [hn.out]; omega, by omega, by go_num, rfl, HL2.out, HR2.out, own3, B3⟩
            case measure => simp [intOf]; omega
          · have hpge : ¬ (p : Int) < (n : Int) := by omega
            have HE : Hid (runs8 zs = R) := by
              show _ = _
              rw [HRN.out, show zs.length - p = 0 by rw [hn.out]; omega, rung8, List.append_nil]
            clear HRN
            go_wp2_with fail
            go_ret2
            unfold rns8 rer8
            rw [if_pos HM.out, if_pos HM.out]
            refine ⟨oa, oc, ?_, ?_, BR⟩
            · rw [HE.out, HRL.out]; rfl
            · rw [HE.out, HRL.out]; exact OO
end Go.Proofs.YtcifalelnfeggaaGreatDoor

namespace Go.Proofs.YtcifalelnfeggaaGreatDoor
open Go.RowKit
set_option linter.unusedVariables false

theorem take_all_eq {xs ys : List Int} (h : xs.length = ys.length) {k : Nat} (hk : k = xs.length ∨ k = ys.length) (he : xs.take k = ys.take k) : xs = ys := by
  have : k = xs.length := by omega
  rw [List.take_of_length_le (by omega), List.take_of_length_le (by omega)] at he
  exact he

end Go.Proofs.YtcifalelnfeggaaGreatDoor

namespace Go.Proofs.YtcifalelnfeggaaGreatDoor
open Go.RowKit
set_option linter.unusedVariables false

theorem info_int : (Tryz.prog.info? 3).map (fun i => (i.zero, i.size, i.bytes)) = some (some (.int .i64 0), 1, 8) := by kernel_rfl
end Go.Proofs.YtcifalelnfeggaaGreatDoor

namespace Go.Proofs.YtcifalelnfeggaaGreatDoor
open Go.RowKit
set_option linter.unusedVariables false

/-! The document's Lens: the walk. -/
/-- A number behind a row of the call's own. -/
theorem wpList_appI {P : Program} {ops : Array Oper} {rest : List Oper} {o : Oper} {a : Act} {Q : Exit → Act → World → Prop} (hgd : o.guard = none) (s x : Operand) (t : TypeId)
    (ho : o.op = .call { callee := .builtin .append, args := #[s, x], argTypes := #[t, t] })
    (base : Nat) (e : TypeId) (i : TypeInfo) (z : Value) (bytes : Nat) (ht : P.underlying t = some (.slice e)) (hi : P.info? e = some i) (hz : i.zero = some z)
    (hsize : i.size = 1) (hby : i.bytes = bytes) (hzs : z.cells.size = 1) (w0 : World) (y : Int)
    {ra : Option Addr} {n rc : Nat} {l : List Int} (hown : w0.ownsRow base e 1 (.slice ra n rc) n (l.map (Value.int .i64))) (hs : a.eval s = .slice ra n rc) (hx : a.eval x = .slice (some ⟨w0.heap.size, 0, none⟩) 1 1)
    (h63 : n + 1 ≤ 140737488355328) (hbytes : (n + 1) * bytes ≤ 140737488355328) (hbase : base ≤ w0.heap.size)
    (h : ∀ (g : Nat) (c : Nat) (w' : World), w'.ownsRow base e 1 (.slice (some ⟨g, 0, none⟩) (n + 1) c) (n + 1) ((l ++ [y]).map (Value.int .i64)) → Kp (fun k => (Value.slice ra n rc).ownBlock = some k) w0 w' → ((Value.slice ra n rc).ownBlock = some g ∨ g = w0.heap.size + 1) → wpList P ops Q rest (a.put o.dst (.slice (some ⟨g, 0, none⟩) (n + 1) c)) w') : wpList P ops Q (o :: rest) a (w0.alloc (.cells #[.int .i64 y] e)) := by
  have hnew : ∀ j u, ([.int .i64 y] : List Value)[j]? = some u → (w0.alloc (.cells #[.int .i64 y] e)).cell? ((⟨w0.heap.size, 0, none⟩ : Addr).add j) = some u := by
    intro j u hu
    have hadd : (⟨w0.heap.size, 0, none⟩ : Addr).add j = ⟨w0.heap.size, j, none⟩ := by unfold Addr.add; split <;> simp_all
    rw [hadd]
    have hh := heap_alloc_new w0 (.cells #[.int .i64 y] e)
    simp only [World.cell?, hh]
    simpa using hu
  refine wpList_append_lies _ hgd s x t ho base e i z 1 bytes ht hi hz hsize hby hzs (by decide) _ n (l.map (Value.int .i64)) hs (hown.alloc _) ⟨w0.heap.size, 0, none⟩ 1 1 [.int .i64 y] hx rfl hnew (by intro u hu; simp only [List.mem_cons, List.not_mem_nil, or_false] at hu; subst hu; rfl) (by decide) (by unfold maxLen; omega) hbytes (by simp; omega) (w0.heap.size + 1) (by simp) ?_
  intro g c w' h1 h2 h3 _
  refine h g c w' (by rw [List.map_append]; exact h1) ?_ h3
  exact (Kp.alloc w0 _).trans (Kp.grown (S := fun k => (Value.slice ra n rc).ownBlock = some k) h2 (fun i e => e)) (fun _ _ e => e)
theorem end8_get : ∀ (l : List Int), 0 < l.length → end8 l = l.getD (l.length - 1) 0
  | [], h => by simp at h
  | [x], _ => rfl
  | x :: y :: r, _ => by
    have := end8_get (y :: r) (by simp)
    simpa [end8, List.getD] using this
theorem lng8_at {R : List Rn8} {i : Nat} (h : i < R.length) (out : List Int) : lng8 (R.drop i) out = if bad8 (R.getD i ⟨0, 0⟩) out.length then none else if 320 < (out ++ List.replicate (R.getD i ⟨0, 0⟩).ct.toNat (val8 (R.getD i ⟨0, 0⟩) out)).length then none else lng8 (R.drop (i + 1)) (out ++ List.replicate (R.getD i ⟨0, 0⟩).ct.toNat (val8 (R.getD i ⟨0, 0⟩) out)) := by
  have hd : R.drop i = R.getD i ⟨0, 0⟩ :: R.drop (i + 1) := by rw [List.drop_eq_getElem_cons h]; simp [List.getD, h]
  rw [hd, lng8]
def lzs8 (R : List Rn8) : List Int := (lens8 R).getD []
def ler8 (R : List Rn8) : Int := if (lens8 R).isSome then 0 else 81
theorem lzs8_none {R : List Rn8} (h : lens8 R = none) : lzs8 R = [] ∧ ler8 R = 81 := by unfold lzs8 ler8; rw [h]; exact ⟨rfl, rfl⟩
theorem lzs8_some {R : List Rn8} {l : List Int} (h : lens8 R = some l) : lzs8 R = l ∧ ler8 R = 0 := by unfold lzs8 ler8; rw [h]; exact ⟨rfl, rfl⟩
def LsQ (w : World) (ty : TypeId) (zs : List Int) (er : Int) (e : Ending) (w' : World) : Prop := ∃ oa oc, e = .returned (.tuple #[.slice oa zs.length oc, .int .i64 er]) ∧ w'.ownsRow w.heap.size ty 1 (.slice oa zs.length oc) zs.length (zs.map (Value.int .i64)) ∧ Below w.heap.size w w'
/-- How far Lens has come. -/
def LnI (R : List Rn8) (w wr : World) (ty : TypeId) (n : Nat) (to ti : Value) : Prop := ∃ (i m oc : Nat) (oa : Option Addr) (out : List Int), i ≤ n ∧ m ≤ 320 ∧ ti = .int .i64 (i : Int) ∧ to = .slice oa m oc ∧ out.length = m ∧ (∀ z ∈ out, 0 ≤ z ∧ z ≤ 15) ∧ lens8 R = lng8 (R.drop i) out ∧ wr.ownsRow w.heap.size ty 1 (.slice oa m oc) m (out.map (Value.int .i64)) ∧ Below w.heap.size w wr
/-- How far it has come within a run. -/
def LnK (out : List Int) (v : Int) (w wq : World) (ty : TypeId) (A c m : Nat) (to tk : Value) : Prop := ∃ (k m' oc : Nat) (oa : Option Addr), k ≤ c ∧ tk = .int .i64 (k : Int) ∧ to = .slice oa m' oc ∧ m' = m + k ∧ wq.ownsRow w.heap.size ty 1 (.slice oa m' oc) m' ((out ++ List.replicate k v).map (Value.int .i64)) ∧ Below w.heap.size w wq ∧ wq.cell? ⟨A, 1, none⟩ = some (.int .i64 (c : Int)) ∧ (Value.slice oa m' oc).ownBlock ≠ some A
theorem lst8_ge (s : Int) : 1 ≤ lst8 s := by unfold lst8; split; omega; split <;> omega
theorem grt8_le (s : Int) : grt8 s ≤ 138 := by unfold grt8; split; omega; split; omega; split <;> omega
end Go.Proofs.YtcifalelnfeggaaGreatDoor

namespace Go.Proofs.YtcifalelnfeggaaGreatDoor
open Go.RowKit
set_option linter.unusedVariables false

/-! The document's order, short. -/
def ord8 : List Int := [16, 17, 18, 0, 8, 7, 9, 6, 10, 5, 11, 4, 12, 3, 13, 2, 14, 1, 15]
set_option maxRecDepth 100000 in
theorem rorder8 (w : World) : Calls Tryz.prog 87 #[] w fun e w' => e = .returned (.slice (some ⟨w.heap.size, 0, none⟩) 19 19) ∧ w' = w.alloc (.cells (ord8.map (Value.int .i64)).toArray 3) := by
  go_enter Tryz.func87, Tryz.ntmps87
  go_wp2_with fail
  go_ret
  exact ⟨rfl, rfl⟩
/-- How many are left of the first n, without the noughts at their end. -/
def cut8 (zs : List Int) : Nat → Nat
  | 0 => 0
  | n + 1 => if zs.getD n 0 = 0 then cut8 zs n else n + 1
theorem cut8_le (zs : List Int) : ∀ n, cut8 zs n ≤ n
  | 0 => Nat.le_refl _
  | n + 1 => by
    rw [cut8]
    split
    · have := cut8_le zs n; omega
    · omega
def sht8 (zs : List Int) (k : Nat) : List Int := zs.take (cut8 zs zs.length) ++ List.replicate (k - cut8 zs zs.length) 0
def ShQ (w : World) (ty : TypeId) (l : List Int) (e : Ending) (w' : World) : Prop := ∃ oa oc, e = .returned (.slice oa l.length oc) ∧ w'.ownsRow w.heap.size ty 1 (.slice oa l.length oc) l.length (l.map (Value.int .i64)) ∧ Below w.heap.size w w'
def lenOfS : Value → Nat
  | .slice _ n _ => n
  | _ => 0
set_option maxRecDepth 100000 in
set_option maxHeartbeats 4000000 in
theorem rshort8 (zs : List Int) (k : Nat) (a : Option Addr) (n cap : Nat) (hn : Hid (zs.length = n)) (w : World) (hs : SegZ w a zs) (hnil : a = none → cap = 0) (hcap : n ≤ cap) (hl : n ≤ 1073741824) (hk : k ≤ 1073741824) :
    Calls Tryz.prog 85 #[.slice a n cap, .int .i64 (k : Int)] w (ShQ w 3 (sht8 zs k)) := by
  obtain ⟨i0, hi, hz0, hz1, hz2⟩ := info_parts info_int
  have HS : Hid (SegZ w a zs) := hs
  clear hs
  go_enter Tryz.func85, Tryz.ntmps85
  go_wp2_with fail
  go_loopw [5] (fun tn wr => ∃ j : Nat, j ≤ n ∧ tn = .int .i64 (j : Int) ∧ Hid (cut8 zs zs.length = cut8 zs j) ∧ wr = w) (fun tn _ => (intOf tn).toNat)
  case atStart => exact ⟨n, by omega, rfl, (by rw [hn.out] : _ = _), rfl⟩
  case round =>
    obtain ⟨j, hjn, rfl, HC, hwr⟩ := hrel
    subst hwr
    by_cases hgo : 0 < j ∧ zs.getD (j - 1) 0 = 0
    · obtain ⟨hj0, hz⟩ := hgo
      obtain ⟨j, rfl⟩ : ∃ j', j = j' + 1 := ⟨j - 1, by omega⟩
      rw [Nat.add_sub_cancel] at hz
      obtain ⟨b, off, rfl, c0⟩ := (show SegZ wr a zs from HS.out).at_ j (by rw [hn.out]; omega)
      rw [hz] at c0
      have HC2 : Hid (cut8 zs zs.length = cut8 zs j) := by show _ = _; rw [HC.out, cut8, if_pos hz]
      have hj1 : 0 < ((j + 1 : Nat) : Int) := by omega
      clear HC hz
      go_wp2_with fail
      go_roundw
      case rel => exact ⟨j, by omega, by go_num, HC2, trivial⟩
      case measure => simp [intOf]
    · have hst : j = 0 ∨ (0 < j ∧ ¬ zs.getD (j - 1) 0 = 0) := by
        by_cases h : 0 < j
        · exact .inr ⟨h, fun e => hgo ⟨h, e⟩⟩
        · exact .inl (by omega)
      have HJ : Hid (cut8 zs zs.length = j) := by
        show _ = _
        rw [HC.out]
        rcases hst with rfl | ⟨h, hz⟩
        · rfl
        · obtain ⟨j, rfl⟩ : ∃ j', j = j' + 1 := ⟨j - 1, by omega⟩
          rw [Nat.add_sub_cancel] at hz
          rw [cut8, if_neg hz]
      have HLT : Hid ((zs.take j).length = j) := by show _ = _; rw [List.length_take, hn.out]; omega
      have HSH : Hid (sht8 zs k = zs.take j ++ List.replicate (k - j) 0) := by show _ = _; unfold sht8; rw [HJ.out]
      have hm0 : (wr.alloc (.cells #[] 3)).ownsRow wr.heap.size 3 1 (.slice (some ⟨wr.heap.size, 0, none⟩) 0 0) 0 [] := World.ownsRow_made wr #[] 0 (Nat.le_refl _) (by decide) rfl
      have hb0 : Below wr.heap.size wr (wr.alloc (.cells #[] 3)) := (Below.refl _ _).alloc (Nat.le_refl _) _
      have HS2 : Hid (SegZ (wr.alloc (.cells #[] 3)) a (zs.take j)) := ((show SegZ wr a zs from HS.out).take j).alloc _
      have hjc : (j : Int) ≤ (cap : Int) := by omega
      have HCE : Hid (0 < j ∧ ¬ zs.getD (j - 1) 0 = 0 → ∃ b off c, a = some ⟨b, off, none⟩ ∧ (c == (0 : Int)) = false ∧ wr.cell? ⟨b, off + (j - 1), none⟩ = some (.int .i64 c)) := fun h => by
        obtain ⟨b, off, ha, c0⟩ := (show SegZ wr a zs from HS.out).at_ (j - 1) (by rw [hn.out]; omega)
        exact ⟨b, off, _, ha, by simpa using h.2, c0⟩
      clear HC HJ hgo HS
      rcases hst with rfl | h
      · cases a with
        | none =>
          have hc0 := hnil rfl
          subst hc0
          clear HCE
          go_wp2_with (at_builtin; refine wpList_appZ rfl (.tmp 21) (.tmp 24) 39 rfl wr.heap.size 3 i0 (.int .i64 0) 8 Tryz.underlying39 hi hz0 hz1 hz2 rfl hm0 HS2.out (fun _ => rfl) rfl (by rw [HLT.out]; rfl) (by rw [HLT.out]; omega) (by rw [HLT.out]; omega) (by simp) ?_; intro oa2 oc2 w2 O2 hg2 hf2 hn2; have b2 := hb0.trans (below_own hm0 hg2 (by simp)); clear hf2 hn2 hg2; rw [Nat.zero_add, List.nil_append, HLT.out] at O2; rw [Nat.zero_add, HLT.out])
          clear hm0 hb0 HS2
          go_loopw [6] (fun to wq => ∃ (m oc : Nat) (oa : Option Addr), 0 ≤ m ∧ (m ≤ k ∨ m = 0) ∧ to = .slice oa m oc ∧ wq.ownsRow wr.heap.size 3 1 (.slice oa m oc) m ((zs.take (0) ++ List.replicate (m - (0)) 0).map (Value.int .i64)) ∧ Below wr.heap.size wr wq) (fun to _ => k - (lenOfS to))
          case atStart => exact ⟨0, oc2, oa2, by omega, .inr rfl, rfl, by rw [Nat.sub_self, List.replicate_zero, List.append_nil]; exact O2, b2⟩
          case round =>
            clear O2 b2
            obtain ⟨m, oc, oa, hm1, hm2, rfl, OX, BX⟩ := hrel
            have hsz := BX.size
            by_cases hmk : m < k
            · have hmki : (m : Int) < (k : Int) := by omega
              go_wp2_with (first | (at_builtin; refine wpList_appI rfl (.tmp 30) (.tmp 31) 39 rfl _ 3 i0 (.int .i64 0) 8 Tryz.underlying39 hi hz0 hz1 hz2 rfl _ _ OX rfl rfl (by omega) (by omega) hsz ?_; intro ga gc w3 own3 hk3 hat3))
              have B3 := BX.trans (hk3.below (fun q e => (OX.lt q e).1) hsz)
              rw [List.append_assoc, ← List.replicate_succ', show m - (0) + 1 = m + 1 - (0) by omega] at own3
              clear hk3 hat3 OX
              go_roundw
              case rel => exact ⟨m + 1, gc, _, by omega, .inl (by omega), rfl, own3, B3⟩
              case measure => simp [lenOfS]; omega
            · have hmki : ¬ (m : Int) < (k : Int) := by omega
              have HE : Hid (sht8 zs k = zs.take (0) ++ List.replicate (m - (0)) 0) := by show _ = _; rw [HSH.out, show k - (0) = m - (0) by omega]
              have HL : Hid ((sht8 zs k).length = m) := by show _ = _; rw [HE.out, List.length_append, HLT.out, List.length_replicate]; omega
              rw [← HE.out] at OX
              go_wp2_with fail
              go_ret
              refine ⟨oa, oc, ?_, ?_, BX⟩
              · rw [HL.out]; rfl
              · rw [HL.out]; exact OX
        | some x =>
          clear HCE
          go_wp2_with (at_builtin; refine wpList_appZ rfl (.tmp 21) (.tmp 24) 39 rfl wr.heap.size 3 i0 (.int .i64 0) 8 Tryz.underlying39 hi hz0 hz1 hz2 rfl hm0 HS2.out (by intro h; cases h) rfl (by rw [HLT.out]; rfl) (by rw [HLT.out]; omega) (by rw [HLT.out]; omega) (by simp) ?_; intro oa2 oc2 w2 O2 hg2 hf2 hn2; have b2 := hb0.trans (below_own hm0 hg2 (by simp)); clear hf2 hn2 hg2; rw [Nat.zero_add, List.nil_append, HLT.out] at O2; rw [Nat.zero_add, HLT.out])
          clear hm0 hb0 HS2
          go_loopw [6] (fun to wq => ∃ (m oc : Nat) (oa : Option Addr), 0 ≤ m ∧ (m ≤ k ∨ m = 0) ∧ to = .slice oa m oc ∧ wq.ownsRow wr.heap.size 3 1 (.slice oa m oc) m ((zs.take (0) ++ List.replicate (m - (0)) 0).map (Value.int .i64)) ∧ Below wr.heap.size wr wq) (fun to _ => k - (lenOfS to))
          case atStart => exact ⟨0, oc2, oa2, by omega, .inr rfl, rfl, by rw [Nat.sub_self, List.replicate_zero, List.append_nil]; exact O2, b2⟩
          case round =>
            clear O2 b2
            obtain ⟨m, oc, oa, hm1, hm2, rfl, OX, BX⟩ := hrel
            have hsz := BX.size
            by_cases hmk : m < k
            · have hmki : (m : Int) < (k : Int) := by omega
              go_wp2_with (first | (at_builtin; refine wpList_appI rfl (.tmp 30) (.tmp 31) 39 rfl _ 3 i0 (.int .i64 0) 8 Tryz.underlying39 hi hz0 hz1 hz2 rfl _ _ OX rfl rfl (by omega) (by omega) hsz ?_; intro ga gc w3 own3 hk3 hat3))
              have B3 := BX.trans (hk3.below (fun q e => (OX.lt q e).1) hsz)
              rw [List.append_assoc, ← List.replicate_succ', show m - (0) + 1 = m + 1 - (0) by omega] at own3
              clear hk3 hat3 OX
              go_roundw
              case rel => exact ⟨m + 1, gc, _, by omega, .inl (by omega), rfl, own3, B3⟩
              case measure => simp [lenOfS]; omega
            · have hmki : ¬ (m : Int) < (k : Int) := by omega
              have HE : Hid (sht8 zs k = zs.take (0) ++ List.replicate (m - (0)) 0) := by show _ = _; rw [HSH.out, show k - (0) = m - (0) by omega]
              have HL : Hid ((sht8 zs k).length = m) := by show _ = _; rw [HE.out, List.length_append, HLT.out, List.length_replicate]; omega
              rw [← HE.out] at OX
              go_wp2_with fail
              go_ret
              refine ⟨oa, oc, ?_, ?_, BX⟩
              · rw [HL.out]; rfl
              · rw [HL.out]; exact OX
      · obtain ⟨b, off, c, rfl, hcb, c0⟩ := HCE.out h
        obtain ⟨j, rfl⟩ : ∃ j', j = j' + 1 := ⟨j - 1, by omega⟩
        rw [Nat.add_sub_cancel] at c0
        clear HCE h
        have hj1 : 0 < ((j + 1 : Nat) : Int) := by omega
        go_wp2_with (at_builtin; refine wpList_appZ rfl (.tmp 21) (.tmp 24) 39 rfl wr.heap.size 3 i0 (.int .i64 0) 8 Tryz.underlying39 hi hz0 hz1 hz2 rfl hm0 HS2.out (by intro h; cases h) rfl (by rw [HLT.out]; rfl) (by rw [HLT.out]; omega) (by rw [HLT.out]; omega) (by simp) ?_; intro oa2 oc2 w2 O2 hg2 hf2 hn2; have b2 := hb0.trans (below_own hm0 hg2 (by simp)); clear hf2 hn2 hg2; rw [Nat.zero_add, List.nil_append, HLT.out] at O2; rw [Nat.zero_add, HLT.out])
        clear hm0 hb0 HS2
        go_loopw [6] (fun to wq => ∃ (m oc : Nat) (oa : Option Addr), j + 1 ≤ m ∧ (m ≤ k ∨ m = j + 1) ∧ to = .slice oa m oc ∧ wq.ownsRow wr.heap.size 3 1 (.slice oa m oc) m ((zs.take (j + 1) ++ List.replicate (m - (j + 1)) 0).map (Value.int .i64)) ∧ Below wr.heap.size wr wq) (fun to _ => k - (lenOfS to))
        case atStart => exact ⟨j + 1, oc2, oa2, by omega, .inr rfl, rfl, by rw [Nat.sub_self, List.replicate_zero, List.append_nil]; exact O2, b2⟩
        case round =>
          clear O2 b2
          obtain ⟨m, oc, oa, hm1, hm2, rfl, OX, BX⟩ := hrel
          have hsz := BX.size
          by_cases hmk : m < k
          · have hmki : (m : Int) < (k : Int) := by omega
            go_wp2_with (first | (at_builtin; refine wpList_appI rfl (.tmp 30) (.tmp 31) 39 rfl _ 3 i0 (.int .i64 0) 8 Tryz.underlying39 hi hz0 hz1 hz2 rfl _ _ OX rfl rfl (by omega) (by omega) hsz ?_; intro ga gc w3 own3 hk3 hat3))
            have B3 := BX.trans (hk3.below (fun q e => (OX.lt q e).1) hsz)
            rw [List.append_assoc, ← List.replicate_succ', show m - (j + 1) + 1 = m + 1 - (j + 1) by omega] at own3
            clear hk3 hat3 OX
            go_roundw
            case rel => exact ⟨m + 1, gc, _, by omega, .inl (by omega), rfl, own3, B3⟩
            case measure => simp [lenOfS]; omega
          · have hmki : ¬ (m : Int) < (k : Int) := by omega
            have HE : Hid (sht8 zs k = zs.take (j + 1) ++ List.replicate (m - (j + 1)) 0) := by show _ = _; rw [HSH.out, show k - (j + 1) = m - (j + 1) by omega]
            have HL : Hid ((sht8 zs k).length = m) := by show _ = _; rw [HE.out, List.length_append, HLT.out, List.length_replicate]; omega
            rw [← HE.out] at OX
            go_wp2_with fail
            go_ret
            refine ⟨oa, oc, ?_, ?_, BX⟩
            · rw [HL.out]; rfl
            · rw [HL.out]; exact OX
end Go.Proofs.YtcifalelnfeggaaGreatDoor

namespace Go.Proofs.YtcifalelnfeggaaGreatDoor
open Go.RowKit
set_option linter.unusedVariables false

theorem made_zerosI (n : Nat) : madeCells #[.int .i64 0] n = Array.replicate n (.int .i64 0) := by
  apply Array.toList_inj.1
  rw [toList_madeCells_one]
  simp
theorem run_make_ints (n : Nat) (h : n ≤ 100000) (w : World) :
    (Instr.makeSlice 39 (.int .i64 (n : Int)) (.int .i64 (n : Int))).run Tryz.prog w = .ok (.slice (some ⟨w.heap.size, 0, none⟩) n n) (w.alloc (.cells (Array.replicate n (.int .i64 0)) 3)) := by
  rw [← made_zerosI]
  exact run_make_row' 39 3 (.int .i64 0) 8 Tryz.underlying39 info_int rfl .i64 .i64 n (by omega) (by omega) w
theorem own_zeros (w : World) (n : Nat) (hn : n ≤ 100000) : (w.alloc (.cells (Array.replicate n (.int .i64 0)) 3)).ownsRow w.heap.size 3 1 (.slice (some ⟨w.heap.size, 0, none⟩) n n) n ((List.replicate n (0 : Int)).map (Value.int .i64)) :=
  ⟨by simp, .inr ⟨w.heap.size, n, _, rfl, Nat.le_refl _, heap_alloc_new w _, Nat.le_refl _, by unfold maxLen; omega, by simp, by simp⟩⟩
theorem own_cell1 {w : World} {base n g cap : Nat} {e : TypeId} {A : List Int} (h : w.ownsRow base e 1 (.slice (some ⟨g, 0, none⟩) n cap) n (A.map (Value.int .i64))) {i : Nat} (hi : i < A.length) : w.cell? ⟨g, i, none⟩ = some (.int .i64 (A.getD i 0)) ∧ ∀ k, w.frozen? ⟨g, k, none⟩ = false := by
  have := h.cells (g := g) rfl i (.int .i64 (A.getD i 0)) (by simp [List.getD, hi])
  have hadd : (⟨g, 0, none⟩ : Addr).add i = ⟨g, i, none⟩ := by unfold Addr.add; split <;> simp_all
  rw [hadd] at this
  refine ⟨this, fun k => ?_⟩
  rcases h.2 with ⟨h1, _⟩ | ⟨g', cap', cur, hv, _, hh, _⟩
  · cases h1
  · simp only [Value.slice.injEq, Option.some.injEq, Addr.mk.injEq] at hv
    obtain ⟨⟨rfl, _⟩, _⟩ := hv
    simp [World.frozen?, hh]
theorem own_grown {w w' : World} {base n g g2 cap : Nat} {e : TypeId} {xs : List Value} (h : w.ownsRow base e 1 (.slice (some ⟨g, 0, none⟩) n cap) n xs) (hg : w.grownBy w' (some g2)) (hne : g ≠ g2) : w'.ownsRow base e 1 (.slice (some ⟨g, 0, none⟩) n cap) n xs := by
  rcases h with ⟨hl, h | ⟨g', cap', cur, hv, hb, hh, rest⟩⟩
  · exact ⟨hl, .inl h⟩
  · simp only [Value.slice.injEq, Option.some.injEq, Addr.mk.injEq, and_true, true_and] at hv
    obtain ⟨rfl, rfl⟩ := hv
    exact ⟨hl, .inr ⟨g, cap, cur, rfl, hb, by rw [hg.block g (Array.getElem?_eq_some_iff.1 hh).1 (by simpa using hne)]; exact hh, rest⟩⟩
end Go.Proofs.YtcifalelnfeggaaGreatDoor
