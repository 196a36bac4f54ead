
import Derived.Test.YtaipfcfmhdigfaaLzP2
import Derived.Laws.Rows
namespace Go.Proofs.Ytaipfcfmhdigfaa
open Go.RowKit
set_option linter.unusedVariables false

/-! The landed lz: key, same. -/
set_option maxRecDepth 100000 in
set_option maxHeartbeats 2000000 in
theorem pkey7 (D : List Int) (a : Option Addr) (n cap p : Nat) (hn : Hid (D.length = n)) (w : World) (hs : Seg w a D) (hp : p + 2 < n) (hl : n ≤ 1152921504606846976) :
    Calls Try.prog 46 #[.slice a n cap, .int .i64 (p : Int)] w fun e w' => e = .returned (.agg #[.int .u8 (D.getD p 0), .int .u8 (D.getD (p + 1) 0), .int .u8 (D.getD (p + 2) 0)]) ∧ Below w.heap.size w w' := by
  obtain ⟨g, off, rfl, c0⟩ := hs.at_ p (by rw [hn.out]; omega)
  obtain ⟨g', off', hgg, c1⟩ := hs.at_ (p + 1) (by rw [hn.out]; omega)
  cases hgg
  obtain ⟨g', off', hgg, c2⟩ := hs.at_ (p + 2) (by rw [hn.out]; omega)
  cases hgg
  have hg := World.block_lt_of_cell? w _ c0
  have b0 := hs.bd p
  have b1 := hs.bd (p + 1)
  have b2 := hs.bd (p + 2)
  have hw1 : IntKind.i64.wrap ((p : Int) + 1) = ((p + 1 : Nat) : Int) := by rw [IntWalk.i64_in _ (by omega)]; omega
  have hw2 : IntKind.i64.wrap ((p : Int) + 2) = ((p + 2 : Nat) : Int) := by rw [IntWalk.i64_in _ (by omega)]; omega
  have l0 : (p : Int) < (n : Int) := by omega
  have l1 : ((p + 1 : Nat) : Int) < (n : Int) := by omega
  have l2 : ((p + 2 : Nat) : Int) < (n : Int) := by omega
  obtain ⟨p1, hp1⟩ : ∃ p1, p1 = p + 1 := ⟨_, rfl⟩
  obtain ⟨p2, hp2⟩ : ∃ p2, p2 = p + 2 := ⟨_, rfl⟩
  have e1 : (p : Int) + 1 = (p1 : Int) := by omega
  have e2 : (p : Int) + 2 = (p2 : Int) := by omega
  rw [← hp1] at c1 b1 hw1 l1 ⊢
  rw [← hp2] at c2 b2 hw2 l2 ⊢
  clear hp1 hp2 hs
  generalize D.getD p 0 = x at *
  generalize D.getD p1 0 = y at *
  generalize D.getD p2 0 = z at *
  go_enter Try.func46, Try.ntmps46
  go_wp2_with fail
  go_region
  go_wp2
  have hg : ((w.alloc (.cells #[.int .u8 x, .int .u8 y, .int .u8 z] 97)).drew).heap[w.heap.size]? = some (.cells #[.int .u8 x, .int .u8 y, .int .u8 z] 97 (0, 0)) := heap_alloc_new w _
  refine bodyPost_ret (v := .agg #[.int .u8 x, .int .u8 y, .int .u8 z]) (results_cell_row (fn := Try.f46) (p := 4) (ty := 97) rfl _ _ w.heap.size _ _ _ _ rfl hg Try.underlying97 rfl (by kernel_rfl)) rfl ?_
  have b1 : Below w.heap.size w (w.alloc (.cells #[.int .u8 x, .int .u8 y, .int .u8 z] 97)) := below_box _ _
  exact ⟨rfl, ⟨b1.os, b1.tape, b1.output, b1.size, b1.block⟩⟩
set_option maxRecDepth 100000 in
set_option maxHeartbeats 2000000 in
theorem psame7 (D : List Int) (a : Option Addr) (n cap q p k lim : Nat) (hn : Hid (D.length = n)) (w : World) (hs : Seg w a D) (hq : q < p) (hp : p ≤ n) (hk : k ≤ al7 D q p) (hlim : lim = min 258 (n - p)) (hl : n ≤ 1152921504606846976) :
    Calls Try.prog 47 #[.slice a n cap, .int .i64 (q : Int), .int .i64 (p : Int), .int .i64 (k : Int), .int .i64 (lim : Int)] w fun e w' => e = .returned (.int .i64 (al7 D q p : Int)) ∧ Below w.heap.size w w' := by
  have HS : Hid (Seg w a D) := hs
  have hal := al7_le D q p
  have hfit := al7_fits (D := D) (q := q) (p := p) (by rw [hn.out]; exact hp)
  rw [hn.out] at hfit
  have hall : al7 D q p ≤ lim := by omega
  have hlim2 : lim ≤ 258 ∧ p + lim ≤ n := by omega
  clear hs hlim
  go_enter Try.func47, Try.ntmps47
  go_wp2_with fail
  go_loopw [3] (fun ti wr => ∃ i : Nat, i ≤ al7 D q p ∧ ti = .int .i64 (i : Int) ∧ Below w.heap.size w wr) (fun ti _ => 258 - (intOf ti).toNat)
  case atStart => exact ⟨k, hk, rfl, Below.refl _ _⟩
  case round =>
    obtain ⟨i, hi, rfl, BR⟩ := hrel
    by_cases hil : i < lim
    · have hili : (i : Int) < (lim : Int) := by omega
      have hw1 : IntKind.i64.wrap ((p : Int) + (i : Int)) = ((p + i : Nat) : Int) := by rw [IntWalk.i64_in _ (by omega)]; omega
      have hw2 : IntKind.i64.wrap ((q : Int) + (i : Int)) = ((q + i : Nat) : Int) := by rw [IntWalk.i64_in _ (by omega)]; omega
      obtain ⟨x, hx⟩ : ∃ x, x = p + i := ⟨_, rfl⟩
      obtain ⟨y, hy⟩ : ∃ y, y = q + i := ⟨_, rfl⟩
      rw [← hx] at hw1
      rw [← hy] at hw2
      have hlti : (x : Int) < (n : Int) := by omega
      have hylt : (y : Int) < (n : Int) := by omega
      have sg : Seg wr a D := (show Seg w a D from HS.out).below BR (show Seg w a D from HS.out).lt
      obtain ⟨g, off, rfl, cx⟩ := sg.at_ x (by rw [hn.out]; omega)
      obtain ⟨g', off', hgg, cy⟩ := sg.at_ y (by rw [hn.out]; omega)
      cases hgg
      have bx := sg.bd x
      have byy := sg.bd y
      have hxi : (p : Int) + (i : Int) = (x : Int) := by omega
      have hyi : (q : Int) + (i : Int) = (y : Int) := by omega
      have HGO : Hid (D.getD y 0 = D.getD x 0 → i + 1 ≤ al7 D q p) := fun e => by
        rw [al7_iff (by omega)]
        intro j hj
        by_cases hji : j < i
        · exact al7_same (by omega)
        · obtain rfl : j = i := by omega
          exact ⟨by rw [hn.out]; omega, by rw [← hx, ← hy]; exact e⟩
      have HNO : Hid (¬ D.getD y 0 = D.getD x 0 → i = al7 D q p) := fun e => by
        by_cases h : i < al7 D q p
        · exact absurd (by rw [hx, hy]; exact (al7_same h).2) e
        · omega
      clear hx hy sg
      generalize D.getD x 0 = ux at *
      generalize D.getD y 0 = uy at *
      by_cases he : uy = ux
      · have hI := HGO.out he
        clear HGO HNO
        go_wp2_with fail
        go_quiet (fail)
        go_wp2
        go_roundw
        case rel => exact ⟨i + 1, hI, by go_num, ⟨BR.os, BR.tape, BR.output, BR.size, BR.block⟩⟩
        case measure => simp [intOf]; omega
      · have HI : Hid (i = al7 D q p) := HNO.out he
        clear HGO HNO
        go_wp2_with fail
        go_quiet (fail)
        go_wp2
        go_ret
        exact ⟨by rw [← HI.out]; rfl, ⟨BR.os, BR.tape, BR.output, BR.size, BR.block⟩⟩
    · have hili : ¬ (i : Int) < (lim : Int) := by omega
      have HI : Hid (i = al7 D q p) := by show _ = _; omega
      go_wp2_with fail
      go_quiet (fail)
      go_wp2
      go_ret
      exact ⟨by rw [← HI.out]; rfl, ⟨BR.os, BR.tape, BR.output, BR.size, BR.block⟩⟩
end Go.Proofs.Ytaipfcfmhdigfaa
