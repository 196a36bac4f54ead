import Derived.Test.YtmfpdchfofffeaaGreatDoorSu3
import Derived.Test.YtmfpdchfofffeaaGreatDoorMkA
namespace Go.Proofs.YtmfpdchfofffeaaGreatDoor
open Go.RowKit Go.Shelf
set_option linter.unusedVariables false
set_option linter.unusedSimpArgs false
def sc20 (b : Nat) (oa : Option Addr) (oc : Nat) : Array Value := #[.slice oa 0 oc, .slice none 0 0, .pointer (some ⟨b, 0, none⟩), .slice none 0 0, .int .i64 0, .int .i64 0, .slice none 0 0, .slice none 0 0, .slice none 0 0, .int .i64 0, .int .i64 0, .int .i64 0, .int .i64 0, .int .i64 0, .int .i64 0, .int .i64 0, .slice none 0 0]
set_option maxRecDepth 100000 in
theorem pend20 (g b : Nat) (oa : Option Addr) (oc : Nat) (w : World) (h : w.heap[g]? = some (.cells (sc20 b oa oc) 99 (0, 0))) :
    Calls Tryz.prog 47 #[.pointer (some ⟨g, 0, none⟩)] w fun e w' => e = .returned (.bool true) ∧ ∃ k, w' = w.drewN k := by
  have c1 : w.cell? ⟨g, 1, none⟩ = some (.slice none 0 0) := cell18 h rfl
  have c12 : w.cell? ⟨g, 12, none⟩ = some (.int .i64 0) := cell18 h rfl
  clear h
  go_enter Tryz.func47, Tryz.ntmps47
  go_wp2_with fail
  go_quiet (fail)
  go_wp2_with fail
  go_ret
  exact ⟨by first | rfl | simp, _, rfl⟩
theorem pnew20 (w : World) : Calls Tryz.prog 32 #[.slice none 0 0] w (NewQ13 w [] 0) :=
  pnew13 none [] 0 0 w (SegK.nil (by decide) w none) (fun _ => rfl) rfl (by decide)
set_option maxRecDepth 100000 in
set_option maxHeartbeats 2000000 in
theorem pstp20 (b : Nat) (da : Option Addr) (dc : Nat) (aa : Option Addr) (ac gb gr : Nat) (A : List Nat) (w : World) (h : Ix13 w b da dc aa ac gb gr 0 [] A) :
    Calls Tryz.prog 30 #[.pointer (some ⟨b, 0, none⟩), .slice none 0 0] w fun e w' => e = .returned (.tuple #[.slice none 0 0, .int .i64 0]) ∧ Below w.heap.size w w' := by
  have AT := patn13 b da dc aa ac gb gr 0 [] A 0 w h (by decide) (by omega)
  have HD : Hid (∀ V, Below w.heap.size w V → Calls Tryz.prog 46 #[.pointer (some ⟨b, 0, none⟩)] V (AnB13 V 0 [])) := fun V hV => pdat13 b da dc aa ac gb gr 0 [] A V (h.old hV)
  clear h
  go_enter Tryz.func30, Tryz.ntmps30
  go_wp2_with fail
  refine AT.mono ?_
  rintro e1 w1 ⟨rfl, b1⟩
  have HB1 : Hid (Below w.heap.size w w1) := b1
  clear AT b1
  go_wp2_with fail
  refine (HD.out w1 HB1.out).mono ?_
  rintro e2 w2 ⟨ra, rc, rfl, hnil, hown, b2⟩
  obtain ⟨w3, hw3⟩ : ∃ w3, w3 = w2.alloc (.cells #[.slice none 0 0, .slice none 0 0, .pointer none, .slice none 0 0, .int .i64 0, .int .i64 0, .slice none 0 0, .slice none 0 0, .slice none 0 0, .int .i64 0, .int .i64 0, .int .i64 0, .int .i64 0, .int .i64 0, .int .i64 0, .int .i64 0, .slice none 0 0] 99) := ⟨_, rfl⟩
  have c3 := cb16 w2 #[.slice none 0 0, .slice none 0 0, .pointer none, .slice none 0 0, .int .i64 0, .int .i64 0, .slice none 0 0, .slice none 0 0, .slice none 0 0, .int .i64 0, .int .i64 0, .int .i64 0, .int .i64 0, .int .i64 0, .int .i64 0, .int .i64 0, .slice none 0 0] 99
  rw [← hw3] at c3
  obtain ⟨g, hg⟩ : ∃ g, g = w2.heap.size := ⟨_, rfl⟩
  have q3 := c3.cl
  rw [← hg] at q3
  have HW3 : Hid (w2.alloc (.cells #[.slice none 0 0, .slice none 0 0, .pointer none, .slice none 0 0, .int .i64 0, .int .i64 0, .slice none 0 0, .slice none 0 0, .slice none 0 0, .int .i64 0, .int .i64 0, .int .i64 0, .int .i64 0, .int .i64 0, .int .i64 0, .int .i64 0, .slice none 0 0] 99) = w3 ∧ w2.heap.size = g) := ⟨hw3.symm, hg.symm⟩
  have HQ3 : Hid (w3.heap[g]? = some (.cells #[.slice none 0 0, .slice none 0 0, .pointer none, .slice none 0 0, .int .i64 0, .int .i64 0, .slice none 0 0, .slice none 0 0, .slice none 0 0, .int .i64 0, .int .i64 0, .int .i64 0, .int .i64 0, .int .i64 0, .int .i64 0, .int .i64 0, .slice none 0 0] 99 (0, 0))) := q3
  have B2 : Below w.heap.size w w2 := HB1.out.trans (b2.mono HB1.out.size)
  have q4 : (w3.setRow g (sc20 b ra rc)).heap[g]? = some (.cells (sc20 b ra rc) 99 (0, 0)) := setRow_heap _ _ _ _ _ _ q3
  have B4 : Below w.heap.size w (w3.setRow g (sc20 b ra rc)) := by
    have B3 : Below w.heap.size w w3 := B2.trans (c3.bl.mono B2.size)
    have kk : Kp (fun q => w.heap.size ≤ q) w (w3.setRow g (sc20 b ra rc)) := (Kp.of_below (S := fun q => w.heap.size ≤ q) B3).trans (grow20 _ _ _) (fun q _ y => by have y : q = g := y; have := B2.size; show w.heap.size ≤ q; omega)
    exact kk.below (fun _ y => y) (Nat.le_refl _)
  obtain ⟨w4, hw4⟩ : ∃ w4, w4 = w3.setRow g (sc20 b ra rc) := ⟨_, rfl⟩
  rw [← hw4] at q4 B4
  have HW4 : Hid (w3.setRow g (sc20 b ra rc) = w4) := hw4.symm
  have HQ4 : Hid (w4.heap[g]? = some (.cells (sc20 b ra rc) 99 (0, 0)) ∧ Below w.heap.size w w4) := ⟨q4, B4⟩
  have EN := pend20 g b ra rc w4 q4
  clear hw3 hw4 c3 hg q3 q4 B2 B4 hown b2 hnil HD
  go_wp2_with (first
    | (rw [HW3.out.1, HW3.out.2]; refine wpList_store_row rfl 99 (.tmp 8) (.tmp 26) rfl g (sc20 b ra rc) rfl rfl _ _ HQ3.out (by kernel_rfl) rfl (by kernel_rfl) ?_; rw [HW4.out]))
  simp only [Act.put]
  go_loopw [] (fun V => V = w4) (fun _ => 0)
  case atStart => rfl
  case round =>
    have hwr : wr = w4 := hrel
    subst wr
    go_wp2_with fail
    refine EN.mono ?_
    rintro e5 w5 ⟨rfl, k, hw5⟩
    have c16 : w5.cell? ⟨g, 16, none⟩ = some (.slice none 0 0) := by rw [hw5]; exact cell18 HQ4.out.1 rfl
    have HB5 : Hid (Below w.heap.size w w5) := by show Below _ _ _; rw [hw5]; exact below_drewN16 HQ4.out.2 _
    clear hw5 EN
    go_wp2_with fail
    go_ret2
    exact ⟨rfl, HB5.out⟩
end Go.Proofs.YtmfpdchfofffeaaGreatDoor
