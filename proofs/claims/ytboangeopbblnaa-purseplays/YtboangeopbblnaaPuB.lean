
import Derived.Test.YtboangeopbblnaaPuA
import Derived.Test.YtboangeopbblnaaLnSeg
import Derived.Defers
import Derived.Deep.QuietTactic
import Derived.StillTailTactics
namespace Go.Proofs.Ytboangeopbblnaa
open Go.RowKit Go.Maps Go.WideMaps Go.MuLone
set_option linter.unusedVariables false
set_option linter.unusedSimpArgs false
set_option maxRecDepth 100000

/-! The ledger in memory; within; sums. -/
theorem led_c {w : World} {b : Nat} {x y z u : Value} {t : TypeId} (h : w.heap[b]? = some (.cells #[x, y, z, u] t (0, 0))) : w.cell? ⟨b, 0, none⟩ = some x ∧ w.cell? ⟨b, 1, none⟩ = some y ∧ w.cell? ⟨b, 2, none⟩ = some z ∧ w.cell? ⟨b, 3, none⟩ = some u := by simp [World.cell?, h]
theorem led_free {w : World} {b : Nat} {x y z u : Value} {t : TypeId} (h : w.heap[b]? = some (.cells #[x, y, z, u] t (0, 0))) (i : Nat) : w.frozen? ⟨b, i, none⟩ = false := by simp [World.frozen?, h]
theorem led_set0 {w : World} {b : Nat} {x y z u : Value} {t : TypeId} (h : w.heap[b]? = some (.cells #[x, y, z, u] t (0, 0))) (v : Value) : (w.setCell ⟨b, 0, none⟩ v).heap[b]? = some (.cells #[v, y, z, u] t (0, 0)) := by
  simp [World.setCell, h, Array.getElem?_modify]
theorem led_set3 {w : World} {b : Nat} {x y z u : Value} {t : TypeId} (h : w.heap[b]? = some (.cells #[x, y, z, u] t (0, 0))) (v : Value) : (w.setCell ⟨b, 3, none⟩ v).heap[b]? = some (.cells #[x, y, z, v] t (0, 0)) := by
  simp [World.setCell, h, Array.getElem?_modify]
/-- A ledger in block l, its lock's word x, its map in block m. -/
structure Lg23 (w : World) (l m : Nat) (x : Int) (S : Pu23) : Prop where
  hl : w.heap[l]? = some (.cells #[.int .i32 x, .int .u32 0, .map (some m), .int .i64 S.pk] 62 (0, 0))
  hm : Mn23 w m S.L
  ok : Ok23 S
theorem Lg23.ne {w : World} {l m : Nat} {x : Int} {S : Pu23} (h : Lg23 w l m x S) : m ≠ l := fun e => h.hm.no (by rw [e]; exact h.hl)
theorem Lg23.lt {w : World} {l m : Nat} {x : Int} {S : Pu23} (h : Lg23 w l m x S) : l < w.heap.size ∧ m < w.heap.size := ⟨(Array.getElem?_eq_some_iff.1 h.hl).1, h.hm.lt⟩
theorem Lg23.kp {w w' : World} {l m : Nat} {x : Int} {S : Pu23} (h : Lg23 w l m x S) {F : Nat → Prop} (hk : Kp F w w') (h1 : ¬ F l) (h2 : ¬ F m) : Lg23 w' l m x S :=
  ⟨hk.heap h.hl h1, h.hm.block (hk.block m h.hm.lt h2), h.ok⟩
theorem Lg23.below {w w' : World} {l m : Nat} {x : Int} {S : Pu23} (h : Lg23 w l m x S) (hk : Below w.heap.size w w') : Lg23 w' l m x S := h.kp (F := fun _ => False) (.of_below hk) (fun h => h) (fun h => h)
theorem Lg23.lock {w : World} {l m : Nat} {x : Int} {S : Pu23} (h : Lg23 w l m x S) (y : Int) : Lg23 (w.setCell ⟨l, 0, none⟩ (.int .i32 y)) l m y S :=
  ⟨led_set0 h.hl _, h.hm.block ((Kp.set (S := fun k => k = l) (w := w) (b := l) (i := 0) rfl (.int .i32 y)).block m h.hm.lt h.ne), h.ok⟩
theorem Lg23.drew {w : World} {l m : Nat} {x : Int} {S : Pu23} (h : Lg23 w l m x S) : Lg23 w.drew l m x S := ⟨h.hl, h.hm.block rfl, h.ok⟩
set_option maxRecDepth 100000 in
theorem pwith23 (n a b : Int) (h : a ≤ n ∧ n ≤ b) (w : World) : Calls Try.prog 34 #[.int .i64 n, .int .i64 a, .int .i64 b] w fun e w' => e = .returned (.bool true) ∧ w' = w := by
  go_enter Try.func34, Try.ntmps34
  go_wp2_with fail
  all_goals first | (exfalso; omega) | skip
  all_goals go_ret
  all_goals refine ⟨?_, rfl⟩
  all_goals first | rfl | (simp_all; done)
set_option maxRecDepth 100000 in
theorem pwith23_no (n a b : Int) (h : n < a ∨ b < n) (w : World) : Calls Try.prog 34 #[.int .i64 n, .int .i64 a, .int .i64 b] w fun e w' => e = .returned (.bool false) ∧ w' = w := by
  go_enter Try.func34, Try.ntmps34
  go_wp2_with fail
  all_goals go_ret
  all_goals refine ⟨?_, rfl⟩
  all_goals first | rfl | (congr 2; simp; omega)
set_option maxRecDepth 100000 in
set_option maxHeartbeats 4000000 in
theorem psums23' {w : World} {l m : Nat} {x pk : Int} {L : List Ho23} (hl : w.heap[l]? = some (.cells #[.int .i32 x, .int .u32 0, .map (some m), .int .i64 pk] 62 (0, 0))) (hm : Mn23 w m L) (so : So23 L)
    (bd : ∀ h ∈ L, 0 ≤ h.no ∧ h.no ≤ h.mo ∧ h.mo ≤ 1099511627776 ∧ h.nm.size ≤ 9223372036854775807) (ln : L.length ≤ 1024) :
    Calls Try.prog 45 #[.pointer (some ⟨l, 0, none⟩)] w fun e w' => e = .returned (.tuple #[.int .i64 (hs23 L), .int .i64 (ms23 L)]) ∧ Below w.heap.size w w' := by
  obtain ⟨c0, c1, c2, c3⟩ := led_c hl
  have hmn : Hid (Mn23 w m L) := hm
  have hlt : Hid (m < w.heap.size) := hm.lt
  have SO : Hid (So23 L) := so
  have BD : Hid (∀ h ∈ L, 0 ≤ h.no ∧ h.no ≤ h.mo ∧ h.mo ≤ 1099511627776 ∧ h.nm.size ≤ 9223372036854775807) := bd
  have LN : Hid (L.length ≤ 1024) := ln
  clear hl hm so bd ln c0 c1 c3
  go_enter Try.func45, Try.ntmps45
  go_wp2_with (at_range; refine wpList_range23 rfl _ rfl m L (fun h hh => (BD.out h hh).2.2.2) SO.out rfl hmn.out ?_; intro w0 lf0 cnt0 hrg0 hl0 hg0 hs0)
  go_frame
  go_loopw [2, 3] (fun t2 t3 wr => ∃ (lf : ByteArray → Bool) (cnt : Nat), Rg23 wr m w.heap.size L lf cnt ∧ t2 = .int .i64 (hs23 (gn23 L lf)) ∧ t3 = .int .i64 (ms23 (gn23 L lf)) ∧ Below w.heap.size w wr) (fun _ _ wr => wr.rangeLeft m w.heap.size)
  case atStart =>
    refine ⟨lf0, cnt0, hrg0, ?_, ?_, (Below.refl _ _).grown hg0 (Nat.le_refl _) (fun j hj => by cases hj)⟩
    · rw [gn23_none hl0]; rfl
    · rw [gn23_none hl0]; rfl
  case round =>
    obtain ⟨lf, cnt, hrg, rfl, rfl, hB⟩ := hrel
    have hrgH : Hid (Rg23 wr m w.heap.size L lf cnt) := hrg
    have HB : Hid (Below w.heap.size w wr) := hB
    clear hrg hB hrg0 hl0 hg0 hs0
    go_wp2_with (at_next; refine wpList_next23 rfl _ rfl m w.heap.size L lf cnt rfl hrgH.out ?_ ?_)
    · intro hl
      go_wp2_with fail
      go_ret2
      refine ⟨?_, HB.out⟩
      rw [gn23_all hl]
      rfl
    · intro y w1 lf1 cnt1 hy hly hl1 hrg1 hlt1 hg1 hs1 hen
      have hgb := gn23_bd' BD.out LN.out lf
      have hgs := gn23_sum SO.out.ne hy hly hl1
      have hgb1 := gn23_bd' BD.out LN.out lf1
      have HX : Hid (hs23 (gn23 L lf1) = hs23 (gn23 L lf) + y.no ∧ ms23 (gn23 L lf1) = ms23 (gn23 L lf) + y.mo) := hgs
      have q1 : IntKind.i64.wrap (hs23 (gn23 L lf) + y.no) = hs23 (gn23 L lf) + y.no := IntWalk.i64_in _ (by omega)
      have q2 : IntKind.i64.wrap (ms23 (gn23 L lf) + y.mo) = ms23 (gn23 L lf) + y.mo := IntWalk.i64_in _ (by omega)
      have HG : Hid (Rg23 w1 m w.heap.size L lf1 cnt1 ∧ w1.heap.size = wr.heap.size ∧ cnt1 < cnt ∧ Below w.heap.size w w1) := ⟨hrg1, hs1, hlt1, HB.out.grown hg1 HB.out.size (fun j hj => by cases hj; exact Nat.le_refl _)⟩
      clear hgb hgs hgb1 hrg1 hs1 hlt1 hg1 hly hl1 hy
      go_wp2_with fail
      go_roundw
      case rel =>
        refine ⟨lf1, cnt1, HG.out.1.alloc _, ?_, ?_, HG.out.2.2.2.alloc HG.out.2.2.2.size _⟩
        · rw [HX.out.1]
        · rw [HX.out.2]
      case measure =>
        rw [(HG.out.1.alloc _).left, hrgH.out.left]
        exact HG.out.2.2.1
theorem psums23 {w : World} {l m : Nat} {x : Int} {S : Pu23} (h : Lg23 w l m x S) :
    Calls Try.prog 45 #[.pointer (some ⟨l, 0, none⟩)] w fun e w' => e = .returned (.tuple #[.int .i64 (hs23 S.L), .int .i64 (ms23 S.L)]) ∧ Below w.heap.size w w' := psums23' h.hl h.hm h.ok.so h.ok.bd h.ok.ln
end Go.Proofs.Ytboangeopbblnaa
