import Derived.Test.YtppjcgkgemhilaaBtBytes
import Derived.Test.YtppjcgkgemhilaaBtRd
namespace Go.Proofs.Ytppjcgkgemhilaa
open Go.RowKit
set_option linter.unusedVariables false

theorem WrL.below {w w' : World} {b B N : Nat} {v : Value} {L : List Bool} (h : WrL w b B v L) (hk : Kp (WS b v) w w') (h1 : N ≤ b) (h2 : N ≤ B) : Below N w w' :=
  hk.below (fun i e => by
    rcases e with e | e
    · omega
    · have := (h.own_lt i e).1; omega) (by have := h.b_lt; omega)
theorem heap_new (w : World) (o : Obj) : (w.alloc o).heap[w.heap.size]? = some o := heap_alloc_new w o
theorem toB_five : toB (([] : List Bool) ++ bN 5 3 ++ bN 1 2) = [13] := by
  rw [toB_eq (by decide)]
  rw [show (([] : List Bool) ++ bN 5 3 ++ bN 1 2).drop 8 = [] from by decide, toB_nil]
  decide

set_option maxHeartbeats 1000000 in
theorem lives_any (w : World) : Calls Try.prog 9 #[] w fun e w' => e = .returned (.bool true) ∧ Below w.heap.size w w' := by
  obtain ⟨b, hb⟩ : ∃ b, b = w.heap.size := ⟨_, rfl⟩
  have h0 : WrL (w.alloc (.cells #[.slice none 0 0, .int .u64 0, .int .i64 0] 29)) b b (.slice none 0 0) [] := WrL.new (by rw [hb]; exact heap_new _ _) (by simp; omega)
  have B0 : Below w.heap.size w (w.alloc (.cells #[.slice none 0 0, .int .u64 0, .int .i64 0] 29)) := (Below.refl _ _).alloc (Nat.le_refl _) _
  go_enter Try.func9, Try.ntmps9
  go_wp2_with fail
  rw [← hb]
  have HB : Hid (b = w.heap.size) := hb
  clear hb
  generalize w.alloc (.cells #[.slice none 0 0, .int .u64 0, .int .i64 0] 29) = w0 at *
  refine (put_ok b b _ [] 5 3 _ h0 (by decide) (by decide) (by simp)).mono ?_
  rintro e w1 ⟨rfl, v1, h1, k1, f1⟩
  have B1 := h0.below k1 (Nat.le_refl _) (Nat.le_refl _)
  go_wp2_with fail
  refine (put_ok b b _ _ 1 2 _ h1 (by decide) (by decide) (by simp [bN_len])).mono ?_
  rintro e w2 ⟨rfl, v2, h2, k2, f2⟩
  have B2 := h1.below k2 (Nat.le_refl _) (Nat.le_refl _)
  go_wp2_with fail
  refine (len_any b b _ _ _ h2 (by simp [bN_len])).mono ?_
  rintro e w3 ⟨rfl, B3⟩
  have h3 : WrL w3 b b v2 ([] ++ bN 5 3 ++ bN 1 2) := h2.kp (S := fun _ => False) (Kp.of_below B3) (by simp) (by simp)
  have hb3 := h3.b_lt
  have hR : (w3.alloc (.cells #[.int .u64 0, .int .i64 0, .int .i64 0] 40)).heap[w3.heap.size]? = some (.cells #[.int .u64 0, .int .i64 0, .int .i64 0] 40 (0, 0)) := heap_new _ _
  have B4 : Below w3.heap.size w3 (w3.alloc (.cells #[.int .u64 0, .int .i64 0, .int .i64 0] 40)) := (Below.refl _ _).alloc (Nat.le_refl _) _
  have h4 : WrL (w3.alloc (.cells #[.int .u64 0, .int .i64 0, .int .i64 0] 40)) b b v2 ([] ++ bN 5 3 ++ bN 1 2) := h3.kp (S := fun _ => False) (Kp.of_below B4) (by simp) (by simp)
  have r4 := Rd.new hR
  obtain ⟨q, hq⟩ : ∃ q, q = w3.heap.size := ⟨_, rfl⟩
  have hlen : (([] ++ bN 5 3 ++ bN 1 2 : List Bool).length : Int) = 5 := by decide
  rw [hlen]
  clear hlen
  go_wp2_with fail
  rw [← hq] at r4 ⊢
  have HQ : Hid (q = w3.heap.size) := hq
  clear hq
  generalize w3.alloc (.cells #[.int .u64 0, .int .i64 0, .int .i64 0] 40) = w4 at *
  refine (bytes_any b b _ _ _ h4 (by simp [bN_len])).mono ?_
  rw [toB_five]
  rintro e w5 ⟨a5, c5, rfl, own5, B5⟩
  have r5 : Rd w5 q [] 0 := r4.kp (S := fun _ => False) (Kp.of_below B5) (by simp)
  obtain ⟨_, a', c', hv, hs5, hx5, hc5, _⟩ := own_seg (zs := [13]) own5 (M := 255) (by decide) (by decide)
  cases hv
  have hq4 := r4.b_lt
  go_wp2_with fail
  refine (feed_any q [] 0 a5 [13] c5 w5 r5 hs5 hc5 (fun g off e _ e2 => by have h6 := (hx5 _ e).2.2.1; simp at h6; omega) (by simp)).mono ?_
  rintro e w6 ⟨rfl, r6, k6⟩
  clear hq4
  have e1 : feedN [] ([13] : List Int).length = 1 := by decide
  have e2 : ([] ++ bB (([13] : List Int).take 1)) = bN 13 8 := by decide
  rw [e1, e2] at r6
  rw [e1]
  clear e1 e2
  go_wp2_with fail
  refine (take_any q (bN 13 8) 0 3 w6 r6 (by omega)).mono ?_
  have e3 : takeV (bN 13 8) 3 = 5 := by decide
  have e4 : there (bN 13 8) 3 = true := by decide
  have e5 : takeL (bN 13 8) 3 = bN 1 5 := by decide
  rw [e3, e4, e5]
  clear e3 e4 e5
  rintro e w7 ⟨rfl, r7, k7⟩
  go_wp2_with fail
  refine (has_any q _ _ w7 r7).mono ?_
  rintro e w8 ⟨rfl, hw8⟩
  subst w8
  go_wp2
  go_ret
  refine ⟨rfl, ?_⟩
  have hb := HB.out
  have hq := HQ.out
  have s0 := B0.size
  have s1 := B1.size
  have s2 := B2.size
  have s3 := B3.size
  have s4 := B4.size
  have s5 := B5.size
  have B6 : Below w.heap.size w5 w6 := k6.below (fun i e => by omega) (by omega)
  have B7 : Below w.heap.size w6 w7 := (Below.refl _ _).grown k7 (by have := k6.size; omega) (by intro j e; cases e; omega)
  rw [hb] at B1 B2
  exact B0.trans (B1.trans (B2.trans ((B3.mono (by omega)).trans ((B4.mono (by omega)).trans ((B5.mono (by omega)).trans (B6.trans B7))))))

end Go.Proofs.Ytppjcgkgemhilaa
