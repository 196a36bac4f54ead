
import Derived.Test.YtidcdbdlaonoeaaGreatFd1
import Derived.Test.YtidcdbdlaonoeaaGreatSuL1
namespace Go.Proofs.YtidcdbdlaonoeaaGreat
open Go.RowKit
set_option linter.unusedVariables false

/-! The law's helpers of layer 14: lend, kept, index, awake. -/
def lentB14 (zs : List Int) : List Int := zs ++ [71, 72, 73]
theorem lentB14_len (zs : List Int) : (lentB14 zs).length = zs.length + 3 := by simp [lentB14]
theorem lentB14_bd {zs : List Int} (h : ∀ z ∈ zs, 0 ≤ z ∧ z ≤ 255) : ∀ z ∈ lentB14 zs, 0 ≤ z ∧ z ≤ 255 := by
  intro z hz
  unfold lentB14 at hz
  rw [List.mem_append] at hz
  rcases hz with hz | hz
  · exact h z hz
  · simp at hz; omega
theorem lentB14_take (zs : List Int) : (lentB14 zs).take zs.length = zs := by simp [lentB14]
def LenQ14 (w : World) (zs : List Int) (n : Nat) (e : Ending) (w' : World) : Prop := ∃ g c, e = .returned (.slice (some ⟨g, 0, none⟩) (n + 3) c) ∧ Seg w' (some ⟨g, 0, none⟩) (lentB14 zs) ∧ n + 3 ≤ c ∧ Below w.heap.size w w'
open Classical in
theorem cn12_chk14 {P : Nat → Prop} (f : Nat → Bool) (h : ∀ i, P i ↔ f i = true) : ∀ n, cn12 P n = ((List.range n).filter f).length
  | 0 => rfl
  | n + 1 => by
    rw [List.range_succ, List.filter_append, List.length_append, ← cn12_chk14 f h n]
    show cn12 P n + _ = _
    by_cases c : P n
    · rw [if_pos c, List.filter_cons, if_pos ((h n).1 c)]; rfl
    · rw [if_neg c, List.filter_cons, if_neg (fun k => c ((h n).2 k))]; rfl
theorem lo14_chk (z p : List Int) : lo14 z p = ((List.range z.length).filter fun j => decide (cq14 (z.drop j) p < 0)).length :=
  cn12_chk14 _ (fun i => by rw [cq14_is, decide_eq_true_eq]) _
theorem hi14_chk (z p : List Int) : hi14 z p = ((List.range z.length).filter fun j => decide (cq14 (z.drop j) p ≤ 0)).length :=
  cn12_chk14 _ (fun i => by rw [cq14_is, decide_eq_true_eq]) _
set_option maxRecDepth 100000 in
set_option maxHeartbeats 1000000 in
theorem pawk14 (w : World) : Calls Tryz.prog 12 #[] w fun e w' => e = .returned (.bool true) ∧ Below w.heap.size w w' := by
  have B0 : Below w.heap.size w (w.alloc (.cells #[.int .u8 98, .int .u8 97, .int .u8 110, .int .u8 97, .int .u8 110, .int .u8 97] 5 (6, 7))) := (Below.refl _ _).alloc (Nat.le_refl _) _
  have hcv : (convert 22 22 (.slice (some ⟨w.heap.size, 0, none⟩) 6 6)).run Tryz.prog (w.alloc (.cells #[.int .u8 98, .int .u8 97, .int .u8 110, .int .u8 97, .int .u8 110, .int .u8 97] 5)) = .ok (.slice (some ⟨w.heap.size, 0, none⟩) 6 6) (w.alloc (.cells #[.int .u8 98, .int .u8 97, .int .u8 110, .int .u8 97, .int .u8 110, .int .u8 97] 5 (6, 7))) := Lib.run_convert_bytes_const (P := Tryz.prog) w 22 5 #[.int .u8 98, .int .u8 97, .int .u8 110, .int .u8 97, .int .u8 110, .int .u8 97] 6 6 Tryz.underlying22 Tryz.underlying5
  have HN := pnew13 (some ⟨w.heap.size, 0, none⟩) [98, 97, 110, 97, 110, 97] 6 6 _ (seg_lit13 w [98, 97, 110, 97, 110, 97] 5 (6, 7) (by decide)) (by intro h; cases h) rfl (by omega)
  have HLO : Hid (lo14 [98, 97, 110, 97, 110, 97] [97, 110] = 1) := by show _ = _; rw [lo14_chk]; rfl
  have HHI : Hid (hi14 [98, 97, 110, 97, 110, 97] [97, 110] = 3) := by show _ = _; rw [hi14_chk]; rfl
  have HC2 : Hid (∀ w1 : World, (convert 22 22 (.slice (some ⟨w1.heap.size, 0, none⟩) 2 2)).run Tryz.prog (w1.alloc (.cells #[.int .u8 97, .int .u8 110] 5)) = .ok (.slice (some ⟨w1.heap.size, 0, none⟩) 2 2) (w1.alloc (.cells #[.int .u8 97, .int .u8 110] 5 (2, 3)))) := fun w1 => Lib.run_convert_bytes_const (P := Tryz.prog) w1 22 5 #[.int .u8 97, .int .u8 110] 2 2 Tryz.underlying22 Tryz.underlying5
  go_enter Tryz.func12, Tryz.ntmps12
  go_wp2_with (first
    | (go_at_call 31; refine HN.mono ?_; rintro e1 w1 ⟨b, da, dc, aa, ac, gb, gr, A, rfl, hI, B1, -⟩; clear HN hcv; have hc2 := HC2.out w1)
    | (go_at_call 4; fail))
  have B1' := B0.trans (B1.mono B0.size)
  have B2 : Below w1.heap.size w1 (w1.alloc (.cells #[.int .u8 97, .int .u8 110] 5 (2, 3))) := (Below.refl _ _).alloc (Nat.le_refl _) _
  have HR := prange14 b 6 [98, 97, 110, 97, 110, 97] A (some ⟨w1.heap.size, 0, none⟩) [97, 110] 2 2 _ ⟨da, dc, aa, ac, gb, gr, hI.old B2⟩ (seg_lit13 w1 [97, 110] 5 (2, 3) (by decide)) rfl (by omega)
  rw [HLO.out, HHI.out] at HR
  refine HR.mono ?_
  rintro e2 w2 ⟨rfl, B3⟩
  clear HR hI
  go_wp2_with fail
  go_ret
  have S1 := B1'.size
  have S2 := B2.size
  exact ⟨by first | rfl | simp, (B1'.trans (B2.mono (by omega))).trans (B3.mono (by omega))⟩
end Go.Proofs.YtidcdbdlaonoeaaGreat
