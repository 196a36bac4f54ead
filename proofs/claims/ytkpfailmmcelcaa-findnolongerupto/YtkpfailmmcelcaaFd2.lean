
import Derived.Test.YtkpfailmmcelcaaFd1
import Derived.Test.YtkpfailmmcelcaaSuL1
namespace Go.Proofs.Ytkpfailmmcelcaa
open Go.RowKit
set_option linter.unusedVariables false

/-! The law's helpers of layer 14: lend, kept, index, awake. -/
def lentB14 (zs : List Int) : List Int := zs ++ [71, 72, 73]
theorem lentB14_len (zs : List Int) : (lentB14 zs).length = zs.length + 3 := by simp [lentB14]
theorem lentB14_bd {zs : List Int} (h : ∀ z ∈ zs, 0 ≤ z ∧ z ≤ 255) : ∀ z ∈ lentB14 zs, 0 ≤ z ∧ z ≤ 255 := by
  intro z hz
  unfold lentB14 at hz
  rw [List.mem_append] at hz
  rcases hz with hz | hz
  · exact h z hz
  · simp at hz; omega
theorem lentB14_take (zs : List Int) : (lentB14 zs).take zs.length = zs := by simp [lentB14]
def LenQ14 (w : World) (zs : List Int) (n : Nat) (e : Ending) (w' : World) : Prop := ∃ g c, e = .returned (.slice (some ⟨g, 0, none⟩) (n + 3) c) ∧ Seg w' (some ⟨g, 0, none⟩) (lentB14 zs) ∧ n + 3 ≤ c ∧ Below w.heap.size w w'
set_option maxRecDepth 100000 in
set_option maxHeartbeats 1000000 in
theorem lend14 (a : Option Addr) (zs : List Int) (n cap : Nat) (w : World) (hs : Seg w a zs) (hn : Hid (zs.length = n)) (hnil : a = none → cap = 0) (hl : n ≤ 140737488351232) :
    Calls Try.prog 7 #[.slice a n cap] w (LenQ14 w zs n) := by
  obtain ⟨i0, hi, hz0, hz1, hz2⟩ := info_parts info_y13
  have e0 := hn.out
  subst e0
  clear hn
  have HV : Hid (∀ z ∈ zs, 0 ≤ z ∧ z ≤ 255) := hs.mem
  have sg3 : ∀ w1 : World, Seg (w1.alloc (.cells #[.int .u8 71, .int .u8 72, .int .u8 73] 5)) (some ⟨w1.heap.size, 0, none⟩) [71, 72, 73] := fun w1 => seg_lit13 w1 [71, 72, 73] 5 (0, 0) (by decide)
  have HS3 : Hid (∀ w1 : World, Seg (w1.alloc (.cells #[.int .u8 71, .int .u8 72, .int .u8 73] 5)) (some ⟨w1.heap.size, 0, none⟩) [71, 72, 73]) := sg3
  clear sg3
  go_enter Try.func7, Try.ntmps7
  go_wp2_with (first
    | (at_builtin; refine wpList_appS rfl (.const (.slice none 0 0)) (.tmp 3) 22 rfl w.heap.size 5 i0 (.int .u8 0) 1 Try.underlying22 hi hz0 hz1 hz2 rfl (World.ownsRow_nil _ _ _ _) hs hnil rfl rfl (by omega) (by omega) (Nat.le_refl _) ?_; intro a1 c1 w1 hown1 hg1 hf1 hn1; have hb1 := below_own (World.ownsRow_nil w w.heap.size 5 1) hg1 (Nat.le_refl _); clear hf1 hn1 hg1; rw [Nat.zero_add, List.nil_append] at hown1)
    | (at_builtin; refine wpList_appS rfl (.tmp 4) (.tmp 5) 22 rfl w.heap.size 5 i0 (.int .u8 0) 1 Try.underlying22 hi hz0 hz1 hz2 rfl (hown1.alloc _) (HS3.out w1) (by intro h; cases h) rfl rfl (by simp; omega) (by simp; omega) (by have := hb1.size; simp; omega) ?_; intro a2 c2 w2 hown2 hg2 hf2 hn2))
  go_ret
  clear hf2 hn2
  have hb0 := hb1.trans ((Below.refl w.heap.size w1).alloc hb1.size (.cells #[.int .u8 71, .int .u8 72, .int .u8 73] 5))
  have hb2 := hb0.trans (below_own (hown1.alloc _) hg2 (by have := hb0.size; simpa using this))
  have ev : zs.map (Value.int .u8) ++ ([71, 72, 73] : List Int).map (Value.int .u8) = (lentB14 zs).map (Value.int .u8) := by simp [lentB14]
  have el : zs.length + ([71, 72, 73] : List Int).length = zs.length + 3 := by simp
  rw [el, ev] at hown2
  obtain ⟨g, cap', hv, hc2, hg, hgs⟩ := own_shape hown2 (by omega)
  rw [hv] at hown2
  refine ⟨g, cap', ?_, own_seg13 hown2 (lentB14_bd HV.out), hc2, hb2⟩
  rw [← hv]
  rfl
set_option maxRecDepth 100000 in
set_option maxHeartbeats 2000000 in
theorem kept14 (b a : Option Addr) (zs : List Int) (n cb cap : Nat) (w : World) (hx : Seg w b (lentB14 zs)) (hs : Seg w a zs) (hn : Hid (zs.length = n)) (hnil : a = none → cap = 0) (hl : n ≤ 140737488351232) :
    Calls Try.prog 11 #[.slice b (n + 3) cb, .slice a n cap] w fun e w' => e = .returned (.bool true) ∧ Below w.heap.size w w' := by
  have HL : Hid (∀ W, Below w.heap.size w W → Calls Try.prog 7 #[.slice a n cap] W (LenQ14 W zs n)) := fun W hb => lend14 a zs n cap W (hs.old hb) hn hnil hl
  have HLN : Hid ((lentB14 zs).length = n + 3) := by show _ = _; rw [lentB14_len, hn.out]
  have HCV : Hid (∀ W a2 c2, Seg W a2 (lentB14 zs) → (convert 22 9 (.slice a2 (n + 3) c2)).run Try.prog W = .ok (.string (strOfNums (lentB14 zs))) W) := fun W a2 c2 h => by
    have h8 := run_conv_segS (P := Try.prog) c2 h 22 5 9 Try.underlying22 Try.underlying5 Try.underlying9
    rw [HLN.out] at h8
    exact h8
  have BD : Below w.heap.size w w.drew := (Below.refl _ _).drew
  have y1 := HCV.out w.drew b cb (hx.old BD)
  have HX : Hid (∀ W, Below w.heap.size w W → Seg W b (lentB14 zs)) := fun W hb => hx.old hb
  clear hs hx HLN
  generalize strOfNums (lentB14 zs) = st at *
  go_enter Try.func11, Try.ntmps11
  go_wp2_with fail
  go_region_with (first
    | (go_at_call 7; refine (HL.out _ BD).mono ?_; rintro e1 w1 ⟨g, c, rfl, s1, -, B1⟩; have B2 := BD.trans (B1.mono BD.size); have y2 := HCV.out w1 b cb (HX.out w1 B2); have y3 := HCV.out w1 _ c s1; clear s1 B1))
  all_goals
    go_wp2_with fail
    go_ret
    exact ⟨by first | rfl | simp, B2⟩
set_option maxRecDepth 100000 in
set_option maxHeartbeats 1000000 in
theorem pidx14 (a : Option Addr) (z : List Int) (n cap : Nat) (w : World) (hs : Seg w a z) (hnil : a = none → cap = 0) (hn : Hid (z.length = n)) (hb : n ≤ 16777216) :
    Calls Try.prog 5 #[.slice a n cap] w fun e w' => ∃ b A, e = .returned (.tuple #[.pointer (some ⟨b, 0, none⟩), .bool true]) ∧ IX14 w' b n z A ∧ Below w.heap.size w w' := by
  have HN := pnew13 a z n cap w hs hnil hn hb
  have h24 : ¬ (16777216 : Int) < (n : Int) := by omega
  clear hs
  go_enter Try.func5, Try.ntmps5
  go_wp2_with (first
    | (go_at_call 13; refine HN.mono ?_; rintro e1 w1 ⟨b, da, dc, aa, ac, gb, gr, A, rfl, hI, B1, -⟩; clear HN))
  refine bodyPost_ret (results_tmp2 rfl _ _ _) rfl ?_
  exact ⟨b, A, rfl, ⟨da, dc, aa, ac, gb, gr, hI⟩, B1⟩
set_option maxRecDepth 100000 in
set_option maxHeartbeats 1000000 in
theorem pidxn14 (a : Option Addr) (n cap : Nat) (w : World) (hb : 16777216 < n) (hb2 : n ≤ 9223372036854775807) :
    Calls Try.prog 5 #[.slice a n cap] w fun e w' => e = .returned (.tuple #[.pointer none, .bool true]) ∧ w' = w := by
  have HN := pnewn13 a n cap w hb hb2
  have h24 : (16777216 : Int) < (n : Int) := by omega
  go_enter Try.func5, Try.ntmps5
  go_wp2_with (first
    | (go_at_call 13; refine HN.mono ?_; rintro e1 w1 ⟨rfl, hw1⟩; subst hw1; clear HN))
  refine bodyPost_ret (results_tmp2 rfl _ _ _) rfl ?_
  exact ⟨rfl, rfl⟩
open Classical in
theorem cn12_chk14 {P : Nat → Prop} (f : Nat → Bool) (h : ∀ i, P i ↔ f i = true) : ∀ n, cn12 P n = ((List.range n).filter f).length
  | 0 => rfl
  | n + 1 => by
    rw [List.range_succ, List.filter_append, List.length_append, ← cn12_chk14 f h n]
    show cn12 P n + _ = _
    by_cases c : P n
    · rw [if_pos c, List.filter_cons, if_pos ((h n).1 c)]; rfl
    · rw [if_neg c, List.filter_cons, if_neg (fun k => c ((h n).2 k))]; rfl
theorem lo14_chk (z p : List Int) : lo14 z p = ((List.range z.length).filter fun j => decide (cq14 (z.drop j) p < 0)).length :=
  cn12_chk14 _ (fun i => by rw [cq14_is, decide_eq_true_eq]) _
theorem hi14_chk (z p : List Int) : hi14 z p = ((List.range z.length).filter fun j => decide (cq14 (z.drop j) p ≤ 0)).length :=
  cn12_chk14 _ (fun i => by rw [cq14_is, decide_eq_true_eq]) _
set_option maxRecDepth 100000 in
set_option maxHeartbeats 1000000 in
theorem pawk14 (w : World) : Calls Try.prog 6 #[] w fun e w' => e = .returned (.bool true) ∧ Below w.heap.size w w' := by
  have B0 : Below w.heap.size w (w.alloc (.cells #[.int .u8 98, .int .u8 97, .int .u8 110, .int .u8 97, .int .u8 110, .int .u8 97] 5 (6, 7))) := (Below.refl _ _).alloc (Nat.le_refl _) _
  have hcv : (convert 22 22 (.slice (some ⟨w.heap.size, 0, none⟩) 6 6)).run Try.prog (w.alloc (.cells #[.int .u8 98, .int .u8 97, .int .u8 110, .int .u8 97, .int .u8 110, .int .u8 97] 5)) = .ok (.slice (some ⟨w.heap.size, 0, none⟩) 6 6) (w.alloc (.cells #[.int .u8 98, .int .u8 97, .int .u8 110, .int .u8 97, .int .u8 110, .int .u8 97] 5 (6, 7))) := Lib.run_convert_bytes_const (P := Try.prog) w 22 5 #[.int .u8 98, .int .u8 97, .int .u8 110, .int .u8 97, .int .u8 110, .int .u8 97] 6 6 Try.underlying22 Try.underlying5
  have HN := pnew13 (some ⟨w.heap.size, 0, none⟩) [98, 97, 110, 97, 110, 97] 6 6 _ (seg_lit13 w [98, 97, 110, 97, 110, 97] 5 (6, 7) (by decide)) (by intro h; cases h) rfl (by omega)
  have HLO : Hid (lo14 [98, 97, 110, 97, 110, 97] [97, 110] = 1) := by show _ = _; rw [lo14_chk]; rfl
  have HHI : Hid (hi14 [98, 97, 110, 97, 110, 97] [97, 110] = 3) := by show _ = _; rw [hi14_chk]; rfl
  have HC2 : Hid (∀ w1 : World, (convert 22 22 (.slice (some ⟨w1.heap.size, 0, none⟩) 2 2)).run Try.prog (w1.alloc (.cells #[.int .u8 97, .int .u8 110] 5)) = .ok (.slice (some ⟨w1.heap.size, 0, none⟩) 2 2) (w1.alloc (.cells #[.int .u8 97, .int .u8 110] 5 (2, 3)))) := fun w1 => Lib.run_convert_bytes_const (P := Try.prog) w1 22 5 #[.int .u8 97, .int .u8 110] 2 2 Try.underlying22 Try.underlying5
  go_enter Try.func6, Try.ntmps6
  go_wp2_with (first
    | (go_at_call 13; refine HN.mono ?_; rintro e1 w1 ⟨b, da, dc, aa, ac, gb, gr, A, rfl, hI, B1, -⟩; clear HN hcv; have hc2 := HC2.out w1)
    | (go_at_call 14; fail))
  have B1' := B0.trans (B1.mono B0.size)
  have B2 : Below w1.heap.size w1 (w1.alloc (.cells #[.int .u8 97, .int .u8 110] 5 (2, 3))) := (Below.refl _ _).alloc (Nat.le_refl _) _
  have HR := prange14 b 6 [98, 97, 110, 97, 110, 97] A (some ⟨w1.heap.size, 0, none⟩) [97, 110] 2 2 _ ⟨da, dc, aa, ac, gb, gr, hI.old B2⟩ (seg_lit13 w1 [97, 110] 5 (2, 3) (by decide)) rfl (by omega)
  rw [HLO.out, HHI.out] at HR
  refine HR.mono ?_
  rintro e2 w2 ⟨rfl, B3⟩
  clear HR hI
  go_wp2_with fail
  go_ret
  have S1 := B1'.size
  have S2 := B2.size
  exact ⟨by first | rfl | simp, (B1'.trans (B2.mono (by omega))).trans (B3.mono (by omega))⟩
end Go.Proofs.Ytkpfailmmcelcaa
