import Derived.Test.YtfogknlinmchjaaPar
import Derived.Test.YtfogknlinmchjaaPap
namespace Go.Proofs.Ytfogknlinmchjaa
open Go.RowKit
set_option linter.unusedVariables false

/-! The law's helpers of layer 14: lend, kept, index, awake. -/
def lentB14 (zs : List Int) : List Int := zs ++ [71, 72, 73]
theorem lentB14_len (zs : List Int) : (lentB14 zs).length = zs.length + 3 := by simp [lentB14]
theorem lentB14_bd {zs : List Int} (h : ∀ z ∈ zs, 0 ≤ z ∧ z ≤ 255) : ∀ z ∈ lentB14 zs, 0 ≤ z ∧ z ≤ 255 := by
  intro z hz
  unfold lentB14 at hz
  rw [List.mem_append] at hz
  rcases hz with hz | hz
  · exact h z hz
  · simp at hz; omega
theorem lentB14_take (zs : List Int) : (lentB14 zs).take zs.length = zs := by simp [lentB14]
def LenQ14 (w : World) (zs : List Int) (n : Nat) (e : Ending) (w' : World) : Prop := ∃ g c, e = .returned (.slice (some ⟨g, 0, none⟩) (n + 3) c) ∧ Seg w' (some ⟨g, 0, none⟩) (lentB14 zs) ∧ n + 3 ≤ c ∧ Below w.heap.size w w'
set_option maxRecDepth 100000 in
set_option maxHeartbeats 1000000 in
theorem lend14 (a : Option Addr) (zs : List Int) (n cap : Nat) (w : World) (hs : Seg w a zs) (hn : Hid (zs.length = n)) (hnil : a = none → cap = 0) (hl : n ≤ 140737488351232) :
    Calls Try.prog 10 #[.slice a n cap] w (LenQ14 w zs n) := by
  obtain ⟨i0, hi, hz0, hz1, hz2⟩ := info_parts info_y13
  have e0 := hn.out
  subst e0
  clear hn
  have HV : Hid (∀ z ∈ zs, 0 ≤ z ∧ z ≤ 255) := hs.mem
  have sg3 : ∀ w1 : World, Seg (w1.alloc (.cells #[.int .u8 71, .int .u8 72, .int .u8 73] 5)) (some ⟨w1.heap.size, 0, none⟩) [71, 72, 73] := fun w1 => seg_lit13 w1 [71, 72, 73] 5 (0, 0) (by decide)
  have HS3 : Hid (∀ w1 : World, Seg (w1.alloc (.cells #[.int .u8 71, .int .u8 72, .int .u8 73] 5)) (some ⟨w1.heap.size, 0, none⟩) [71, 72, 73]) := sg3
  clear sg3
  go_enter Try.func10, Try.ntmps10
  go_wp2_with (first
    | (at_builtin; refine wpList_appS rfl (.const (.slice none 0 0)) (.tmp 3) 22 rfl w.heap.size 5 i0 (.int .u8 0) 1 Try.underlying22 hi hz0 hz1 hz2 rfl (World.ownsRow_nil _ _ _ _) hs hnil rfl rfl (by omega) (by omega) (Nat.le_refl _) ?_; intro a1 c1 w1 hown1 hg1 hf1 hn1; have hb1 := below_own (World.ownsRow_nil w w.heap.size 5 1) hg1 (Nat.le_refl _); clear hf1 hn1 hg1; rw [Nat.zero_add, List.nil_append] at hown1)
    | (at_builtin; refine wpList_appS rfl (.tmp 4) (.tmp 5) 22 rfl w.heap.size 5 i0 (.int .u8 0) 1 Try.underlying22 hi hz0 hz1 hz2 rfl (hown1.alloc _) (HS3.out w1) (by intro h; cases h) rfl rfl (by simp; omega) (by simp; omega) (by have := hb1.size; simp; omega) ?_; intro a2 c2 w2 hown2 hg2 hf2 hn2))
  go_ret
  clear hf2 hn2
  have hb0 := hb1.trans ((Below.refl w.heap.size w1).alloc hb1.size (.cells #[.int .u8 71, .int .u8 72, .int .u8 73] 5))
  have hb2 := hb0.trans (below_own (hown1.alloc _) hg2 (by have := hb0.size; simpa using this))
  have ev : zs.map (Value.int .u8) ++ ([71, 72, 73] : List Int).map (Value.int .u8) = (lentB14 zs).map (Value.int .u8) := by simp [lentB14]
  have el : zs.length + ([71, 72, 73] : List Int).length = zs.length + 3 := by simp
  rw [el, ev] at hown2
  obtain ⟨g, cap', hv, hc2, hg, hgs⟩ := own_shape hown2 (by omega)
  rw [hv] at hown2
  refine ⟨g, cap', ?_, own_seg13 hown2 (lentB14_bd HV.out), hc2, hb2⟩
  rw [← hv]
  rfl
set_option maxRecDepth 100000 in
set_option maxHeartbeats 2000000 in
theorem kept14 (b a : Option Addr) (zs : List Int) (n cb cap : Nat) (w : World) (hx : Seg w b (lentB14 zs)) (hs : Seg w a zs) (hn : Hid (zs.length = n)) (hnil : a = none → cap = 0) (hl : n ≤ 140737488351232) :
    Calls Try.prog 14 #[.slice b (n + 3) cb, .slice a n cap] w fun e w' => e = .returned (.bool true) ∧ Below w.heap.size w w' := by
  have HL : Hid (∀ W, Below w.heap.size w W → Calls Try.prog 10 #[.slice a n cap] W (LenQ14 W zs n)) := fun W hb => lend14 a zs n cap W (hs.old hb) hn hnil hl
  have HLN : Hid ((lentB14 zs).length = n + 3) := by show _ = _; rw [lentB14_len, hn.out]
  have HCV : Hid (∀ W a2 c2, Seg W a2 (lentB14 zs) → (convert 22 9 (.slice a2 (n + 3) c2)).run Try.prog W = .ok (.string (strOfNums (lentB14 zs))) W) := fun W a2 c2 h => by
    have h8 := run_conv_segS (P := Try.prog) c2 h 22 5 9 Try.underlying22 Try.underlying5 Try.underlying9
    rw [HLN.out] at h8
    exact h8
  have BD : Below w.heap.size w w.drew := (Below.refl _ _).drew
  have y1 := HCV.out w.drew b cb (hx.old BD)
  have HX : Hid (∀ W, Below w.heap.size w W → Seg W b (lentB14 zs)) := fun W hb => hx.old hb
  clear hs hx HLN
  generalize strOfNums (lentB14 zs) = st at *
  go_enter Try.func14, Try.ntmps14
  go_wp2_with fail
  go_region_with (first
    | (go_at_call 10; refine (HL.out _ BD).mono ?_; rintro e1 w1 ⟨g, c, rfl, s1, -, B1⟩; have B2 := BD.trans (B1.mono BD.size); have y2 := HCV.out w1 b cb (HX.out w1 B2); have y3 := HCV.out w1 _ c s1; clear s1 B1))
  all_goals
    go_wp2_with fail
    go_ret
    exact ⟨by first | rfl | simp, B2⟩
set_option maxRecDepth 100000 in
set_option maxHeartbeats 1000000 in
theorem pidx14 (a : Option Addr) (z : List Int) (n cap : Nat) (w : World) (hs : Seg w a z) (hnil : a = none → cap = 0) (hn : Hid (z.length = n)) (hb : n ≤ 16777216) :
    Calls Try.prog 8 #[.slice a n cap] w fun e w' => ∃ b A, e = .returned (.tuple #[.pointer (some ⟨b, 0, none⟩), .bool true]) ∧ IX14 w' b n z A ∧ Below w.heap.size w w' := by
  have HN := pnew13 a z n cap w hs hnil hn hb
  have h24 : ¬ (16777216 : Int) < (n : Int) := by omega
  clear hs
  go_enter Try.func8, Try.ntmps8
  go_wp2_with (first
    | (go_at_call 21; refine HN.mono ?_; rintro e1 w1 ⟨b, da, dc, aa, ac, gb, gr, A, rfl, hI, B1, -⟩; clear HN))
  refine bodyPost_ret (results_tmp2 rfl _ _ _) rfl ?_
  exact ⟨b, A, rfl, ⟨da, dc, aa, ac, gb, gr, hI⟩, B1⟩
set_option maxRecDepth 100000 in
set_option maxHeartbeats 1000000 in
theorem pidxn14 (a : Option Addr) (n cap : Nat) (w : World) (hb : 16777216 < n) (hb2 : n ≤ 9223372036854775807) :
    Calls Try.prog 8 #[.slice a n cap] w fun e w' => e = .returned (.tuple #[.pointer none, .bool true]) ∧ w' = w := by
  have HN := pnewn13 a n cap w hb hb2
  have h24 : (16777216 : Int) < (n : Int) := by omega
  go_enter Try.func8, Try.ntmps8
  go_wp2_with (first
    | (go_at_call 21; refine HN.mono ?_; rintro e1 w1 ⟨rfl, hw1⟩; subst hw1; clear HN))
  refine bodyPost_ret (results_tmp2 rfl _ _ _) rfl ?_
  exact ⟨rfl, rfl⟩
open Classical in
theorem cn12_chk14 {P : Nat → Prop} (f : Nat → Bool) (h : ∀ i, P i ↔ f i = true) : ∀ n, cn12 P n = ((List.range n).filter f).length
  | 0 => rfl
  | n + 1 => by
    rw [List.range_succ, List.filter_append, List.length_append, ← cn12_chk14 f h n]
    show cn12 P n + _ = _
    by_cases c : P n
    · rw [if_pos c, List.filter_cons, if_pos ((h n).1 c)]; rfl
    · rw [if_neg c, List.filter_cons, if_neg (fun k => c ((h n).2 k))]; rfl
theorem lo14_chk (z p : List Int) : lo14 z p = ((List.range z.length).filter fun j => decide (cq14 (z.drop j) p < 0)).length :=
  cn12_chk14 _ (fun i => by rw [cq14_is, decide_eq_true_eq]) _
theorem hi14_chk (z p : List Int) : hi14 z p = ((List.range z.length).filter fun j => decide (cq14 (z.drop j) p ≤ 0)).length :=
  cn12_chk14 _ (fun i => by rw [cq14_is, decide_eq_true_eq]) _
set_option maxRecDepth 100000 in
set_option maxHeartbeats 1000000 in
theorem pawk14 (w : World) : Calls Try.prog 9 #[] w fun e w' => e = .returned (.bool true) ∧ Below w.heap.size w w' := by
  have B0 : Below w.heap.size w (w.alloc (.cells #[.int .u8 98, .int .u8 97, .int .u8 110, .int .u8 97, .int .u8 110, .int .u8 97] 5 (6, 7))) := (Below.refl _ _).alloc (Nat.le_refl _) _
  have hcv : (convert 22 22 (.slice (some ⟨w.heap.size, 0, none⟩) 6 6)).run Try.prog (w.alloc (.cells #[.int .u8 98, .int .u8 97, .int .u8 110, .int .u8 97, .int .u8 110, .int .u8 97] 5)) = .ok (.slice (some ⟨w.heap.size, 0, none⟩) 6 6) (w.alloc (.cells #[.int .u8 98, .int .u8 97, .int .u8 110, .int .u8 97, .int .u8 110, .int .u8 97] 5 (6, 7))) := Lib.run_convert_bytes_const (P := Try.prog) w 22 5 #[.int .u8 98, .int .u8 97, .int .u8 110, .int .u8 97, .int .u8 110, .int .u8 97] 6 6 Try.underlying22 Try.underlying5
  have HN := pnew13 (some ⟨w.heap.size, 0, none⟩) [98, 97, 110, 97, 110, 97] 6 6 _ (seg_lit13 w [98, 97, 110, 97, 110, 97] 5 (6, 7) (by decide)) (by intro h; cases h) rfl (by omega)
  have HLO : Hid (lo14 [98, 97, 110, 97, 110, 97] [97, 110] = 1) := by show _ = _; rw [lo14_chk]; rfl
  have HHI : Hid (hi14 [98, 97, 110, 97, 110, 97] [97, 110] = 3) := by show _ = _; rw [hi14_chk]; rfl
  have HC2 : Hid (∀ w1 : World, (convert 22 22 (.slice (some ⟨w1.heap.size, 0, none⟩) 2 2)).run Try.prog (w1.alloc (.cells #[.int .u8 97, .int .u8 110] 5)) = .ok (.slice (some ⟨w1.heap.size, 0, none⟩) 2 2) (w1.alloc (.cells #[.int .u8 97, .int .u8 110] 5 (2, 3)))) := fun w1 => Lib.run_convert_bytes_const (P := Try.prog) w1 22 5 #[.int .u8 97, .int .u8 110] 2 2 Try.underlying22 Try.underlying5
  go_enter Try.func9, Try.ntmps9
  go_wp2_with (first
    | (go_at_call 21; refine HN.mono ?_; rintro e1 w1 ⟨b, da, dc, aa, ac, gb, gr, A, rfl, hI, B1, -⟩; clear HN hcv; have hc2 := HC2.out w1)
    | (go_at_call 15; fail))
  have B1' := B0.trans (B1.mono B0.size)
  have B2 : Below w1.heap.size w1 (w1.alloc (.cells #[.int .u8 97, .int .u8 110] 5 (2, 3))) := (Below.refl _ _).alloc (Nat.le_refl _) _
  have HR := prange14 b 6 [98, 97, 110, 97, 110, 97] A (some ⟨w1.heap.size, 0, none⟩) [97, 110] 2 2 _ ⟨da, dc, aa, ac, gb, gr, hI.old B2⟩ (seg_lit13 w1 [97, 110] 5 (2, 3) (by decide)) rfl (by omega)
  rw [HLO.out, HHI.out] at HR
  refine HR.mono ?_
  rintro e2 w2 ⟨rfl, B3⟩
  clear HR hI
  go_wp2_with fail
  go_ret
  have S1 := B1'.size
  have S2 := B2.size
  exact ⟨by first | rfl | simp, (B1'.trans (B2.mono (by omega))).trans (B3.mono (by omega))⟩
end Go.Proofs.Ytfogknlinmchjaa

namespace Go.Proofs.Ytfogknlinmchjaa
open Go.RowKit
set_option linter.unusedVariables false

/-! The document's Stands, less, Range, common, Longest (layer 14). -/
theorem drop_get14 (z : List Int) (i m : Nat) : (z.drop i).getD m 0 = z.getD (i + m) 0 := by simp [List.getD]
theorem cv_at14 {z p : List Int} {n m at_ i : Nat} (hn : z.length = n) (hm : p.length = m) (hat : at_ ≤ n) (hi : i ≤ lc13 (z.drop at_) p) (him : i < m) :
    (¬ at_ + i < n → cv13 (z.drop at_) p < 0) ∧ (at_ + i < n → z.getD (at_ + i) 0 = p.getD i 0 → i + 1 ≤ lc13 (z.drop at_) p) ∧ (at_ + i < n → ¬ z.getD (at_ + i) 0 = p.getD i 0 → (cv13 (z.drop at_) p < 0 ↔ z.getD (at_ + i) 0 < p.getD i 0) ∧ ¬ cv13 (z.drop at_) p = 0) := by
  have hdl : (z.drop at_).length = n - at_ := by rw [List.length_drop, hn]
  refine ⟨fun h => ?_, fun h e => ?_, fun h e => ?_⟩
  · have h1 := lc13_le (z.drop at_) p
    have h2 : lc13 (z.drop at_) p = (z.drop at_).length := by omega
    exact cv13_neg_iff.2 ((ll_iff13 _ _ (by omega)).2 (Or.inl h2))
  · exact lc13_more hi (by omega) (by omega) (by rw [drop_get14]; exact e)
  · have h1 : lc13 (z.drop at_) p = i := lc13_stop hi (by rw [drop_get14]; exact e)
    have h2 : ¬ lc13 (z.drop at_) p = p.length := by omega
    refine ⟨?_, fun k => h2 (cv13_zero_iff.1 k)⟩
    rw [cv13_neg_iff, ll_iff13 _ _ h2, h1, drop_get14]
    constructor
    · rintro (c | c)
      · omega
      · exact c
    · exact fun c => Or.inr c
/-- The ranks, of which so many places are counted. -/
noncomputable def loK14 (z p : List Int) (k : Nat) : Nat := cn12 (fun j => cv13 (z.drop j) p < 0) k
noncomputable def hiK14 (z p : List Int) (k : Nat) : Nat := cn12 (fun j => cv13 (z.drop j) p ≤ 0) k
theorem loK14_yes {z p : List Int} {k : Nat} (h : cv13 (z.drop k) p < 0) : loK14 z p (k + 1) = loK14 z p k + 1 := by
  unfold loK14
  show cn12 _ k + _ = _
  rw [if_pos h]
theorem loK14_no {z p : List Int} {k : Nat} (h : ¬ cv13 (z.drop k) p < 0) : loK14 z p (k + 1) = loK14 z p k := by
  unfold loK14
  show cn12 _ k + _ = _
  rw [if_neg h]
  rfl
theorem hiK14_yes {z p : List Int} {k : Nat} (h : cv13 (z.drop k) p ≤ 0) : hiK14 z p (k + 1) = hiK14 z p k + 1 := by
  unfold hiK14
  show cn12 _ k + _ = _
  rw [if_pos h]
theorem hiK14_no {z p : List Int} {k : Nat} (h : ¬ cv13 (z.drop k) p ≤ 0) : hiK14 z p (k + 1) = hiK14 z p k := by
  unfold hiK14
  show cn12 _ k + _ = _
  rw [if_neg h]
  rfl
theorem below_drewN14 (w : World) (d : Nat) : Below w.heap.size w (w.drewN d) := ⟨rfl, rfl, rfl, Nat.le_refl _, fun _ _ => rfl⟩
theorem drewN14 (w : World) (a b : Nat) : (w.drewN a).drewN b = w.drewN (a + b) := by simp [World.drewN, Nat.add_assoc]
end Go.Proofs.Ytfogknlinmchjaa

namespace Go.Proofs.Ytfogknlinmchjaa
open Go.RowKit
set_option linter.unusedVariables false

/-! The law's helpers of layer 14 in a form for every world that grew from here. -/
/-- A text that is lent. -/
structure Lt14 (w : World) (g c n : Nat) (p : List Int) : Prop where
  seg : Seg w (some ⟨g, 0, none⟩) (lentB14 p)
  cap : n + 3 ≤ c
  len : p.length = n
theorem Lt14.old {w w' : World} {g c n : Nat} {p : List Int} (h : Lt14 w g c n p) (hb : Below w.heap.size w w') : Lt14 w' g c n p := ⟨h.seg.old hb, h.cap, h.len⟩
theorem Lt14.txt {w : World} {g c n : Nat} {p : List Int} (h : Lt14 w g c n p) : Seg w (some ⟨g, 0, none⟩) p := by
  have := h.seg.take p.length
  rwa [lentB14_take] at this
theorem lendW14 {w : World} {a : Option Addr} {p : List Int} {n cap : Nat} (hs : Seg w a p) (hn : Hid (p.length = n)) (hnil : a = none → cap = 0) (hl : n ≤ 140737488351232) {W : World} (hb : Below w.heap.size w W) :
    Calls Try.prog 10 #[.slice a n cap] W fun e w' => ∃ g c, e = .returned (.slice (some ⟨g, 0, none⟩) (n + 3) c) ∧ Lt14 w' g c n p ∧ Below w.heap.size w w' ∧ Below W.heap.size W w' :=
  (lend14 a p n cap W (hs.old hb) hn hnil hl).mono fun e w' ⟨g, c, he, hseg, hc, hB⟩ => ⟨g, c, he, ⟨hseg, hc, hn.out⟩, hb.trans (hB.mono hb.size), hB⟩
theorem keptW14 {w : World} {a : Option Addr} {p : List Int} {n cap : Nat} (hs : Seg w a p) (hn : Hid (p.length = n)) (hnil : a = none → cap = 0) (hl : n ≤ 140737488351232) {W : World} (hb : Below w.heap.size w W) {g c : Nat} (hL : Lt14 W g c n p) :
    Calls Try.prog 14 #[.slice (some ⟨g, 0, none⟩) (n + 3) c, .slice a n cap] W fun e w' => e = .returned (.bool true) ∧ Below w.heap.size w w' ∧ Below W.heap.size W w' :=
  (kept14 (some ⟨g, 0, none⟩) a p n c cap W hL.seg (hs.old hb) hn hnil hl).mono fun e w' ⟨he, hB⟩ => ⟨he, hb.trans (hB.mono hb.size), hB⟩
theorem awkW14 {w W : World} (hb : Below w.heap.size w W) : Calls Try.prog 9 #[] W fun e w' => e = .returned (.bool true) ∧ Below w.heap.size w w' :=
  (pawk14 W).mono fun e w' ⟨he, hB⟩ => ⟨he, hb.trans (hB.mono hb.size)⟩
end Go.Proofs.Ytfogknlinmchjaa

namespace Go.Proofs.Ytfogknlinmchjaa
set_option linter.unusedVariables false

/-! Kth, pure: the unlike texts in their order. -/
/-- How many texts a rank's suffix has that no rank ahead has; the sum of all ahead. -/
def fr13 (z : List Int) (A : List Nat) (r : Nat) : Nat := z.length - A.getD r 0 - lv13 z A r
def ks13 (z : List Int) (A : List Nat) : Nat → Nat
  | 0 => 0
  | r + 1 => ks13 z A r + fr13 z A r
/-- The k-th text stands at this rank. -/
structure Kr13 (z : List Int) (A : List Nat) (k r : Nat) : Prop where
  lt : r < z.length
  lo : ks13 z A r ≤ k
  hi : k < ks13 z A r + fr13 z A r
def kt13 (z : List Int) (A : List Nat) (k r : Nat) : List Int := (z.drop (A.getD r 0)).take (lv13 z A r + (k - ks13 z A r) + 1)
theorem kt13_len {z : List Int} {A : List Nat} {S : Nat → Int} {k r : Nat} (hA : Ar12 z.length S A) (h : Kr13 z A k r) : (kt13 z A k r).length = lv13 z A r + (k - ks13 z A r) + 1 := by
  unfold kt13
  rw [List.length_take, List.length_drop]
  have h1 := h.hi
  have h2 := h.lo
  unfold fr13 at h1
  omega
theorem ll_take13 {X Y : List Int} (h : LL12 X Y) : LL12 X (Y.take (lc13 Y X + 1)) := by
  induction h with
  | nil => rw [lc13_nil']; exact .nil
  | lt c =>
    unfold lc13
    rw [if_neg (by omega)]
    exact .lt c
  | eq _ ih =>
    unfold lc13
    rw [if_pos rfl, List.take_succ_cons]
    exact .eq ih
theorem ll_len13 {X Y : List Int} (h : LL12 X Y) : lc13 Y X < Y.length := by
  induction h with
  | nil => rw [lc13_nil']; simp
  | lt c =>
    unfold lc13
    rw [if_neg (by omega)]
    simp
  | eq _ ih =>
    unfold lc13
    rw [if_pos rfl, List.length_cons]
    omega
theorem take_ll13 : ∀ (l : List Int) (m : Nat), m < l.length → LL12 (l.take m) (l.take (m + 1))
  | [], _, h => by simp at h
  | x :: l, 0, _ => .nil
  | x :: l, m + 1, h => by
    rw [List.take_succ_cons, List.take_succ_cons]
    exact .eq (take_ll13 l m (by simpa using h))
theorem lv13_lt {z : List Int} {A : List Nat} (hA : Ar12 z.length (S12 z) A) {r : Nat} (hr : r < z.length) : lv13 z A r < z.length - A.getD r 0 := by
  have h1 := hA.get hr
  unfold lv13
  split
  · omega
  · have h2 := ll_len13 (ls_ll13 (hA.pair (r := r - 1) (q := r) (by omega) hr))
    rw [List.length_drop] at h2
    exact h2
theorem fr13_pos {z : List Int} {A : List Nat} (hA : Ar12 z.length (S12 z) A) {r : Nat} (hr : r < z.length) : 1 ≤ fr13 z A r := by
  have := lv13_lt hA hr
  unfold fr13
  omega
theorem ks13_mono (z : List Int) (A : List Nat) {r q : Nat} (h : r ≤ q) : ks13 z A r ≤ ks13 z A q := by
  induction q with
  | zero => have : r = 0 := by omega
            subst this; exact Nat.le_refl _
  | succ q ih =>
    by_cases c : r = q + 1
    · subst c; exact Nat.le_refl _
    · have := ih (by omega)
      show _ ≤ ks13 z A q + fr13 z A q
      omega
theorem Kr13.unique {z : List Int} {A : List Nat} {k r q : Nat} (h : Kr13 z A k r) (h' : Kr13 z A k q) : r = q := by
  rcases Nat.lt_trichotomy r q with c | c | c
  · have h1 := ks13_mono z A (r := r + 1) (q := q) c
    have h2 : ks13 z A (r + 1) = ks13 z A r + fr13 z A r := rfl
    have := h.hi
    have := h'.lo
    omega
  · exact c
  · have h1 := ks13_mono z A (r := q + 1) (q := r) c
    have h2 : ks13 z A (q + 1) = ks13 z A q + fr13 z A q := rfl
    have := h'.hi
    have := h.lo
    omega
/-- The texts rise. -/
theorem kt13_rise {z : List Int} {A : List Nat} (hA : Ar12 z.length (S12 z) A) {k r q : Nat} (h : Kr13 z A k r) (h' : Kr13 z A (k + 1) q) : LL12 (kt13 z A k r) (kt13 z A (k + 1) q) := by
  have hlo := h.lo
  have hhi := h.hi
  by_cases c : k + 1 < ks13 z A r + fr13 z A r
  · obtain rfl := h'.unique (⟨h.lt, by omega, c⟩ : Kr13 z A (k + 1) r)
    unfold kt13
    rw [show lv13 z A q + (k + 1 - ks13 z A q) + 1 = lv13 z A q + (k - ks13 z A q) + 1 + 1 by omega]
    refine take_ll13 _ _ ?_
    rw [List.length_drop]
    unfold fr13 at c
    omega
  · have hk : k + 1 = ks13 z A (r + 1) := by show _ = ks13 z A r + fr13 z A r; omega
    have hq : r < q := by
      rcases Nat.lt_or_ge r q with d | d
      · exact d
      · have h1 := ks13_mono z A (r := q + 1) (q := r + 1) (by omega)
        have h2 : ks13 z A (q + 1) = ks13 z A q + fr13 z A q := rfl
        have := h'.hi
        omega
    have hq2 : q = r + 1 := by
      rcases Nat.lt_or_ge (r + 1) q with d | d
      · have h1 := ks13_mono z A (r := r + 1 + 1) (q := q) d
        have h2 : ks13 z A (r + 1 + 1) = ks13 z A (r + 1) + fr13 z A (r + 1) := rfl
        have h3 := fr13_pos hA (r := r + 1) (by have := h'.lt; omega)
        have := h'.lo
        omega
      · omega
    subst hq2
    have e1 : kt13 z A k r = z.drop (A.getD r 0) := by
      unfold kt13
      rw [List.take_of_length_le]
      rw [List.length_drop]
      unfold fr13 at hhi c
      omega
    have e2 : kt13 z A (k + 1) (r + 1) = (z.drop (A.getD (r + 1) 0)).take (lc13 (z.drop (A.getD (r + 1) 0)) (z.drop (A.getD r 0)) + 1) := by
      unfold kt13
      have : lv13 z A (r + 1) = lc13 (z.drop (A.getD (r + 1) 0)) (z.drop (A.getD r 0)) := by unfold lv13; rw [if_neg (by omega)]; rfl
      rw [this, hk]
      rw [show ks13 z A (r + 1) - ks13 z A (r + 1) = 0 by omega, Nat.add_zero]
    rw [e1, e2]
    exact ll_take13 (ls_ll13 (hA.pair (r := r) (q := r + 1) (by omega) h'.lt))
/-! Sums. -/
def sm13 (g : Nat → Nat) : Nat → Nat
  | 0 => 0
  | n + 1 => sm13 g n + g n
theorem sm13_congr {f g : Nat → Nat} : ∀ {n : Nat}, (∀ i, i < n → f i = g i) → sm13 f n = sm13 g n
  | 0, _ => rfl
  | n + 1, h => by
    show sm13 f n + f n = sm13 g n + g n
    rw [sm13_congr (fun i hi => h i (by omega)), h n (by omega)]
theorem sm13_zero : ∀ n, sm13 (fun _ => 0) n = 0
  | 0 => rfl
  | n + 1 => sm13_zero n
theorem sm13_upd {f g : Nat → Nat} {j : Nat} : ∀ {n : Nat}, j < n → (∀ i, i < n → i ≠ j → f i = g i) → sm13 f n + g j = sm13 g n + f j
  | n + 1, hj, h => by
    show sm13 f n + f n + g j = sm13 g n + g n + f j
    by_cases c : j = n
    · subst c
      have := sm13_congr (f := f) (g := g) (n := j) (fun i hi => h i (by omega) (by omega))
      omega
    · have := sm13_upd (f := f) (g := g) (j := j) (n := n) (by omega) (fun i hi hne => h i (by omega) hne)
      have := h n (by omega) (fun e => c e.symm)
      omega
open Classical in
theorem sm13_moved {f : Nat → Nat} {n : Nat} (hf : ∀ k, k < n → f k < n) (hi : ∀ i j, i < n → j < n → f i = f j → i = j) (g : Nat → Nat) : ∀ m, m ≤ n → sm13 (fun i => g (f i)) m = sm13 (fun y => if ∃ k, k < m ∧ f k = y then g y else 0) n
  | 0, _ => by
    exact (sm13_zero n).symm.trans (sm13_congr fun y _ => (if_neg (by rintro ⟨k, hk, _⟩; omega)).symm)
  | m + 1, hm => by
    have ih := sm13_moved hf hi g m (by omega)
    show sm13 (fun i => g (f i)) m + g (f m) = _
    rw [ih]
    have h1 := sm13_upd (f := fun y => if ∃ k, k < m + 1 ∧ f k = y then g y else 0) (g := fun y => if ∃ k, k < m ∧ f k = y then g y else 0) (j := f m) (n := n) (hf m (by omega)) (fun y _ hne => by
      have : (∃ k, k < m + 1 ∧ f k = y) ↔ (∃ k, k < m ∧ f k = y) := by
        constructor
        · rintro ⟨k, hk, he⟩
          by_cases c : k = m
          · subst c; exact absurd he.symm hne
          · exact ⟨k, by omega, he⟩
        · rintro ⟨k, hk, he⟩
          exact ⟨k, by omega, he⟩
      show (if ∃ k, k < m + 1 ∧ f k = y then g y else 0) = (if ∃ k, k < m ∧ f k = y then g y else 0)
      simp only [this])
    have e1 : (if ∃ k, k < m + 1 ∧ f k = f m then g (f m) else 0) = g (f m) := if_pos ⟨m, by omega, rfl⟩
    have e2 : (if ∃ k, k < m ∧ f k = f m then g (f m) else 0) = 0 := if_neg (by rintro ⟨k, hk, he⟩; have := hi k m (by omega) (by omega) he; omega)
    have h1' : sm13 (fun y => if ∃ k, k < m + 1 ∧ f k = y then g y else 0) n + (if ∃ k, k < m ∧ f k = f m then g (f m) else 0) = sm13 (fun y => if ∃ k, k < m ∧ f k = y then g y else 0) n + (if ∃ k, k < m + 1 ∧ f k = f m then g (f m) else 0) := h1
    rw [e1, e2] at h1'
    omega
theorem sm13_move {f : Nat → Nat} {n : Nat} (hf : ∀ k, k < n → f k < n) (hi : ∀ i j, i < n → j < n → f i = f j → i = j) (g : Nat → Nat) : sm13 (fun i => g (f i)) n = sm13 g n := by
  rw [sm13_moved hf hi g n (Nat.le_refl _)]
  exact sm13_congr fun y hy => if_pos (onto13 hf hi hy)
theorem sm13_id : ∀ n, 2 * sm13 (fun i => i) n + n = n * n
  | 0 => rfl
  | n + 1 => by
    have := sm13_id n
    show 2 * (sm13 (fun i => i) n + n) + (n + 1) = (n + 1) * (n + 1)
    have e : (n + 1) * (n + 1) = n * n + n + n + 1 := by rw [Nat.mul_add, Nat.mul_one, Nat.add_mul, Nat.one_mul]; omega
    rw [e]
    omega
theorem ks13_sum {z : List Int} {A : List Nat} (hA : Ar12 z.length (S12 z) A) : ∀ r, r ≤ z.length → ks13 z A r + sm13 (lv13 z A) r + sm13 (fun q => A.getD q 0) r = r * z.length
  | 0, _ => by simp [ks13, sm13]
  | r + 1, hr => by
    have ih := ks13_sum hA r (by omega)
    have h1 := lv13_lt hA (r := r) (by omega)
    have h2 := hA.get (r := r) (by omega)
    show ks13 z A r + fr13 z A r + (sm13 (lv13 z A) r + lv13 z A r) + (sm13 (fun q => A.getD q 0) r + A.getD r 0) = (r + 1) * z.length
    rw [Nat.add_mul, Nat.one_mul, ← ih]
    unfold fr13
    omega
/-- How many unlike texts there are. -/
theorem ks13_all {z : List Int} {A : List Nat} (hA : Ar12 z.length (S12 z) A) : 2 * (ks13 z A z.length + sm13 (lv13 z A) z.length) = z.length * (z.length + 1) := by
  have h1 := ks13_sum hA z.length (Nat.le_refl _)
  have h2 := sm13_move (f := fun q => A.getD q 0) (n := z.length) (fun k hk => hA.get hk) (fun i j hi hj e => by
    have a1 := hA.rk_at hi
    have a2 := hA.rk_at hj
    have e' : A.getD i 0 = A.getD j 0 := e
    rw [e', a2] at a1
    exact a1.symm) (fun i => i)
  have h3 := sm13_id z.length
  have h2' : sm13 (fun q => A.getD q 0) z.length = sm13 (fun i => i) z.length := h2
  have e : z.length * (z.length + 1) = z.length * z.length + z.length := by rw [Nat.mul_add, Nat.mul_one]
  rw [e]
  omega
end Go.Proofs.Ytfogknlinmchjaa
