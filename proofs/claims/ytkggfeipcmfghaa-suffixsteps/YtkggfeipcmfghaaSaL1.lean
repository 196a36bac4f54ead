
import Derived.Test.YtkggfeipcmfghaaSa16
namespace Go.Proofs.Ytkggfeipcmfghaa
open Go.RowKit
set_option linter.unusedVariables false

/-! The law's helpers: Same, lend, num, awake. -/
theorem take_all12 {xs ys : List Int} (h : xs.length = ys.length) {k : Nat} (hk : k = xs.length ∨ k = ys.length) (he : xs.take k = ys.take k) : xs = ys := by
  have : k = xs.length := by omega
  rw [List.take_of_length_le (by omega), List.take_of_length_le (by omega)] at he
  exact he

set_option maxRecDepth 100000 in
set_option maxHeartbeats 400000 in
theorem same12 (a b : Option Addr) (xs ys : List Int) (ca cb : Nat) (w : World) (hx : SegZ w a xs) (hy : SegZ w b ys) (hl : xs.length ≤ 9223372036854775807) (hl2 : ys.length ≤ 9223372036854775807) :
    Calls Try.prog 12 #[.slice a xs.length ca, .slice b ys.length cb] w fun e w' => e = .returned (.bool (xs == ys)) ∧ Below w.heap.size w w' := by
  go_enter Try.func12, Try.ntmps12
  go_wp2
  go_loopw [5] (fun ti wr => ∃ k : Nat, k ≤ xs.length ∧ k ≤ ys.length ∧ ti = .int .i64 k ∧ Hid (xs.take k = ys.take k) ∧ Below w.heap.size w wr) (fun ti _ => xs.length - (intOf ti).toNat)
  case atStart => exact ⟨0, Nat.zero_le _, Nat.zero_le _, rfl, (by simp : _ = _), Below.refl _ _⟩
  case round =>
    obtain ⟨k, hk, hk2, rfl, HE, hb⟩ := hrel
    have hx := hx.old hb
    have hy := hy.old hb
    by_cases h1 : k < xs.length
    · have h1i : (k : Int) < (xs.length : Int) := by omega
      by_cases h2 : k < ys.length
      · have h2i : (k : Int) < (ys.length : Int) := by omega
        obtain ⟨b1, o1, rfl, c1⟩ := hx.at_ k h1
        obtain ⟨b2, o2, rfl, c2⟩ := hy.at_ k h2
        have b1 := hx.bd k
        have b2 := hy.bd k
        have HT : Hid (xs.take (k + 1) = xs.take k ++ [xs.getD k 0] ∧ ys.take (k + 1) = ys.take k ++ [ys.getD k 0]) := ⟨take_snocZ h1, take_snocZ h2⟩
        have HN : Hid (xs.getD k 0 ≠ ys.getD k 0 → xs ≠ ys) := by
          intro hne e; rw [e] at hne; exact hne rfl
        generalize xs.getD k 0 = z1 at *
        generalize ys.getD k 0 = z2 at *
        by_cases hz : z1 = z2
        · subst hz
          go_wp2
          go_region
          go_wp2
          go_roundw
          case rel => exact ⟨k + 1, by omega, by omega, by go_num, (by rw [HT.out.1, HT.out.2, HE.out] : _ = _), hb.drew⟩
          case measure => simp [intOf]; omega
        · go_wp2
          go_region
          go_wp2
          go_ret
          exact ⟨by have := HN.out hz; simp [this], hb.drew⟩
      · have h2i : ¬ (k : Int) < (ys.length : Int) := by omega
        obtain rfl : k = ys.length := by omega
        have hlen : ¬ xs.length = ys.length := by omega
        have hne : xs ≠ ys := by intro e; rw [e] at hlen; exact hlen rfl
        go_wp2
        go_ret
        refine ⟨?_, hb⟩
        have : (xs == ys) = false := by simp [hne]
        rw [this]
        have : ¬ (xs.length : Int) = (ys.length : Int) := by omega
        simp [this]
    · have h1i : ¬ (k : Int) < (xs.length : Int) := by omega
      obtain rfl : k = xs.length := by omega
      go_wp2
      go_ret
      refine ⟨?_, hb⟩
      by_cases hlen : xs.length = ys.length
      · have : xs = ys := take_all12 hlen (.inl rfl) HE.out
        subst this
        simp
      · have hne : xs ≠ ys := by intro e; rw [e] at hlen; exact hlen rfl
        have : (xs == ys) = false := by simp [hne]
        rw [this]
        have : ¬ (xs.length : Int) = (ys.length : Int) := by omega
        simp [this]
def lent12 (zs : List Int) : List Int := zs ++ [71, 72, 73, 74]
theorem lent12_bd {zs : List Int} (h : ∀ z ∈ zs, -9223372036854775808 ≤ z ∧ z ≤ 9223372036854775807) : ∀ z ∈ lent12 zs, -9223372036854775808 ≤ z ∧ z ≤ 9223372036854775807 := by
  intro z hz
  unfold lent12 at hz
  rw [List.mem_append] at hz
  rcases hz with hz | hz
  · exact h z hz
  · simp at hz; omega
theorem seg_four12 (w : World) : SegZ (w.alloc (.cells #[.int .i64 71, .int .i64 72, .int .i64 73, .int .i64 74] 3)) (some ⟨w.heap.size, 0, none⟩) [71, 72, 73, 74] := by
  refine ⟨fun i hi => ⟨w.heap.size, 0, rfl, ?_⟩, getD_bdz (by intro z hz; simp at hz; omega)⟩
  simp only [List.length_cons, List.length_nil] at hi
  match i, hi with
  | 0, _ => simp
  | 1, _ => simp
  | 2, _ => simp
  | 3, _ => simp

set_option maxRecDepth 100000 in
set_option maxHeartbeats 400000 in
theorem lend12 (a : Option Addr) (zs : List Int) (cap : Nat) (w : World) (hs : SegZ w a zs) (hnil : a = none → cap = 0) (hl : zs.length * 8 ≤ 140737488351232) :
    Calls Try.prog 8 #[.slice a zs.length cap] w fun e w' => ∃ g cap', e = .returned (.slice (some ⟨g, 0, none⟩) (lent12 zs).length cap') ∧
      w'.ownsRow w.heap.size 3 1 (.slice (some ⟨g, 0, none⟩) (lent12 zs).length cap') (lent12 zs).length ((lent12 zs).map (Value.int .i64)) ∧ (lent12 zs).length ≤ cap' ∧ Below w.heap.size w w' := by
  obtain ⟨i0, hi, hz0, hz1, hz2⟩ := info_parts info_i12
  have HL : Hid (zs.length + 4 = (lent12 zs).length) := by show _ = _; simp [lent12]
  go_enter Try.func8, Try.ntmps8
  go_wp2_with (first
    | (at_builtin; refine wpList_appZ rfl (.const (.slice none 0 0)) (.tmp 3) 22 rfl w.heap.size 3 i0 (.int .i64 0) 8 Try.underlying22 hi hz0 hz1 hz2 rfl (World.ownsRow_nil _ _ _ _) hs hnil rfl rfl (by omega) (by omega) (Nat.le_refl _) ?_; intro a1 c1 w1 hown1 hg1 hf1 hn1; have hb1 := below_own (World.ownsRow_nil w w.heap.size 3 1) hg1 (Nat.le_refl _); clear hf1 hn1 hg1; rw [Nat.zero_add, List.nil_append] at hown1)
    | (at_builtin; refine wpList_appZ rfl (.tmp 4) (.tmp 5) 22 rfl w.heap.size 3 i0 (.int .i64 0) 8 Try.underlying22 hi hz0 hz1 hz2 rfl (hown1.alloc _) (seg_four12 w1) (by intro h; cases h) rfl rfl (by simp; omega) (by simp; omega) (by have := hb1.size; simp; omega) ?_; intro a2 c2 w2 hown2 hg2 hf2 hn2))
  go_ret
  clear hf2 hn2
  have hb0 := hb1.trans ((Below.refl w.heap.size w1).alloc hb1.size (.cells #[.int .i64 71, .int .i64 72, .int .i64 73, .int .i64 74] 3))
  have hb2 := hb0.trans (below_own (hown1.alloc _) hg2 (by have := hb0.size; simpa using this))
  have el : zs.length + ([71, 72, 73, 74] : List Int).length = (lent12 zs).length := by simp [lent12]
  have ev : zs.map (Value.int .i64) ++ ([71, 72, 73, 74] : List Int).map (Value.int .i64) = (lent12 zs).map (Value.int .i64) := by simp [lent12]
  rw [el, ev] at hown2
  obtain ⟨g, cap', hv, hc2, hg, hgs⟩ := own_shape hown2 (by have := HL.out; omega)
  refine ⟨g, cap', ?_, by rw [← hv]; exact hown2, hc2, hb2⟩
  rw [← hv, ← el]
  rfl
set_option maxRecDepth 100000 in
theorem pnum12 (v : Int) (w : World) : Calls Try.prog 10 #[.int .i64 v] w fun e w' => e = .returned (.int .i64 v) ∧ w' = w := by
  go_enter Try.func10, Try.ntmps10
  go_wp2
  go_ret
  exact ⟨rfl, rfl⟩
def lsb12 (n : Nat) (S : Nat → Int) : Nat → Nat → Nat → Bool
  | 0, _, _ => false
  | f + 1, i, j => decide (j < n) && (!decide (i < n) || (decide (S i < S j) || (decide (S i = S j) && lsb12 n S f (i + 1) (j + 1))))
theorem lsb12_ok {n : Nat} {S : Nat → Int} : ∀ {f i j : Nat}, lsb12 n S f i j = true → Ls12 n S i j
  | 0, _, _, h => by cases h
  | f + 1, i, j, h => by
    unfold lsb12 at h
    simp only [Bool.and_eq_true, decide_eq_true_eq, Bool.or_eq_true, Bool.not_eq_true', decide_eq_false_iff_not] at h
    obtain ⟨hj, h⟩ := h
    rcases h with h | h | ⟨h1, h2⟩
    · exact .fin h hj
    · by_cases hi : i < n
      · exact .lt hi hj h
      · exact .fin hi hj
    · by_cases hi : i < n
      · exact .eq hi hj h1 (lsb12_ok h2)
      · exact .fin hi hj
def prs12 (n : Nat) (S : Nat → Int) : List Nat → Bool
  | [] => true
  | x :: r => r.all (fun y => lsb12 n S (n + 1) x y) && prs12 n S r
theorem prs12_ok {n : Nat} {S : Nat → Int} : ∀ {A : List Nat}, prs12 n S A = true → A.Pairwise (Ls12 n S)
  | [], _ => List.Pairwise.nil
  | x :: r, h => by
    unfold prs12 at h
    rw [Bool.and_eq_true, List.all_eq_true] at h
    exact List.pairwise_cons.2 ⟨fun y hy => lsb12_ok (h.1 y hy), prs12_ok h.2⟩
def chk12 (n : Nat) (s : List Int) (A : List Nat) : Bool := decide (A.length = n) && A.all (fun j => decide (j < n)) && (List.range n).all (fun j => A.contains j) && prs12 n (S12 s) A
theorem chk12_ok {n : Nat} {s : List Int} {A : List Nat} (h : chk12 n s A = true) : Ar12 n (S12 s) A := by
  unfold chk12 at h
  rw [Bool.and_eq_true, Bool.and_eq_true, Bool.and_eq_true, decide_eq_true_eq, List.all_eq_true, List.all_eq_true] at h
  exact ⟨h.1.1.1, fun j hj => by simpa using h.1.1.2 j hj, fun j hj => by simpa using h.1.2 j (List.mem_range.2 hj), prs12_ok h.2⟩
theorem lit12 (w : World) (A : List Int) : Rz12 (w.alloc (.cells (vi12 A) 3)) w.heap.size A := Rz12.new w A
theorem lit12_bd {A : List Int} (h : A.all (fun z => decide (-100 ≤ z) && decide (z ≤ 100)) = true) : ∀ z ∈ A, -9223372036854775808 ≤ z ∧ z ≤ 9223372036854775807 := by
  intro z hz
  rw [List.all_eq_true] at h
  have := h z hz
  simp only [Bool.and_eq_true, decide_eq_true_eq] at this
  omega
/-- Array of a list that was written out. -/
theorem parl12 (k : Int) (s : List Int) (A : List Nat) (n : Nat) (w : World) (hk : 0 ≤ k ∧ k ≤ 100) (hb : s.all (fun z => decide (-100 ≤ z) && decide (z ≤ 100)) = true) (hn : s.length = n) (hr : ref12 k s = 0) (hA : chk12 n s A = true) :
    Calls Try.prog 33 #[.int .i64 k, .slice (some ⟨w.heap.size, 0, none⟩) n n] (w.alloc (.cells (vi12 s) 3)) fun e w' => ∃ g, e = .returned (.tuple #[.slice (some ⟨g, 0, none⟩) n n, .int .i64 0]) ∧ Rz12 w' g (nz12 A) ∧ w.heap.size ≤ g ∧ Below w.heap.size w w' := by
  have hb1 : Below w.heap.size w (w.alloc (.cells (vi12 s) 3)) := (Below.refl _ _).alloc (Nat.le_refl _) _
  refine (parr12 k _ s n n _ ((lit12 w s).seg (lit12_bd hb)) hn (by omega) hr).mono ?_
  rintro e w' ⟨g, A', rfl, RA, hg, hA', B⟩
  rw [hA'.unique (chk12_ok hA)] at RA
  exact ⟨g, rfl, RA, Nat.le_trans hb1.size hg, hb1.trans (B.mono hb1.size)⟩
set_option maxRecDepth 100000 in
set_option maxHeartbeats 1000000 in
theorem pawk12 (w : World) : Calls Try.prog 13 #[] w fun e w' => e = .returned (.bool true) ∧ Below w.heap.size w w' := by
  have HA := parl12 3 [1, 0, 2, 0, 2, 0] [5, 3, 1, 0, 4, 2] 6 w (by omega) (by kernel_rfl) rfl (by kernel_rfl) (by kernel_rfl)
  have HS : Hid (∀ w2 g, Rz12 w2 g (nz12 [5, 3, 1, 0, 4, 2]) → Calls Try.prog 12 #[.slice (some ⟨g, 0, none⟩) 6 6, .slice (some ⟨w2.heap.size, 0, none⟩) 6 6] (w2.alloc (.cells #[.int .i64 5, .int .i64 3, .int .i64 1, .int .i64 0, .int .i64 4, .int .i64 2] 3)) fun e w' => e = .returned (.bool true) ∧ Below w2.heap.size w2 w') := by
    intro w2 g R
    have hb1 : Below w2.heap.size w2 (w2.alloc (.cells #[.int .i64 5, .int .i64 3, .int .i64 1, .int .i64 0, .int .i64 4, .int .i64 2] 3)) := (Below.refl _ _).alloc (Nat.le_refl _) _
    have := same12 (some ⟨g, 0, none⟩) (some ⟨w2.heap.size, 0, none⟩) [5, 3, 1, 0, 4, 2] [5, 3, 1, 0, 4, 2] 6 6 _ ((R.old hb1).seg (lit12_bd (by kernel_rfl))) ((lit12 w2 [5, 3, 1, 0, 4, 2]).seg (lit12_bd (by kernel_rfl))) (by simp) (by simp)
    refine this.mono ?_
    rintro e w' ⟨rfl, B⟩
    exact ⟨rfl, hb1.trans (B.mono hb1.size)⟩
  go_enter Try.func13, Try.ntmps13
  go_wp2_with (first
    | (go_at_call 33; refine HA.mono ?_; rintro e1 w1 ⟨g, rfl, R1, hg, B1⟩))
  refine (HS.out _ g R1).mono ?_
  rintro e2 w2 ⟨rfl, B2⟩
  go_wp2_with fail
  go_ret
  exact ⟨rfl, B1.trans (B2.mono B1.size)⟩
end Go.Proofs.Ytkggfeipcmfghaa
