import Derived.Test.YtaipfcfmhdigfaaPai
import Derived.Test.YtaipfcfmhdigfaaPaj
namespace Go.Proofs.Ytaipfcfmhdigfaa
open Go.RowKit
set_option linter.unusedVariables false

/-! Places beyond the window are no candidates. -/
theorem getD_drop7 (D : List Int) (f i : Nat) : (D.drop f).getD i 0 = D.getD (f + i) 0 := by simp [List.getD]
theorem alg7_drop (D : List Int) (f q p : Nat) : ∀ k n, alg7 (D.drop f) q p k n = alg7 D (f + q) (f + p) k n
  | 0, n => rfl
  | k + 1, n => by
    rw [alg7, alg7, alg7_drop D f q p k (n + 1), getD_drop7, getD_drop7, List.length_drop]
    have h1 : (p + n < D.length - f) ↔ (f + p + n < D.length) := by omega
    have e1 : f + (q + n) = f + q + n := by omega
    have e2 : f + (p + n) = f + p + n := by omega
    rw [e1, e2]
    by_cases h : f + p + n < D.length
    · by_cases h2 : D.getD (f + q + n) 0 = D.getD (f + p + n) 0
      · rw [if_pos ⟨h1.2 h, h2⟩, if_pos ⟨h, h2⟩]
      · rw [if_neg (fun e => h2 e.2), if_neg (fun e => h2 e.2)]
    · rw [if_neg (fun e => h (h1.1 e.1)), if_neg (fun e => h e.1)]
theorem al7_drop (D : List Int) (f q p : Nat) : al7 (D.drop f) q p = al7 D (f + q) (f + p) := alg7_drop D f q p 258 0
theorem bsg7_drop (D : List Int) (f p W C : Nat) (hf : f = 0 ∨ p = W) : ∀ (k d best dist seen : Nat), 1 ≤ d → p + 1 ≤ d + k → bsg7 (D.drop f) p W C (p + 1 - d) d best dist seen = bsg7 D (f + p) W C (f + p + 1 - d) d best dist seen
  | 0, d, best, dist, seen, hd, hk => by
    rw [bsg7_far _ _ _ _ _ _ _ _ _ (by omega), bsg7_far _ _ _ _ _ _ _ _ _ (by omega)]
  | k + 1, d, best, dist, seen, hd, hk => by
    by_cases hdp : d ≤ p ∧ d ≤ W ∧ seen < C
    · rw [show p + 1 - d = p + 1 - (d + 1) + 1 by omega, show f + p + 1 - d = f + p + 1 - (d + 1) + 1 by omega, bsg7, bsg7, if_pos hdp, if_pos (show d ≤ f + p ∧ d ≤ W ∧ seen < C from ⟨by omega, hdp.2⟩), al7_drop, show f + (p - d) = f + p - d by omega]
      split
      · exact bsg7_drop D f p W C hf k (d + 1) best dist seen (by omega) (by omega)
      · split
        · exact bsg7_drop D f p W C hf k (d + 1) _ _ _ (by omega) (by omega)
        · exact bsg7_drop D f p W C hf k (d + 1) _ _ _ (by omega) (by omega)
    · rw [bsg7_far _ _ _ _ _ _ _ _ _ (by omega), bsg7_far _ _ _ _ _ _ _ _ _ (by omega)]
theorem bst7_drop (D : List Int) (f p W C : Nat) (hf : f = 0 ∨ p = W) : bst7 (D.drop f) p W C = bst7 D (f + p) W C := by
  rw [bst7_start, bst7_start]
  exact bsg7_drop D f p W C hf p 1 0 0 0 (by omega) (by omega)
theorem boxL2 {w wA : World} {win chain : Int} {lazy : Bool} {ty : TypeId} (hA : wA = w.alloc (.cells #[.int .i64 win, .int .i64 chain, .bool lazy] ty)) : LkAt wA w.heap.size win chain lazy := boxL hA
set_option maxRecDepth 100000 in
theorem pbest7_no (D : List Int) (a : Option Addr) (n cap : Nat) (p win chain : Int) (lazy : Bool) (w : World) (ho : opt7 win chain ≠ 0) :
    Calls Try.prog 28 #[.slice a n cap, .int .i64 p, look7 win chain lazy] w fun e w' => e = .returned (.tuple #[.int .i64 0, .int .i64 0, .int .i64 72]) ∧ Below w.heap.size w w' := by
  obtain ⟨wA, hwA⟩ : ∃ wA, wA = w.alloc (.cells #[.int .i64 win, .int .i64 chain, .bool lazy] 49) := ⟨_, rfl⟩
  have bA : Below w.heap.size w wA := by rw [hwA]; exact below_box _ _
  have HWA : Hid (wA = w.alloc (.cells #[.int .i64 win, .int .i64 chain, .bool lazy] 49)) := hwA
  have CO := popt7 win chain lazy wA
  rw [opt7_no ho] at CO
  clear hwA ho
  unfold look7 at CO ⊢
  go_enter Try.func28, Try.ntmps28
  go_wp2_with fail
  rw [← HWA.out]
  refine CO.mono ?_
  rintro e w1 ⟨rfl, b1⟩
  go_wp2_with fail
  refine bodyPost_ret (results_tmp3 rfl _ _ _) rfl ?_
  exact ⟨rfl, bA.trans (b1.mono bA.size)⟩
set_option maxRecDepth 100000 in
theorem pbest7_arg (D : List Int) (a : Option Addr) (n cap : Nat) (p win chain : Int) (lazy : Bool) (w : World) (ho : opt7 win chain = 0) (hp : p < 0 ∨ (n : Int) ≤ p) :
    Calls Try.prog 28 #[.slice a n cap, .int .i64 p, look7 win chain lazy] w fun e w' => e = .returned (.tuple #[.int .i64 0, .int .i64 0, .int .i64 1]) ∧ Below w.heap.size w w' := by
  obtain ⟨wA, hwA⟩ : ∃ wA, wA = w.alloc (.cells #[.int .i64 win, .int .i64 chain, .bool lazy] 49) := ⟨_, rfl⟩
  have bA : Below w.heap.size w wA := by rw [hwA]; exact below_box _ _
  have HWA : Hid (wA = w.alloc (.cells #[.int .i64 win, .int .i64 chain, .bool lazy] 49)) := hwA
  have CO := popt7 win chain lazy wA
  rw [ho] at CO
  clear hwA ho
  unfold look7 at CO ⊢
  by_cases h0 : p < 0
  · clear hp
    go_enter Try.func28, Try.ntmps28
    go_wp2_with fail
    rw [← HWA.out]
    refine CO.mono ?_
    rintro e w1 ⟨rfl, b1⟩
    go_wp2_with fail
    refine bodyPost_ret (results_tmp3 rfl _ _ _) rfl ?_
    exact ⟨rfl, bA.trans (b1.mono bA.size)⟩
  · have hp2 : (n : Int) ≤ p := by omega
    clear hp
    go_enter Try.func28, Try.ntmps28
    go_wp2_with fail
    rw [← HWA.out]
    refine CO.mono ?_
    rintro e w1 ⟨rfl, b1⟩
    go_wp2_with fail
    refine bodyPost_ret (results_tmp3 rfl _ _ _) rfl ?_
    exact ⟨rfl, bA.trans (b1.mono bA.size)⟩
set_option maxRecDepth 100000 in
set_option maxHeartbeats 4000000 in
theorem pbest7_far (D : List Int) (g off n cap p W C f r : Nat) (lazy : Bool) (hn : Hid (D.length = n)) (w : World) (hs : Seg w (some ⟨g, off, none⟩) D) (hcap : n ≤ cap) (hp : p < n) (hl : n ≤ 1073741824) (hW1 : 1 ≤ W) (hW2 : W ≤ 32768) (hC : C ≤ 4096) (hfr : f + r = p) (hf : W < p ∧ r = W) :
    Calls Try.prog 28 #[.slice (some ⟨g, off, none⟩) n cap, .int .i64 (p : Int), look7 W C lazy] w fun e w' => e = .returned (.tuple #[.int .i64 ((bst7 D p W C).1 : Int), .int .i64 ((bst7 D p W C).2 : Int), .int .i64 0]) ∧ Below w.heap.size w w' := by
  obtain ⟨wA, hwA⟩ : ∃ wA, wA = w.alloc (.cells #[.int .i64 (W : Int), .int .i64 (C : Int), .bool lazy] 49) := ⟨_, rfl⟩
  have bA : Below w.heap.size w wA := by rw [hwA]; exact below_box _ _
  have lA : LkAt wA w.heap.size W C lazy := boxL hwA
  have HWA : Hid (wA = w.alloc (.cells #[.int .i64 (W : Int), .int .i64 (C : Int), .bool lazy] 49)) := hwA
  have CO := popt7 W C lazy wA
  rw [show opt7 W C = 0 by unfold opt7; rw [if_neg (by omega)]] at CO
  obtain ⟨ob, hob⟩ : ∃ ob, ob = w.heap.size := ⟨_, rfl⟩
  have HOB : Hid (ob = w.heap.size) := hob
  rw [← hob] at lA
  have hol := lA.lt
  have HLA : Hid (LkAt wA ob W C lazy) := lA
  have hgl : g < wA.heap.size := Nat.lt_of_lt_of_le (hs.lt g off rfl (by rw [hn.out]; omega)) bA.size
  have hE := bst7_drop D f r W C (by omega)
  rw [hfr] at hE
  have HE : Hid (bst7 (D.drop f) r W C = bst7 D p W C) := hE
  have HSA : Hid (∀ W1, Below wA.heap.size wA W1 → Seg W1 (some ⟨g, off + f, none⟩) (D.drop f)) := fun W1 h1 => ((hs.old bA).old h1).drop f
  have HDL : Hid ((D.drop f).length = n - f) := by show _ = _; rw [List.length_drop, hn.out]
  have hwr : IntKind.i64.wrap ((p : Int) - (f : Int)) = (r : Int) := by rw [IntWalk.i64_in _ (by omega)]; omega
  have hfn : (f : Int) ≤ (n : Int) := by omega
  have hfc : (f : Int) ≤ (cap : Int) := by omega
  have hf0 : (0 : Int) ≤ (f : Int) := by omega
  have hp0 : ¬ (p : Int) < 0 := by omega
  have hpn : ¬ (n : Int) ≤ (p : Int) := by omega
  have hrn : r < n - f := by omega
  have hnf : n - f ≤ 1073741824 := by omega
  have hcf : ¬ cap = f := by omega
  have CN : Hid (∀ W1, Below wA.heap.size wA W1 → Calls Try.prog 37 #[.slice (some ⟨g, off + f, none⟩) (n - f) (cap - f), look7 W C lazy] W1 fun e w' => ∃ b m, e = .returned (.pointer (some ⟨b, 0, none⟩)) ∧ Chn w' wA.heap.size b m none 0 (D.drop f) (some ⟨g, off + f, none⟩) (n - f) (cap - f) W C lazy 0 ∧ Below W1.heap.size W1 w') := fun W1 h1 =>
    pnewc7 (D.drop f) (some ⟨g, off + f, none⟩) (n - f) (cap - f) W C lazy W1 (HSA.out W1 h1) wA.heap.size h1.size (fun x o e _ => by cases e; exact hgl)
  have CB : Hid (∀ b m w3, Chn w3 wA.heap.size b m none 0 (D.drop f) (some ⟨g, off + f, none⟩) (n - f) (cap - f) W C lazy 0 → Calls Try.prog 38 #[.pointer (some ⟨b, 0, none⟩), .int .i64 (r : Int)] w3 fun e w' => e = .returned (.tuple #[.int .i64 ((bst7 D p W C).1 : Int), .int .i64 ((bst7 D p W C).2 : Int)]) ∧ Below wA.heap.size w3 w') := fun b m w3 h3 => by
    have := pbst7 wA.heap.size b m none 0 (D.drop f) (some ⟨g, off + f, none⟩) (n - f) (cap - f) W C lazy 0 r HDL w3 h3 (by omega) hrn hnf hW2 hC
    rw [HE.out] at this
    exact this.mono (fun e w' q => ⟨q.1, q.2.2.below (fun k e => (h3.cs k e).1) h3.bs⟩)
  unfold look7 at CN
  have hws : IntKind.i64.wrap ((p : Int) - (W : Int)) = (f : Int) := by rw [IntWalk.i64_in _ (by omega)]; omega
  have hf1 : (0 : Int) < (f : Int) := by omega
  have hf2 : 0 < f := by omega
  have HFR : Hid (f + r = p) := hfr
  clear hwA hob lA hs hE hfr
  unfold look7 at CO ⊢
  generalize (bst7 D p W C).1 = x1 at *
  generalize (bst7 D p W C).2 = x2 at *
  go_enter Try.func28, Try.ntmps28
  go_wp2_with fail
  rw [← HWA.out, ← HOB.out]
  refine CO.mono ?_
  rintro e w1 ⟨rfl, b1⟩
  have B1 : Below wA.heap.size wA w1 := b1
  have B1d : Below wA.heap.size wA w1.drew := B1.drew
  obtain ⟨k0, k1, k2⟩ := (show LkAt wA ob W C lazy from HLA.out).of_block (b1.block ob hol)
  have hol1 : ob < w1.heap.size := Nat.lt_of_lt_of_le hol b1.size
  clear hf
  go_wp2_with fail
  go_region_held3 (fun w' => w'.cell? ⟨ob, 0, none⟩ = some (.int .i64 (W : Int)) ∧ w'.cell? ⟨ob, 1, none⟩ = some (.int .i64 (C : Int)) ∧ w'.cell? ⟨ob, 2, none⟩ = some (.bool lazy)) (first | go_keep | assumption)
    (first
      | (go_at_call 37
         refine (CN.out _ B1d).mono ?_
         rintro e w3 ⟨b, m, rfl, hC3, b3⟩
         have hS3 : w3.cell? ⟨ob, 0, none⟩ = some (.int .i64 (W : Int)) ∧ w3.cell? ⟨ob, 1, none⟩ = some (.int .i64 (C : Int)) ∧ w3.cell? ⟨ob, 2, none⟩ = some (.bool lazy) := ⟨(b3.cell (p := ⟨ob, 0, none⟩) hol1).trans k0, (b3.cell (p := ⟨ob, 1, none⟩) hol1).trans k1, (b3.cell (p := ⟨ob, 2, none⟩) hol1).trans k2⟩
         have B3 : Below wA.heap.size wA w3 := B1d.trans (b3.mono B1d.size))
      | (go_at_call 38
         refine (CB.out b m _ (by assumption)).mono ?_
         rintro e w4 ⟨rfl, b4⟩
         have B4 : Below wA.heap.size wA w4 := B3.trans b4
         have hS4 : w4.cell? ⟨ob, 0, none⟩ = some (.int .i64 (W : Int)) ∧ w4.cell? ⟨ob, 1, none⟩ = some (.int .i64 (C : Int)) ∧ w4.cell? ⟨ob, 2, none⟩ = some (.bool lazy) := ⟨(b4.cell (p := ⟨ob, 0, none⟩) hol).trans hS3.1, (b4.cell (p := ⟨ob, 1, none⟩) hol).trans hS3.2.1, (b4.cell (p := ⟨ob, 2, none⟩) hol).trans hS3.2.2⟩))
  all_goals go_wp2
  all_goals refine bodyPost_ret (results_tmp3 rfl _ _ _) rfl ?_
  all_goals exact ⟨rfl, bA.trans (B4.mono bA.size)⟩
set_option maxRecDepth 100000 in
set_option maxHeartbeats 4000000 in
theorem pbest7_near (D : List Int) (g off n cap p W C : Nat) (lazy : Bool) (hn : Hid (D.length = n)) (w : World) (hs : Seg w (some ⟨g, off, none⟩) D) (hcap : n ≤ cap) (hp : p < n) (hl : n ≤ 1073741824) (hW1 : 1 ≤ W) (hW2 : W ≤ 32768) (hC : C ≤ 4096) (hf : p ≤ W) :
    Calls Try.prog 28 #[.slice (some ⟨g, off, none⟩) n cap, .int .i64 (p : Int), look7 W C lazy] w fun e w' => e = .returned (.tuple #[.int .i64 ((bst7 D p W C).1 : Int), .int .i64 ((bst7 D p W C).2 : Int), .int .i64 0]) ∧ Below w.heap.size w w' := by
  obtain ⟨wA, hwA⟩ : ∃ wA, wA = w.alloc (.cells #[.int .i64 (W : Int), .int .i64 (C : Int), .bool lazy] 49) := ⟨_, rfl⟩
  have bA : Below w.heap.size w wA := by rw [hwA]; exact below_box _ _
  have lA : LkAt wA w.heap.size W C lazy := boxL hwA
  have HWA : Hid (wA = w.alloc (.cells #[.int .i64 (W : Int), .int .i64 (C : Int), .bool lazy] 49)) := hwA
  have CO := popt7 W C lazy wA
  rw [show opt7 W C = 0 by unfold opt7; rw [if_neg (by omega)]] at CO
  obtain ⟨ob, hob⟩ : ∃ ob, ob = w.heap.size := ⟨_, rfl⟩
  have HOB : Hid (ob = w.heap.size) := hob
  rw [← hob] at lA
  have hol := lA.lt
  have HLA : Hid (LkAt wA ob W C lazy) := lA
  have hgl : g < wA.heap.size := Nat.lt_of_lt_of_le (hs.lt g off rfl (by rw [hn.out]; omega)) bA.size
  have HSA : Hid (∀ W1, Below wA.heap.size wA W1 → Seg W1 (some ⟨g, off, none⟩) D) := fun W1 h1 => (hs.old bA).old h1
  have hp0 : ¬ (p : Int) < 0 := by omega
  have hpn : ¬ (n : Int) ≤ (p : Int) := by omega
  have CN : Hid (∀ W1, Below wA.heap.size wA W1 → Calls Try.prog 37 #[.slice (some ⟨g, off, none⟩) n cap, look7 W C lazy] W1 fun e w' => ∃ b m, e = .returned (.pointer (some ⟨b, 0, none⟩)) ∧ Chn w' wA.heap.size b m none 0 D (some ⟨g, off, none⟩) n cap W C lazy 0 ∧ Below W1.heap.size W1 w') := fun W1 h1 =>
    pnewc7 D (some ⟨g, off, none⟩) n cap W C lazy W1 (HSA.out W1 h1) wA.heap.size h1.size (fun x o e _ => by cases e; exact hgl)
  have CB : Hid (∀ b m w3, Chn w3 wA.heap.size b m none 0 D (some ⟨g, off, none⟩) n cap W C lazy 0 → Calls Try.prog 38 #[.pointer (some ⟨b, 0, none⟩), .int .i64 (p : Int)] w3 fun e w' => e = .returned (.tuple #[.int .i64 ((bst7 D p W C).1 : Int), .int .i64 ((bst7 D p W C).2 : Int)]) ∧ Below wA.heap.size w3 w') := fun b m w3 h3 => by
    have := pbst7 wA.heap.size b m none 0 D (some ⟨g, off, none⟩) n cap W C lazy 0 p hn w3 h3 (by omega) hp hl hW2 hC
    exact this.mono (fun e w' q => ⟨q.1, q.2.2.below (fun k e => (h3.cs k e).1) h3.bs⟩)
  unfold look7 at CN
  have hws : IntKind.i64.wrap ((p : Int) - (W : Int)) = (p : Int) - (W : Int) := IntWalk.i64_in _ (by omega)
  have hws2 : IntKind.i64.wrap ((p : Int) - 0) = (p : Int) := by rw [IntWalk.i64_in _ (by omega)]; omega
  have hws3 : IntKind.i64.wrap (p : Int) = (p : Int) := IntWalk.i64_in _ (by omega)
  have hpw : (p : Int) - (W : Int) ≤ 0 := by omega
  have hpw2 : ¬ (0 : Int) < (p : Int) - (W : Int) := by omega
  have hpw3 : ¬ W < p := by omega
  have hcf : ¬ cap = 0 := by omega
  clear hwA hob lA hs
  unfold look7 at CO ⊢
  generalize (bst7 D p W C).1 = x1 at *
  generalize (bst7 D p W C).2 = x2 at *
  go_enter Try.func28, Try.ntmps28
  go_wp2_with fail
  rw [← HWA.out, ← HOB.out]
  refine CO.mono ?_
  rintro e w1 ⟨rfl, b1⟩
  have B1 : Below wA.heap.size wA w1 := b1
  have B1d : Below wA.heap.size wA w1.drew := B1.drew
  obtain ⟨k0, k1, k2⟩ := (show LkAt wA ob W C lazy from HLA.out).of_block (b1.block ob hol)
  have hol1 : ob < w1.heap.size := Nat.lt_of_lt_of_le hol b1.size
  clear hf
  go_wp2_with fail
  go_region_held3 (fun w' => w'.cell? ⟨ob, 0, none⟩ = some (.int .i64 (W : Int)) ∧ w'.cell? ⟨ob, 1, none⟩ = some (.int .i64 (C : Int)) ∧ w'.cell? ⟨ob, 2, none⟩ = some (.bool lazy)) (first | go_keep | assumption)
    (first
      | (go_at_call 37
         refine (CN.out _ B1d).mono ?_
         rintro e w3 ⟨b, m, rfl, hC3, b3⟩
         have hS3 : w3.cell? ⟨ob, 0, none⟩ = some (.int .i64 (W : Int)) ∧ w3.cell? ⟨ob, 1, none⟩ = some (.int .i64 (C : Int)) ∧ w3.cell? ⟨ob, 2, none⟩ = some (.bool lazy) := ⟨(b3.cell (p := ⟨ob, 0, none⟩) hol1).trans k0, (b3.cell (p := ⟨ob, 1, none⟩) hol1).trans k1, (b3.cell (p := ⟨ob, 2, none⟩) hol1).trans k2⟩
         have B3 : Below wA.heap.size wA w3 := B1d.trans (b3.mono B1d.size))
      | (go_at_call 38
         refine (CB.out b m _ (by assumption)).mono ?_
         rintro e w4 ⟨rfl, b4⟩
         have B4 : Below wA.heap.size wA w4 := B3.trans b4
         have hS4 : w4.cell? ⟨ob, 0, none⟩ = some (.int .i64 (W : Int)) ∧ w4.cell? ⟨ob, 1, none⟩ = some (.int .i64 (C : Int)) ∧ w4.cell? ⟨ob, 2, none⟩ = some (.bool lazy) := ⟨(b4.cell (p := ⟨ob, 0, none⟩) hol).trans hS3.1, (b4.cell (p := ⟨ob, 1, none⟩) hol).trans hS3.2.1, (b4.cell (p := ⟨ob, 2, none⟩) hol).trans hS3.2.2⟩))
  all_goals go_wp2
  all_goals refine bodyPost_ret (results_tmp3 rfl _ _ _) rfl ?_
  all_goals exact ⟨rfl, bA.trans (B4.mono bA.size)⟩
theorem pbest7 (D : List Int) (a : Option Addr) (n cap : Nat) (p win chain : Int) (lazy : Bool) (hn : Hid (D.length = n)) (w : World) (hs : Seg w a D) (hcap : n ≤ cap) (hnil : a = none → cap = 0) (hl : n ≤ 1073741824) (hp : -9223372036854775808 ≤ p ∧ p ≤ 9223372036854775807) : Calls Try.prog 28 #[.slice a n cap, .int .i64 p, look7 win chain lazy] w fun e w' => e = .returned (.tuple #[.int .i64 (best7 D p win chain).1, .int .i64 (best7 D p win chain).2.1, .int .i64 (best7 D p win chain).2.2]) ∧ Below w.heap.size w w' := by
  unfold best7
  by_cases ho : opt7 win chain = 0
  · rw [if_neg (by simpa using ho), hn.out]
    by_cases hp2 : p < 0 ∨ (n : Int) ≤ p
    · rw [if_pos hp2]
      exact pbest7_arg D a n cap p win chain lazy w ho hp2
    · rw [if_neg hp2]
      obtain ⟨h1, h2, h3, h4⟩ := opt7_ok ho
      obtain ⟨P, rfl⟩ := Int.eq_ofNat_of_zero_le (show 0 ≤ p by omega)
      obtain ⟨W, rfl⟩ := Int.eq_ofNat_of_zero_le (show 0 ≤ win by omega)
      obtain ⟨C, rfl⟩ := Int.eq_ofNat_of_zero_le h3
      obtain ⟨g, off, rfl, _⟩ := hs.at_ P (by rw [hn.out]; omega)
      by_cases hWP : W < P
      · exact pbest7_far D g off n cap P W C (P - W) W lazy hn w hs hcap (by omega) hl (by omega) (by omega) (by omega) (by omega) ⟨hWP, rfl⟩
      · exact pbest7_near D g off n cap P W C lazy hn w hs hcap (by omega) hl (by omega) (by omega) (by omega) (by omega)
  · rw [if_pos ho]
    exact pbest7_no D a n cap p win chain lazy w ho
end Go.Proofs.Ytaipfcfmhdigfaa
