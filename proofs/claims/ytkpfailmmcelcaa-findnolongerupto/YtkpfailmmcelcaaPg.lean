import Derived.Test.YtkpfailmmcelcaaPf
import Derived.Deep.RegionWith
namespace Go.Proofs.Ytkpfailmmcelcaa
open Go.RowKit
set_option linter.unusedVariables false

/-! The landed refusal and bounds. -/
def vals12 (k : Int) (s : List Int) : Bool := s.all (fun v => decide (0 ≤ v) && decide (v < k))
def rv12 (k : Int) (s : List Int) : Int := if vals12 k s then 0 else 121
def ref12 (k : Int) (s : List Int) : Int := if k < 0 ∨ 33554432 < k then 1 else if 16777216 < s.length then 120 else rv12 k s
theorem vals12_take (k : Int) (s : List Int) (i : Nat) (h : i < s.length) : vals12 k (s.take (i + 1)) = (vals12 k (s.take i) && (decide (0 ≤ s.getD i 0) && decide (s.getD i 0 < k))) := by
  unfold vals12
  rw [take_snocZ h, List.all_append]
  simp
theorem vals12_no {k : Int} {s : List Int} {i : Nat} (h : i < s.length) (hn : ¬ (0 ≤ s.getD i 0 ∧ s.getD i 0 < k)) : vals12 k s = false := by
  unfold vals12
  rw [List.all_eq_false]
  refine ⟨s[i], List.getElem_mem h, ?_⟩
  have : s.getD i 0 = s[i] := by simp [List.getD, h]
  rw [this] at hn
  simpa [Bool.and_eq_true] using hn
set_option maxRecDepth 100000 in
set_option maxHeartbeats 1000000 in
theorem pref12 (k : Int) (a : Option Addr) (s : List Int) (n cap : Nat) (w : World) (hs : SegZ w a s) (hn : Hid (s.length = n)) (hb : n ≤ 9223372036854775807) (hk : -9223372036854775808 ≤ k ∧ k ≤ 9223372036854775807) :
    Calls Try.prog 48 #[.int .i64 k, .slice a n cap] w fun e w' => e = .returned (.int .i64 (ref12 k s)) ∧ Below w.heap.size w w' := by
  have HR : Hid (ref12 k s = if k < 0 ∨ 33554432 < k then 1 else if 16777216 < n then 120 else rv12 k s) := by show _ = _; unfold ref12; rw [hn.out]
  rw [HR.out]
  by_cases k1 : k < 0
  · rw [if_pos (Or.inl k1)]
    go_enter Try.func48, Try.ntmps48
    go_wp2
    go_ret
    exact ⟨rfl, Below.refl _ _⟩
  by_cases k2 : 33554432 < k
  · rw [if_pos (Or.inr k2)]
    go_enter Try.func48, Try.ntmps48
    go_wp2
    go_ret
    exact ⟨rfl, Below.refl _ _⟩
  rw [if_neg (by omega)]
  by_cases k3 : 16777216 < n
  · rw [if_pos k3]
    have k3i : (16777216 : Int) < (n : Int) := by omega
    go_enter Try.func48, Try.ntmps48
    go_wp2
    go_ret
    exact ⟨rfl, Below.refl _ _⟩
  rw [if_neg k3]
  have k3i : ¬ (16777216 : Int) < (n : Int) := by omega
  go_enter Try.func48, Try.ntmps48
  go_wp2
  go_loopw [18] (fun ti wr => ∃ i : Nat, i ≤ n ∧ ti = .int .i64 i ∧ Hid (vals12 k (s.take i) = true) ∧ Below w.heap.size w wr) (fun ti _ => n - (intOf ti).toNat)
  case atStart => exact ⟨0, Nat.zero_le _, rfl, (by simp [vals12] : _ = _), Below.refl _ _⟩
  case round =>
    obtain ⟨i, hi, rfl, HV, hb2⟩ := hrel
    by_cases h1 : i < n
    · have h1i : (i : Int) < (n : Int) := by omega
      have hs2 := hs.old hb2
      obtain ⟨b, off, rfl, c1⟩ := hs2.at_ i (by rw [hn.out]; exact h1)
      have bd := hs2.bd i
      have HS : Hid (vals12 k (s.take (i + 1)) = (vals12 k (s.take i) && (decide (0 ≤ s.getD i 0) && decide (s.getD i 0 < k)))) := vals12_take k s i (by rw [hn.out]; exact h1)
      have HN : Hid (¬ (0 ≤ s.getD i 0 ∧ s.getD i 0 < k) → vals12 k s = false) := vals12_no (by rw [hn.out]; exact h1)
      clear hs2
      generalize s.getD i 0 = v at *
      by_cases v1 : v < 0
      · go_wp2
        go_ret
        exact ⟨by unfold rv12; rw [HN.out (by omega)]; rfl, hb2⟩
      · by_cases v2 : k ≤ v
        · go_wp2
          go_ret
          exact ⟨by unfold rv12; rw [HN.out (by omega)]; rfl, hb2⟩
        · have v3 : 0 ≤ v := by omega
          have v4 : v < k := by omega
          go_wp2
          go_roundw
          case rel => exact ⟨i + 1, by omega, by go_num, (by rw [HS.out, HV.out]; simp; omega : _ = _), hb2⟩
          case measure => simp [intOf]; omega
    · have h1i : ¬ (i : Int) < (n : Int) := by omega
      go_wp2
      go_ret
      refine ⟨?_, hb2⟩
      have e : s.take i = s := List.take_of_length_le (by rw [hn.out]; omega)
      have := HV.out
      rw [e] at this
      unfold rv12
      rw [this]; rfl
/-! Bounds: how many are less. -/
def cnt12 (s : List Int) (v : Int) : Nat := s.countP (fun x => decide (x < v))
/-- The counts of the numbers themselves, as far as the list is read. -/
def bc12 (K : Nat) (l : List Int) : List Int := (List.range (K + 1)).map (fun v : Nat => ((l.countP (fun x => decide (x + 1 = (v : Int))) : Nat) : Int))
/-- The sums, as far as the counts are joined. -/
def bs12 (K : Nat) (s : List Int) (v : Nat) : List Int := (List.range (K + 1)).map (fun u : Nat => if u ≤ v then ((cnt12 s (u : Int) : Nat) : Int) else ((s.countP (fun x => decide (x + 1 = (u : Int))) : Nat) : Int))
def bnd12 (K : Nat) (s : List Int) : List Int := (List.range (K + 1)).map (fun u : Nat => ((cnt12 s (u : Int) : Nat) : Int))
theorem bc12_len (K : Nat) (l : List Int) : (bc12 K l).length = K + 1 := by simp [bc12]
theorem bs12_len (K : Nat) (l : List Int) (v : Nat) : (bs12 K l v).length = K + 1 := by simp [bs12]
theorem bnd12_len (K : Nat) (l : List Int) : (bnd12 K l).length = K + 1 := by simp [bnd12]
theorem bc12_get (K : Nat) (l : List Int) (v : Nat) (h : v < K + 1) : (bc12 K l).getD v 0 = ((l.countP (fun x => decide (x + 1 = (v : Int))) : Nat) : Int) := by simp [bc12, List.getD, h]
theorem bs12_get (K : Nat) (s : List Int) (v u : Nat) (h : u < K + 1) : (bs12 K s v).getD u 0 = if u ≤ v then ((cnt12 s (u : Int) : Nat) : Int) else ((s.countP (fun x => decide (x + 1 = (u : Int))) : Nat) : Int) := by simp [bs12, List.getD, h]
theorem bnd12_get (K : Nat) (s : List Int) (u : Nat) (h : u < K + 1) : (bnd12 K s).getD u 0 = ((cnt12 s (u : Int) : Nat) : Int) := by simp [bnd12, List.getD, h]
theorem bc12_nil (K : Nat) : bc12 K [] = List.replicate (K + 1) 0 := by
  refine ext12 (d := 0) (by simp [bc12]) fun i hi => ?_
  rw [bc12_len] at hi
  rw [bc12_get K [] i hi]
  simp [List.getD, hi]
theorem bc12_snoc (K : Nat) (l : List Int) (x : Nat) (hx : x < K) : (bc12 K l).set (x + 1) ((bc12 K l).getD (x + 1) 0 + 1) = bc12 K (l ++ [(x : Int)]) := by
  refine ext12 (d := 0) (by simp [bc12]) fun i hi => ?_
  rw [List.length_set, bc12_len] at hi
  rw [getD_set12 _ _ _ _ (by rw [bc12_len]; omega), bc12_get K _ i hi, bc12_get K _ (x + 1) (by omega), bc12_get K _ i hi, List.countP_append]
  by_cases e : i = x + 1
  · subst e
    rw [if_pos rfl]
    simp
  · rw [if_neg e]
    have : ¬ ((x : Int) + 1 = (i : Int)) := by omega
    simp [this]
theorem cnt12_succ (s : List Int) (v : Int) : cnt12 s (v + 1) = cnt12 s v + s.countP (fun x => decide (x + 1 = v + 1)) := by
  unfold cnt12
  induction s with
  | nil => simp
  | cons x s ih =>
    simp only [List.countP_cons, ih]
    by_cases h1 : x < v
    · have h2 : x < v + 1 := by omega
      have h3 : ¬ x + 1 = v + 1 := by omega
      simp [h1, h2, h3]; omega
    · by_cases h4 : x = v
      · subst h4
        have h2 : x < x + 1 := by omega
        simp [h2]; omega
      · have h2 : ¬ x < v + 1 := by omega
        have h3 : ¬ x + 1 = v + 1 := by omega
        simp [h1, h2, h3]
theorem cnt12_zero {s : List Int} (h : ∀ z ∈ s, 0 ≤ z) : cnt12 s 0 = 0 := by
  unfold cnt12
  rw [List.countP_eq_zero]
  intro a ha
  have := h a ha
  simp; omega
theorem bs12_zero (K : Nat) {s : List Int} (h : ∀ z ∈ s, 0 ≤ z) : bc12 K s = bs12 K s 0 := by
  refine ext12 (d := 0) (by simp [bc12, bs12]) fun i hi => ?_
  rw [bc12_len] at hi
  rw [bc12_get K s i hi, bs12_get K s 0 i hi]
  by_cases e : i ≤ 0
  · obtain rfl : i = 0 := by omega
    rw [if_pos (Nat.le_refl 0)]
    have h1 : cnt12 s ((0 : Nat) : Int) = 0 := cnt12_zero h
    have h2 : s.countP (fun x => decide (x + 1 = ((0 : Nat) : Int))) = 0 := by
      rw [List.countP_eq_zero]
      intro a ha
      have := h a ha
      simp; omega
    rw [h1, h2]
  · rw [if_neg e]
theorem bs12_step (K : Nat) (s : List Int) (v : Nat) (hv : v < K) : (bs12 K s v).set (v + 1) ((bs12 K s v).getD (v + 1) 0 + (bs12 K s v).getD v 0) = bs12 K s (v + 1) := by
  refine ext12 (d := 0) (by simp [bs12]) fun i hi => ?_
  rw [List.length_set, bs12_len] at hi
  rw [getD_set12 _ _ _ _ (by rw [bs12_len]; omega), bs12_get K s v (v + 1) (by omega), bs12_get K s v v (by omega), bs12_get K s (v + 1) i hi, bs12_get K s v i hi, if_neg (show ¬ v + 1 ≤ v by omega), if_pos (Nat.le_refl v)]
  by_cases e : i = v + 1
  · subst e
    rw [if_pos rfl, if_pos (Nat.le_refl _)]
    have := cnt12_succ s (v : Int)
    have e2 : ((v + 1 : Nat) : Int) = (v : Int) + 1 := by omega
    rw [e2, this]
    omega
  · rw [if_neg e]
    by_cases h : i ≤ v
    · rw [if_pos h, if_pos (by omega)]
    · rw [if_neg h, if_neg (by omega)]
theorem bs12_all (K : Nat) (s : List Int) : bs12 K s K = bnd12 K s := by
  refine ext12 (d := 0) (by simp [bs12, bnd12]) fun i hi => ?_
  rw [bs12_len] at hi
  rw [bs12_get K s K i hi, bnd12_get K s i hi, if_pos (by omega)]
theorem cnt12_le (s : List Int) (v : Int) : cnt12 s v ≤ s.length := List.countP_le_length
set_option maxRecDepth 100000 in
set_option maxHeartbeats 2000000 in
theorem pbnd12 (K : Nat) (a : Option Addr) (s : List Int) (n cap : Nat) (w : World) (hs : SegZ w a s) (hn : Hid (s.length = n)) (hb : n ≤ 16777216) (hK : K ≤ 33554432) (hv : ∀ i, i < n → 0 ≤ s.getD i 0 ∧ s.getD i 0 < (K : Int)) :
    Calls Try.prog 58 #[.int .i64 (K : Int), .slice a n cap] w fun e w' => e = .returned (.slice (some ⟨w.heap.size, 0, none⟩) (K + 1) (K + 1)) ∧ Rz12 w' w.heap.size (bnd12 K s) ∧ Below w.heap.size w w' := by
  have HM := run_make_i12 (K + 1) (by omega)
  have HNN : Hid (∀ z ∈ s, 0 ≤ z) := by
    intro z hz
    obtain ⟨i, hi, rfl⟩ := List.mem_iff_getElem.1 hz
    have := (hv i (by rw [← hn.out]; exact hi)).1
    simpa [List.getD, hi] using this
  have HZ : Hid (List.replicate (K + 1) (0 : Int) = bc12 K (s.take 0)) := by show _ = _; rw [List.take_zero, bc12_nil]
  have hal : Below w.heap.size w (w.alloc (.cells (vi12 (List.replicate (K + 1) 0)) 3)) := (Below.refl _ _).alloc (Nat.le_refl _) _
  have hr0 := Rz12.new w (List.replicate (K + 1) 0)
  rw [HZ.out] at hal hr0 HM
  generalize hg : w.heap.size = g at *
  generalize hw1 : w.alloc (.cells (vi12 (bc12 K (s.take 0))) 3) = w1 at *
  have HM1 : (Instr.makeSlice 28 (.int .i64 ((K : Int) + 1)) (.int .i64 ((K : Int) + 1))).run Try.prog w = .ok (.slice (some ⟨g, 0, none⟩) (K + 1) (K + 1)) w1 := by
    have := HM w
    rw [hg, hw1] at this
    exact this
  have HG : Hid (g ≤ w1.heap.size ∧ w.heap.size = g) := ⟨by have := hal.size; omega, hg⟩
  have KI : (K : Int) ≤ 33554432 := by omega
  clear HM hw1 hg
  go_enter Try.func58, Try.ntmps58
  go_wp2
  go_loopw [14] (fun ti wr => ∃ i : Nat, i ≤ n ∧ ti = .int .i64 i ∧ Rz12 wr g (bc12 K (s.take i)) ∧ Below g w wr) (fun ti _ => n - (intOf ti).toNat)
  case atStart => exact ⟨0, Nat.zero_le _, rfl, hr0, hal⟩
  case round =>
    obtain ⟨i, hi, rfl, hr, hb2⟩ := hrel
    by_cases h1 : i < n
    · have h1i : (i : Int) < (n : Int) := by omega
      have hs2 : SegZ wr a s := hs.old (by rw [HG.out.2]; exact hb2)
      obtain ⟨b, off, rfl, c1⟩ := hs2.at_ i (by rw [hn.out]; exact h1)
      obtain ⟨x, hx⟩ : ∃ x : Nat, s.getD i 0 = (x : Int) := ⟨(s.getD i 0).toNat, by have := hv i h1; omega⟩
      have hxK : x < K := by have := hv i h1; omega
      rw [hx] at c1
      have c2 := hr.cell (i := x + 1) (by rw [bc12_len]; omega)
      have f2 := hr.free (x + 1)
      have HS : Hid (Rz12 (wr.setCell ⟨g, x + 1, none⟩ (.int .i64 ((bc12 K (s.take i)).getD (x + 1) 0 + 1))) g (bc12 K (s.take (i + 1)))) := by
        have := hr.set (x + 1) ((bc12 K (s.take i)).getD (x + 1) 0 + 1)
        rw [bc12_snoc K _ x hxK, ← hx, ← take_snocZ (by rw [hn.out]; exact h1)] at this
        exact this
      have HB : Hid (∀ y, Below g w (wr.setCell ⟨g, x + 1, none⟩ y)) := by
        intro y
        exact hb2.trans ((Kp.set (S := fun j => j = g) rfl y).below (fun j h => by omega) (by have := hb2.size; have := HG.out; omega))
      have bdc : 0 ≤ (bc12 K (s.take i)).getD (x + 1) 0 ∧ (bc12 K (s.take i)).getD (x + 1) 0 ≤ 16777216 := by
        rw [bc12_get K _ (x + 1) (by omega)]
        have h2 := List.countP_le_length (p := fun z => decide (z + 1 = ((x + 1 : Nat) : Int))) (l := s.take i)
        have h3 := List.length_take_le i s
        omega
      have xK : (x : Int) + 1 < (K : Int) + 1 := by omega
      generalize (bc12 K (s.take i)).getD (x + 1) 0 = y at *
      clear hs2 hr hx
      go_wp2
      go_roundw
      case rel => exact ⟨i + 1, by omega, by go_num, HS.out, HB.out _⟩
      case measure => simp [intOf]; omega
    · have h1i : ¬ (i : Int) < (n : Int) := by omega
      have hr1 : Rz12 wr g (bs12 K s 0) := by
        have e : s.take i = s := List.take_of_length_le (by rw [hn.out]; omega)
        rw [e, bs12_zero K HNN.out] at hr
        exact hr
      clear hr
      go_wp2
      go_loopw [27] (fun ti wr => ∃ v : Nat, v ≤ K ∧ ti = .int .i64 v ∧ Rz12 wr g (bs12 K s v) ∧ Below g w wr) (fun ti _ => K - (intOf ti).toNat)
      case atStart => exact ⟨0, Nat.zero_le _, rfl, hr1, hb2⟩
      case round =>
        obtain ⟨v, hvK, rfl, hr, hb3⟩ := hrel
        by_cases h2 : v < K
        · have h2i : (v : Int) < (K : Int) := by omega
          have h2j : (v : Int) < (K : Int) + 1 := by omega
          have h2k : (v : Int) + 1 < (K : Int) + 1 := by omega
          have c2 := hr.cell (i := v + 1) (by rw [bs12_len]; omega)
          have c3 := hr.cell (i := v) (by rw [bs12_len]; omega)
          have f2 := hr.free (v + 1)
          have HS : Hid (Rz12 (wr.setCell ⟨g, v + 1, none⟩ (.int .i64 ((bs12 K s v).getD (v + 1) 0 + (bs12 K s v).getD v 0))) g (bs12 K s (v + 1))) := by
            have := hr.set (v + 1) ((bs12 K s v).getD (v + 1) 0 + (bs12 K s v).getD v 0)
            rw [bs12_step K _ v h2] at this
            exact this
          have HB : Hid (∀ y, Below g w (wr.setCell ⟨g, v + 1, none⟩ y)) := by
            intro y
            exact hb3.trans ((Kp.set (S := fun j => j = g) rfl y).below (fun j h => by omega) (by have := hb3.size; have := HG.out; omega))
          have bd1 : 0 ≤ (bs12 K s v).getD (v + 1) 0 ∧ (bs12 K s v).getD (v + 1) 0 ≤ 16777216 := by
            rw [bs12_get K _ v (v + 1) (by omega), if_neg (by omega)]
            have h2 := List.countP_le_length (p := fun z => decide (z + 1 = ((v + 1 : Nat) : Int))) (l := s)
            have := hn.out
            omega
          have bd2 : 0 ≤ (bs12 K s v).getD v 0 ∧ (bs12 K s v).getD v 0 ≤ 16777216 := by
            rw [bs12_get K _ v v (by omega), if_pos (Nat.le_refl v)]
            have h2 := cnt12_le s (v : Int)
            have := hn.out
            omega
          generalize (bs12 K s v).getD (v + 1) 0 = y at *
          generalize (bs12 K s v).getD v 0 = z at *
          clear hr
          go_wp2
          go_region
          go_wp2
          go_roundw
          case rel => exact ⟨v + 1, by omega, by go_num, HS.out.drew, (HB.out _).drew⟩
          case measure => simp [intOf]; omega
        · have h2i : ¬ (v : Int) < (K : Int) := by omega
          obtain rfl : v = K := by omega
          go_wp2
          go_ret
          refine ⟨rfl, ?_, hb3⟩
          rw [← bs12_all]
          exact hr
end Go.Proofs.Ytkpfailmmcelcaa

namespace Go.Proofs.Ytkpfailmmcelcaa
open Go.RowKit
set_option linter.unusedVariables false

/-! The landed newList. -/
def mx12 (s : List Int) : Nat := s.foldl (fun k v => max k (v + 1).toNat) 0
theorem mx12_snoc (s : List Int) (v : Int) : mx12 (s ++ [v]) = max (mx12 s) (v + 1).toNat := by simp [mx12, List.foldl_append]
theorem mx12_le_aux : ∀ (s : List Int) (k m : Nat), k ≤ m → (∀ z ∈ s, z < (m : Int)) → s.foldl (fun k v => max k (v + 1).toNat) k ≤ m
  | [], k, m, h, _ => h
  | x :: s, k, m, h, hs => mx12_le_aux s _ m (by have := hs x (by simp); show max k (x + 1).toNat ≤ m; omega) (fun z hz => hs z (by simp [hz]))
theorem mx12_le {s : List Int} {m : Nat} (hs : ∀ z ∈ s, z < (m : Int)) : mx12 s ≤ m := mx12_le_aux s 0 m (Nat.zero_le _) hs
theorem mx12_ge_aux : ∀ (s : List Int) (k : Nat), k ≤ s.foldl (fun k v => max k (v + 1).toNat) k ∧ ∀ z ∈ s, z < ((s.foldl (fun k v => max k (v + 1).toNat) k : Nat) : Int)
  | [], k => ⟨Nat.le_refl _, by simp⟩
  | x :: s, k => by
    obtain ⟨h1, h2⟩ := mx12_ge_aux s (max k (x + 1).toNat)
    refine ⟨by simp only [List.foldl_cons]; omega, fun z hz => ?_⟩
    rw [List.mem_cons] at hz
    rcases hz with rfl | hz
    · simp only [List.foldl_cons]; omega
    · exact h2 z hz
theorem mx12_gt {s : List Int} : ∀ z ∈ s, z < (mx12 s : Int) := (mx12_ge_aux s 0).2
/-- What a list of numbers must be. -/
structure Wf12 (s : List Int) (n K : Nat) : Prop where
  len : s.length = n
  n24 : n ≤ 16777216
  K25 : K ≤ 33554432
  val : ∀ i, i < n → 0 ≤ s.getD i 0 ∧ s.getD i 0 < (K : Int)
theorem Wf12.mem {s : List Int} {n K : Nat} (h : Wf12 s n K) : ∀ z ∈ s, 0 ≤ z ∧ z < (K : Int) := by
  intro z hz
  obtain ⟨i, hi, rfl⟩ := List.mem_iff_getElem.1 hz
  have := h.val i (by rw [← h.len]; exact hi)
  simpa [List.getD, hi] using this
theorem Wf12.mx {s : List Int} {n K : Nat} (h : Wf12 s n K) : Wf12 s n (mx12 s) :=
  ⟨h.len, h.n24, by have := mx12_le (s := s) (m := K) (fun z hz => (h.mem z hz).2); have := h.K25; omega, fun i hi => ⟨(h.val i hi).1, by
    have : s.getD i 0 ∈ s := by
      have hl : i < s.length := by rw [h.len]; exact hi
      have : s.getD i 0 = s[i] := by simp [List.getD, hl]
      rw [this]; exact List.getElem_mem hl
    exact mx12_gt _ this⟩⟩
/-- A list in block b. -/
structure Li12 (w : World) (b : Nat) (a : Option Addr) (n cap : Nat) (s : List Int) (K gs gf gn : Nat) (nx : List Int) : Prop where
  hp : w.heap[b]? = some (.cells #[.slice a n cap, .slice (some ⟨gs, 0, none⟩) n n, .slice (some ⟨gf, 0, none⟩) (K + 1) (K + 1), .slice (some ⟨gn, 0, none⟩) K K] 90 (0, 0))
  seg : SegZ w a s
  sm : Rb12 w gs (typ12 s)
  fr : Rz12 w gf (bnd12 K s)
  nr : Rz12 w gn nx
  nxl : nx.length = K
  d1 : b ≠ gn
  d2 : gs ≠ gn
  d3 : gf ≠ gn
  d4 : ∀ x off, a = some ⟨x, off, none⟩ → 0 < s.length → x ≠ gn
theorem Li12.of {w : World} {a : Option Addr} {n cap : Nat} {s : List Int} {K gs gf gn : Nat} {nx : List Int} (hs : SegZ w a s) (h1 : Rb12 w gs (typ12 s)) (h2 : Rz12 w gf (bnd12 K s)) (h3 : Rz12 w gn nx) (hl : nx.length = K) (d2 : gs ≠ gn) (d3 : gf ≠ gn) (d4 : ∀ x off, a = some ⟨x, off, none⟩ → 0 < s.length → x ≠ gn) :
    Li12 (w.alloc (.cells #[.slice a n cap, .slice (some ⟨gs, 0, none⟩) n n, .slice (some ⟨gf, 0, none⟩) (K + 1) (K + 1), .slice (some ⟨gn, 0, none⟩) K K] 90)) w.heap.size a n cap s K gs gf gn nx :=
  have hb : Below w.heap.size w (w.alloc (.cells #[.slice a n cap, .slice (some ⟨gs, 0, none⟩) n n, .slice (some ⟨gf, 0, none⟩) (K + 1) (K + 1), .slice (some ⟨gn, 0, none⟩) K K] 90)) := (Below.refl _ _).alloc (Nat.le_refl _) _
  ⟨heap_alloc_new w _, hs.alloc _, h1.old hb, h2.old hb, h3.old hb, hl, by have := h3.lt; omega, d2, d3, d4⟩
set_option maxRecDepth 100000 in
set_option maxHeartbeats 4000000 in
theorem pnl12 (a : Option Addr) (s : List Int) (n cap M : Nat) (w : World) (hs : SegZ w a s) (hW : Wf12 s n M) :
    Calls Try.prog 53 #[.slice a n cap] w fun e w' => ∃ b gs gf gn, e = .returned (.pointer (some ⟨b, 0, none⟩)) ∧ Li12 w' b a n cap s (mx12 s) gs gf gn (List.replicate (mx12 s) 0) ∧ w.heap.size ≤ gn ∧ Below w.heap.size w w' := by
  have hn : Hid (s.length = n) := hW.len
  have hb := hW.n24
  have HV := hW.mx
  have hK := HV.K25
  have HT : Hid (∀ w', Below w.heap.size w w' → Calls Try.prog 57 #[.slice a n cap] w' fun e w2 => e = .returned (.slice (some ⟨w'.heap.size, 0, none⟩) n n) ∧ Rb12 w2 w'.heap.size (typ12 s) ∧ Below w'.heap.size w' w2) :=
    fun w' h => ptyp12 a s n cap w' (hs.old h) hn (by omega)
  have HBN : Hid (∀ w', Below w.heap.size w w' → Calls Try.prog 58 #[.int .i64 (mx12 s : Int), .slice a n cap] w' fun e w2 => e = .returned (.slice (some ⟨w'.heap.size, 0, none⟩) (mx12 s + 1) (mx12 s + 1)) ∧ Rz12 w2 w'.heap.size (bnd12 (mx12 s) s) ∧ Below w'.heap.size w' w2) :=
    fun w' h => pbnd12 (mx12 s) a s n cap w' (hs.old h) hn hb hK HV.val
  have HM := run_make_i12 (mx12 s) (by omega)
  have HL : Hid (∀ i, i < n → mx12 (s.take (i + 1)) = max (mx12 (s.take i)) (s.getD i 0 + 1).toNat) := by
    intro i hi
    rw [take_snocZ (by rw [hn.out]; exact hi), mx12_snoc]
  have HE : Hid (mx12 (s.take n) = mx12 s) := by show _ = _; rw [List.take_of_length_le (by rw [hn.out]; omega)]
  have HK : Hid (∀ i, mx12 (s.take i) ≤ 33554432) := by
    intro i
    have := mx12_le (s := s.take i) (m := M) (fun z hz => (hW.mem z (List.mem_of_mem_take hz)).2)
    have := hW.K25
    omega
  have HVAL : Hid (∀ i, i < n → 0 ≤ s.getD i 0 ∧ s.getD i 0 < 33554432) := fun i hi => by have := hW.val i hi; have := hW.K25; omega
  have HD4 : Hid (∀ x off, a = some ⟨x, off, none⟩ → 0 < s.length → x < w.heap.size) := hs.lt
  clear hW HV
  go_enter Try.func53, Try.ntmps53
  go_wp2
  go_loopw [3, 8] (fun tk ti wr => ∃ i k : Nat, i ≤ n ∧ ti = .int .i64 i ∧ tk = .int .i64 k ∧ Hid (k = mx12 (s.take i)) ∧ wr = w) (fun _ ti _ => n - (intOf ti).toNat)
  case atStart => exact ⟨0, 0, Nat.zero_le _, rfl, rfl, (by simp [mx12] : _ = _), rfl⟩
  case round =>
    obtain ⟨i, k, hi, rfl, rfl, HI, rfl⟩ := hrel
    by_cases h1 : i < n
    · have h1i : (i : Int) < (n : Int) := by omega
      obtain ⟨bb, off, rfl, c1⟩ := hs.at_ i (by rw [hn.out]; exact h1)
      have hv := HVAL.out i h1
      have HI2 := HL.out i h1
      have HI3 : Hid (mx12 (s.take (i + 1)) = max k (s.getD i 0 + 1).toNat) := by show _ = _; rw [HI2, HI.out]
      have hk2 : (k : Int) ≤ 33554432 := by have := HK.out i; have := HI.out; omega
      clear HI2 HM
      generalize s.getD i 0 = v at *
      by_cases hkv : (k : Int) < v + 1
      · go_wp2
        go_roundw
        case rel => exact ⟨i + 1, (v + 1).toNat, by omega, by go_num, by go_num, (by rw [HI3.out]; omega : _ = _), trivial⟩
        case measure => simp [intOf]; omega
      · go_wp2
        go_roundw
        case rel => exact ⟨i + 1, k, by omega, by go_num, by go_num, (by rw [HI3.out]; omega : _ = _), trivial⟩
        case measure => simp [intOf]; omega
    · have h1i : ¬ (i : Int) < (n : Int) := by omega
      obtain rfl : i = n := by omega
      have HI2 := HI.out
      rw [HE.out] at HI2
      subst HI2
      generalize hKe : mx12 s = K at *
      have HKE : Hid (mx12 s = K) := hKe
      clear hKe
      have Bc : Below wr.heap.size wr wr.drew := (Below.refl _ _).drew
      clear HI HK HL HE
      go_wp2_with fail
      go_region_with (first
        | (go_at_call 57; refine (HT.out _ (by first | exact Bc | exact Bc.alloc Bc.size _ | exact BcB | exact BcB.alloc BcB.size _)).mono ?_; rintro e wT ⟨rfl, RT, BT⟩; have BcT : Below wr.heap.size wr wT := (by first | exact Bc.trans (BT.mono Bc.size) | exact (Bc.alloc Bc.size _).trans (BT.mono (Bc.alloc Bc.size _).size) | exact BcB.trans (BT.mono BcB.size) | exact (BcB.alloc BcB.size _).trans (BT.mono (BcB.alloc BcB.size _).size)))
        | (go_at_call 58; refine (HBN.out _ (by first | exact Bc | exact Bc.alloc Bc.size _ | exact BcT | exact BcT.alloc BcT.size _)).mono ?_; rintro e wB ⟨rfl, RB, BB⟩; have BcB : Below wr.heap.size wr wB := (by first | exact Bc.trans (BB.mono Bc.size) | exact (Bc.alloc Bc.size _).trans (BB.mono (Bc.alloc Bc.size _).size) | exact BcT.trans (BB.mono BcT.size) | exact (BcT.alloc BcT.size _).trans (BB.mono (BcT.alloc BcT.size _).size))))
      · have q1 : Below wB.heap.size wB (wB.alloc (.cells (vi12 (List.replicate K 0)) 3)) := (Below.refl _ _).alloc (Nat.le_refl _) _
        have e0 : wr.drew.heap.size = wr.heap.size := rfl
        have l1 := RT.lt
        have l2 := RB.lt
        have l3 := BT.size
        have l4 := BB.size
        have HF := Li12.of (n := i) (cap := cap) ((hs.old BcB).alloc _) ((RT.old BB).old q1) (RB.old q1) (Rz12.new wB (List.replicate K 0)) (by simp) (by omega) (by omega) (fun x off h1 h2 => by have := HD4.out x off h1 h2; omega)
        have HB : Hid (Below wr.heap.size wr (wB.alloc (.cells (vi12 (List.replicate K 0)) 3)) ∧ wr.heap.size ≤ wB.heap.size) := ⟨BcB.trans (q1.mono BcB.size), BcB.size⟩
        have e2 : (wB.alloc (.cells (vi12 (List.replicate K 0)) 3)).heap.size = wB.heap.size + 1 := by simp
        rw [e0, e2] at HF
        clear q1 RT RB BT BB BcT BcB l1 l2 l3 l4 e2
        go_wp2
        go_ret
        rw [HKE.out]
        exact ⟨_, _, _, _, rfl, HF, HB.out.2, HB.out.1.alloc HB.out.1.size _⟩
      · have q1 : Below wT.heap.size wT (wT.alloc (.cells (vi12 (List.replicate K 0)) 3)) := (Below.refl _ _).alloc (Nat.le_refl _) _
        have e0 : wr.drew.heap.size = wr.heap.size := rfl
        have e1 : (wT.alloc (.cells (vi12 (List.replicate K 0)) 3)).heap.size = wT.heap.size + 1 := by simp
        have l1 := RT.lt
        have l2 := RB.lt
        have l3 := BT.size
        have l4 := BB.size
        have HF := Li12.of (n := i) (cap := cap) (hs.old BcB) ((RT.old q1).old BB) RB ((Rz12.new wT (List.replicate K 0)).old BB) (by simp) (by omega) (by omega) (fun x off h1 h2 => by have := HD4.out x off h1 h2; omega)
        have HB : Hid (Below wr.heap.size wr wB ∧ wr.heap.size ≤ wT.heap.size) := ⟨BcB, BcT.size⟩
        rw [e0, e1] at HF
        clear q1 RT RB BT BB BcT BcB l1 l2 l3 l4 e1
        go_wp2
        go_ret
        rw [HKE.out]
        exact ⟨_, _, _, _, rfl, HF, HB.out.2, HB.out.1.alloc HB.out.1.size _⟩
      · have q1 : Below wr.heap.size wr (wr.alloc (.cells (vi12 (List.replicate K 0)) 3)) := (Below.refl _ _).alloc (Nat.le_refl _) _
        have e1 : (wr.alloc (.cells (vi12 (List.replicate K 0)) 3)).drew.heap.size = wr.heap.size + 1 := by show (wr.alloc _).heap.size = _; simp
        have l1 := RT.lt
        have l2 := RB.lt
        have l3 := BT.size
        have l4 := BB.size
        have HF := Li12.of (n := i) (cap := cap) (hs.old BcB) (RT.old BB) RB (((Rz12.new wr (List.replicate K 0)).drew.old BT).old BB) (by simp) (by omega) (by omega) (fun x off h1 h2 => by have := HD4.out x off h1 h2; omega)
        have HB : Hid (Below wr.heap.size wr wB) := BcB
        rw [e1] at HF
        clear q1 RT RB BT BB BcT BcB l1 l2 l3 l4 e1
        go_wp2
        go_ret
        rw [HKE.out]
        exact ⟨_, _, _, _, rfl, HF, Nat.le_refl _, HB.out.alloc HB.out.size _⟩
end Go.Proofs.Ytkpfailmmcelcaa
