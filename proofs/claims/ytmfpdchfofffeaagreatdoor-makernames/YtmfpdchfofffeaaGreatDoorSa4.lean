import Derived.Test.YtmfpdchfofffeaaGreatDoorSa3
namespace Go.Proofs.YtmfpdchfofffeaaGreatDoor
open Go.RowKit
set_option linter.unusedVariables false
def vals12 (k : Int) (s : List Int) : Bool := s.all (fun v => decide (0 ≤ v) && decide (v < k))
def rv12 (k : Int) (s : List Int) : Int := if vals12 k s then 0 else 121
def ref12 (k : Int) (s : List Int) : Int := if k < 0 ∨ 33554432 < k then 1 else if 16777216 < s.length then 120 else rv12 k s
theorem vals12_take (k : Int) (s : List Int) (i : Nat) (h : i < s.length) : vals12 k (s.take (i + 1)) = (vals12 k (s.take i) && (decide (0 ≤ s.getD i 0) && decide (s.getD i 0 < k))) := by
  unfold vals12
  rw [take_snocZ h, List.all_append]
  simp
theorem vals12_no {k : Int} {s : List Int} {i : Nat} (h : i < s.length) (hn : ¬ (0 ≤ s.getD i 0 ∧ s.getD i 0 < k)) : vals12 k s = false := by
  unfold vals12
  rw [List.all_eq_false]
  refine ⟨s[i], List.getElem_mem h, ?_⟩
  have : s.getD i 0 = s[i] := by simp [List.getD, h]
  rw [this] at hn
  simpa [Bool.and_eq_true] using hn
set_option maxRecDepth 100000 in
set_option maxHeartbeats 1000000 in
theorem pref12 (k : Int) (a : Option Addr) (s : List Int) (n cap : Nat) (w : World) (hs : SegZ w a s) (hn : Hid (s.length = n)) (hb : n ≤ 9223372036854775807) (hk : -9223372036854775808 ≤ k ∧ k ≤ 9223372036854775807) :
    Calls Tryz.prog 121 #[.int .i64 k, .slice a n cap] w fun e w' => e = .returned (.int .i64 (ref12 k s)) ∧ Below w.heap.size w w' := by
  have HR : Hid (ref12 k s = if k < 0 ∨ 33554432 < k then 1 else if 16777216 < n then 120 else rv12 k s) := by show _ = _; unfold ref12; rw [hn.out]
  rw [HR.out]
  by_cases k1 : k < 0
  · rw [if_pos (Or.inl k1)]
    go_enter Tryz.func121, Tryz.ntmps121
    go_wp2
    go_ret
    exact ⟨rfl, Below.refl _ _⟩
  by_cases k2 : 33554432 < k
  · rw [if_pos (Or.inr k2)]
    go_enter Tryz.func121, Tryz.ntmps121
    go_wp2
    go_ret
    exact ⟨rfl, Below.refl _ _⟩
  rw [if_neg (by omega)]
  by_cases k3 : 16777216 < n
  · rw [if_pos k3]
    have k3i : (16777216 : Int) < (n : Int) := by omega
    go_enter Tryz.func121, Tryz.ntmps121
    go_wp2
    go_ret
    exact ⟨rfl, Below.refl _ _⟩
  rw [if_neg k3]
  have k3i : ¬ (16777216 : Int) < (n : Int) := by omega
  go_enter Tryz.func121, Tryz.ntmps121
  go_wp2
  go_loopw [18] (fun ti wr => ∃ i : Nat, i ≤ n ∧ ti = .int .i64 i ∧ Hid (vals12 k (s.take i) = true) ∧ Below w.heap.size w wr) (fun ti _ => n - (intOf ti).toNat)
  case atStart => exact ⟨0, Nat.zero_le _, rfl, (by simp [vals12] : _ = _), Below.refl _ _⟩
  case round =>
    obtain ⟨i, hi, rfl, HV, hb2⟩ := hrel
    by_cases h1 : i < n
    · have h1i : (i : Int) < (n : Int) := by omega
      have hs2 := hs.old hb2
      obtain ⟨b, off, rfl, c1⟩ := hs2.at_ i (by rw [hn.out]; exact h1)
      have bd := hs2.bd i
      have HS : Hid (vals12 k (s.take (i + 1)) = (vals12 k (s.take i) && (decide (0 ≤ s.getD i 0) && decide (s.getD i 0 < k)))) := vals12_take k s i (by rw [hn.out]; exact h1)
      have HN : Hid (¬ (0 ≤ s.getD i 0 ∧ s.getD i 0 < k) → vals12 k s = false) := vals12_no (by rw [hn.out]; exact h1)
      clear hs2
      generalize s.getD i 0 = v at *
      by_cases v1 : v < 0
      · go_wp2
        go_ret
        exact ⟨by unfold rv12; rw [HN.out (by omega)]; rfl, hb2⟩
      · by_cases v2 : k ≤ v
        · go_wp2
          go_ret
          exact ⟨by unfold rv12; rw [HN.out (by omega)]; rfl, hb2⟩
        · have v3 : 0 ≤ v := by omega
          have v4 : v < k := by omega
          go_wp2
          go_roundw
          case rel => exact ⟨i + 1, by omega, by go_num, (by rw [HS.out, HV.out]; simp; omega : _ = _), hb2⟩
          case measure => simp [intOf]; omega
    · have h1i : ¬ (i : Int) < (n : Int) := by omega
      go_wp2
      go_ret
      refine ⟨?_, hb2⟩
      have e : s.take i = s := List.take_of_length_le (by rw [hn.out]; omega)
      have := HV.out
      rw [e] at this
      unfold rv12
      rw [this]; rfl
def cnt12 (s : List Int) (v : Int) : Nat := s.countP (fun x => decide (x < v))
/-- The counts of the numbers themselves, as far as the list is read. -/
def bc12 (K : Nat) (l : List Int) : List Int := (List.range (K + 1)).map (fun v : Nat => ((l.countP (fun x => decide (x + 1 = (v : Int))) : Nat) : Int))
/-- The sums, as far as the counts are joined. -/
def bs12 (K : Nat) (s : List Int) (v : Nat) : List Int := (List.range (K + 1)).map (fun u : Nat => if u ≤ v then ((cnt12 s (u : Int) : Nat) : Int) else ((s.countP (fun x => decide (x + 1 = (u : Int))) : Nat) : Int))
def bnd12 (K : Nat) (s : List Int) : List Int := (List.range (K + 1)).map (fun u : Nat => ((cnt12 s (u : Int) : Nat) : Int))
theorem bc12_len (K : Nat) (l : List Int) : (bc12 K l).length = K + 1 := by simp [bc12]
theorem bs12_len (K : Nat) (l : List Int) (v : Nat) : (bs12 K l v).length = K + 1 := by simp [bs12]
theorem bnd12_len (K : Nat) (l : List Int) : (bnd12 K l).length = K + 1 := by simp [bnd12]
theorem bc12_get (K : Nat) (l : List Int) (v : Nat) (h : v < K + 1) : (bc12 K l).getD v 0 = ((l.countP (fun x => decide (x + 1 = (v : Int))) : Nat) : Int) := by simp [bc12, List.getD, h]
theorem bs12_get (K : Nat) (s : List Int) (v u : Nat) (h : u < K + 1) : (bs12 K s v).getD u 0 = if u ≤ v then ((cnt12 s (u : Int) : Nat) : Int) else ((s.countP (fun x => decide (x + 1 = (u : Int))) : Nat) : Int) := by simp [bs12, List.getD, h]
theorem bnd12_get (K : Nat) (s : List Int) (u : Nat) (h : u < K + 1) : (bnd12 K s).getD u 0 = ((cnt12 s (u : Int) : Nat) : Int) := by simp [bnd12, List.getD, h]
theorem bc12_nil (K : Nat) : bc12 K [] = List.replicate (K + 1) 0 := by
  refine ext12 (d := 0) (by simp [bc12]) fun i hi => ?_
  rw [bc12_len] at hi
  rw [bc12_get K [] i hi]
  simp [List.getD, hi]
theorem bc12_snoc (K : Nat) (l : List Int) (x : Nat) (hx : x < K) : (bc12 K l).set (x + 1) ((bc12 K l).getD (x + 1) 0 + 1) = bc12 K (l ++ [(x : Int)]) := by
  refine ext12 (d := 0) (by simp [bc12]) fun i hi => ?_
  rw [List.length_set, bc12_len] at hi
  rw [getD_set12 _ _ _ _ (by rw [bc12_len]; omega), bc12_get K _ i hi, bc12_get K _ (x + 1) (by omega), bc12_get K _ i hi, List.countP_append]
  by_cases e : i = x + 1
  · subst e
    rw [if_pos rfl]
    simp
  · rw [if_neg e]
    have : ¬ ((x : Int) + 1 = (i : Int)) := by omega
    simp [this]
theorem cnt12_succ (s : List Int) (v : Int) : cnt12 s (v + 1) = cnt12 s v + s.countP (fun x => decide (x + 1 = v + 1)) := by
  unfold cnt12
  induction s with
  | nil => simp
  | cons x s ih =>
    simp only [List.countP_cons, ih]
    by_cases h1 : x < v
    · have h2 : x < v + 1 := by omega
      have h3 : ¬ x + 1 = v + 1 := by omega
      simp [h1, h2, h3]; omega
    · by_cases h4 : x = v
      · subst h4
        have h2 : x < x + 1 := by omega
        simp [h2]; omega
      · have h2 : ¬ x < v + 1 := by omega
        have h3 : ¬ x + 1 = v + 1 := by omega
        simp [h1, h2, h3]
theorem cnt12_zero {s : List Int} (h : ∀ z ∈ s, 0 ≤ z) : cnt12 s 0 = 0 := by
  unfold cnt12
  rw [List.countP_eq_zero]
  intro a ha
  have := h a ha
  simp; omega
theorem bs12_zero (K : Nat) {s : List Int} (h : ∀ z ∈ s, 0 ≤ z) : bc12 K s = bs12 K s 0 := by
  refine ext12 (d := 0) (by simp [bc12, bs12]) fun i hi => ?_
  rw [bc12_len] at hi
  rw [bc12_get K s i hi, bs12_get K s 0 i hi]
  by_cases e : i ≤ 0
  · obtain rfl : i = 0 := by omega
    rw [if_pos (Nat.le_refl 0)]
    have h1 : cnt12 s ((0 : Nat) : Int) = 0 := cnt12_zero h
    have h2 : s.countP (fun x => decide (x + 1 = ((0 : Nat) : Int))) = 0 := by
      rw [List.countP_eq_zero]
      intro a ha
      have := h a ha
      simp; omega
    rw [h1, h2]
  · rw [if_neg e]
theorem bs12_step (K : Nat) (s : List Int) (v : Nat) (hv : v < K) : (bs12 K s v).set (v + 1) ((bs12 K s v).getD (v + 1) 0 + (bs12 K s v).getD v 0) = bs12 K s (v + 1) := by
  refine ext12 (d := 0) (by simp [bs12]) fun i hi => ?_
  rw [List.length_set, bs12_len] at hi
  rw [getD_set12 _ _ _ _ (by rw [bs12_len]; omega), bs12_get K s v (v + 1) (by omega), bs12_get K s v v (by omega), bs12_get K s (v + 1) i hi, bs12_get K s v i hi, if_neg (show ¬ v + 1 ≤ v by omega), if_pos (Nat.le_refl v)]
  by_cases e : i = v + 1
  · subst e
    rw [if_pos rfl, if_pos (Nat.le_refl _)]
    have := cnt12_succ s (v : Int)
    have e2 : ((v + 1 : Nat) : Int) = (v : Int) + 1 := by omega
    rw [e2, this]
    omega
  · rw [if_neg e]
    by_cases h : i ≤ v
    · rw [if_pos h, if_pos (by omega)]
    · rw [if_neg h, if_neg (by omega)]
theorem bs12_all (K : Nat) (s : List Int) : bs12 K s K = bnd12 K s := by
  refine ext12 (d := 0) (by simp [bs12, bnd12]) fun i hi => ?_
  rw [bs12_len] at hi
  rw [bs12_get K s K i hi, bnd12_get K s i hi, if_pos (by omega)]
theorem cnt12_le (s : List Int) (v : Int) : cnt12 s v ≤ s.length := List.countP_le_length
set_option maxRecDepth 100000 in
set_option maxHeartbeats 2000000 in
theorem pbnd12 (K : Nat) (a : Option Addr) (s : List Int) (n cap : Nat) (w : World) (hs : SegZ w a s) (hn : Hid (s.length = n)) (hb : n ≤ 16777216) (hK : K ≤ 33554432) (hv : ∀ i, i < n → 0 ≤ s.getD i 0 ∧ s.getD i 0 < (K : Int)) :
    Calls Tryz.prog 192 #[.int .i64 (K : Int), .slice a n cap] w fun e w' => e = .returned (.slice (some ⟨w.heap.size, 0, none⟩) (K + 1) (K + 1)) ∧ Rz12 w' w.heap.size (bnd12 K s) ∧ Below w.heap.size w w' := by
  have HM := run_make_i12 (K + 1) (by omega)
  have HNN : Hid (∀ z ∈ s, 0 ≤ z) := by
    intro z hz
    obtain ⟨i, hi, rfl⟩ := List.mem_iff_getElem.1 hz
    have := (hv i (by rw [← hn.out]; exact hi)).1
    simpa [List.getD, hi] using this
  have HZ : Hid (List.replicate (K + 1) (0 : Int) = bc12 K (s.take 0)) := by show _ = _; rw [List.take_zero, bc12_nil]
  have hal : Below w.heap.size w (w.alloc (.cells (vi12 (List.replicate (K + 1) 0)) 3)) := (Below.refl _ _).alloc (Nat.le_refl _) _
  have hr0 := Rz12.new w (List.replicate (K + 1) 0)
  rw [HZ.out] at hal hr0 HM
  generalize hg : w.heap.size = g at *
  generalize hw1 : w.alloc (.cells (vi12 (bc12 K (s.take 0))) 3) = w1 at *
  have HM1 : (Instr.makeSlice 95 (.int .i64 ((K : Int) + 1)) (.int .i64 ((K : Int) + 1))).run Tryz.prog w = .ok (.slice (some ⟨g, 0, none⟩) (K + 1) (K + 1)) w1 := by
    have := HM w
    rw [hg, hw1] at this
    exact this
  have HG : Hid (g ≤ w1.heap.size ∧ w.heap.size = g) := ⟨by have := hal.size; omega, hg⟩
  have KI : (K : Int) ≤ 33554432 := by omega
  clear HM hw1 hg
  go_enter Tryz.func192, Tryz.ntmps192
  go_wp2
  go_loopw [14] (fun ti wr => ∃ i : Nat, i ≤ n ∧ ti = .int .i64 i ∧ Rz12 wr g (bc12 K (s.take i)) ∧ Below g w wr) (fun ti _ => n - (intOf ti).toNat)
  case atStart => exact ⟨0, Nat.zero_le _, rfl, hr0, hal⟩
  case round =>
    obtain ⟨i, hi, rfl, hr, hb2⟩ := hrel
    by_cases h1 : i < n
    · have h1i : (i : Int) < (n : Int) := by omega
      have hs2 : SegZ wr a s := hs.old (by rw [HG.out.2]; exact hb2)
      obtain ⟨b, off, rfl, c1⟩ := hs2.at_ i (by rw [hn.out]; exact h1)
      obtain ⟨x, hx⟩ : ∃ x : Nat, s.getD i 0 = (x : Int) := ⟨(s.getD i 0).toNat, by have := hv i h1; omega⟩
      have hxK : x < K := by have := hv i h1; omega
      rw [hx] at c1
      have c2 := hr.cell (i := x + 1) (by rw [bc12_len]; omega)
      have f2 := hr.free (x + 1)
      have HS : Hid (Rz12 (wr.setCell ⟨g, x + 1, none⟩ (.int .i64 ((bc12 K (s.take i)).getD (x + 1) 0 + 1))) g (bc12 K (s.take (i + 1)))) := by
        have := hr.set (x + 1) ((bc12 K (s.take i)).getD (x + 1) 0 + 1)
        rw [bc12_snoc K _ x hxK, ← hx, ← take_snocZ (by rw [hn.out]; exact h1)] at this
        exact this
      have HB : Hid (∀ y, Below g w (wr.setCell ⟨g, x + 1, none⟩ y)) := by
        intro y
        exact hb2.trans ((Kp.set (S := fun j => j = g) rfl y).below (fun j h => by omega) (by have := hb2.size; have := HG.out; omega))
      have bdc : 0 ≤ (bc12 K (s.take i)).getD (x + 1) 0 ∧ (bc12 K (s.take i)).getD (x + 1) 0 ≤ 16777216 := by
        rw [bc12_get K _ (x + 1) (by omega)]
        have h2 := List.countP_le_length (p := fun z => decide (z + 1 = ((x + 1 : Nat) : Int))) (l := s.take i)
        have h3 := List.length_take_le i s
        omega
      have xK : (x : Int) + 1 < (K : Int) + 1 := by omega
      generalize (bc12 K (s.take i)).getD (x + 1) 0 = y at *
      clear hs2 hr hx
      go_wp2
      go_roundw
      case rel => exact ⟨i + 1, by omega, by go_num, HS.out, HB.out _⟩
      case measure => simp [intOf]; omega
    · have h1i : ¬ (i : Int) < (n : Int) := by omega
      have hr1 : Rz12 wr g (bs12 K s 0) := by
        have e : s.take i = s := List.take_of_length_le (by rw [hn.out]; omega)
        rw [e, bs12_zero K HNN.out] at hr
        exact hr
      clear hr
      go_wp2
      go_loopw [27] (fun ti wr => ∃ v : Nat, v ≤ K ∧ ti = .int .i64 v ∧ Rz12 wr g (bs12 K s v) ∧ Below g w wr) (fun ti _ => K - (intOf ti).toNat)
      case atStart => exact ⟨0, Nat.zero_le _, rfl, hr1, hb2⟩
      case round =>
        obtain ⟨v, hvK, rfl, hr, hb3⟩ := hrel
        by_cases h2 : v < K
        · have h2i : (v : Int) < (K : Int) := by omega
          have h2j : (v : Int) < (K : Int) + 1 := by omega
          have h2k : (v : Int) + 1 < (K : Int) + 1 := by omega
          have c2 := hr.cell (i := v + 1) (by rw [bs12_len]; omega)
          have c3 := hr.cell (i := v) (by rw [bs12_len]; omega)
          have f2 := hr.free (v + 1)
          have HS : Hid (Rz12 (wr.setCell ⟨g, v + 1, none⟩ (.int .i64 ((bs12 K s v).getD (v + 1) 0 + (bs12 K s v).getD v 0))) g (bs12 K s (v + 1))) := by
            have := hr.set (v + 1) ((bs12 K s v).getD (v + 1) 0 + (bs12 K s v).getD v 0)
            rw [bs12_step K _ v h2] at this
            exact this
          have HB : Hid (∀ y, Below g w (wr.setCell ⟨g, v + 1, none⟩ y)) := by
            intro y
            exact hb3.trans ((Kp.set (S := fun j => j = g) rfl y).below (fun j h => by omega) (by have := hb3.size; have := HG.out; omega))
          have bd1 : 0 ≤ (bs12 K s v).getD (v + 1) 0 ∧ (bs12 K s v).getD (v + 1) 0 ≤ 16777216 := by
            rw [bs12_get K _ v (v + 1) (by omega), if_neg (by omega)]
            have h2 := List.countP_le_length (p := fun z => decide (z + 1 = ((v + 1 : Nat) : Int))) (l := s)
            have := hn.out
            omega
          have bd2 : 0 ≤ (bs12 K s v).getD v 0 ∧ (bs12 K s v).getD v 0 ≤ 16777216 := by
            rw [bs12_get K _ v v (by omega), if_pos (Nat.le_refl v)]
            have h2 := cnt12_le s (v : Int)
            have := hn.out
            omega
          generalize (bs12 K s v).getD (v + 1) 0 = y at *
          generalize (bs12 K s v).getD v 0 = z at *
          clear hr
          go_wp2
          go_region
          go_wp2
          go_roundw
          case rel => exact ⟨v + 1, by omega, by go_num, HS.out.drew, (HB.out _).drew⟩
          case measure => simp [intOf]; omega
        · have h2i : ¬ (v : Int) < (K : Int) := by omega
          obtain rfl : v = K := by omega
          go_wp2
          go_ret
          refine ⟨rfl, ?_, hb3⟩
          rw [← bs12_all]
          exact hr
end Go.Proofs.YtmfpdchfofffeaaGreatDoor
