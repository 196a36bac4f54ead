import Derived.Test.YtmfpdchfofffeaaGreatDoorPb
import Derived.Deep.RegionWith
import Derived.Deep.RegionHeld3
import Derived.Laws.CopyOwn
import Derived.Laws.IdiomCopy
namespace Go.Proofs.YtmfpdchfofffeaaGreatDoor
open Go.RowKit
set_option linter.unusedVariables false
def tl12 (s : List Int) (k : Nat) : List Bool := (List.range s.length).map (fun j => decide (s.length ≤ j + 1 + k) && sm12 s j)
theorem tl12_len (s : List Int) (k : Nat) : (tl12 s k).length = s.length := by simp [tl12]
theorem tl12_get (s : List Int) (k j : Nat) (h : j < s.length) : (tl12 s k).getD j false = (decide (s.length ≤ j + 1 + k) && sm12 s j) := by simp [tl12, List.getD, h]
theorem tl12_zero (s : List Int) : tl12 s 0 = List.replicate s.length false := by
  refine ext12 (d := false) (by simp [tl12]) fun i hi => ?_
  rw [tl12_len] at hi
  rw [tl12_get s 0 i hi]
  by_cases h : s.length ≤ i + 1 + 0
  · rw [(ty12 s).last i (by omega)]
    simp [List.getD, hi]
  · simp [List.getD, hi, h]
theorem tl12_all (s : List Int) (k : Nat) (h : s.length ≤ k + 1) : tl12 s k = typ12 s := by
  refine ext12 (d := false) (by simp [tl12, typ12]) fun i hi => ?_
  rw [tl12_len] at hi
  rw [tl12_get s k i hi, typ12_get]
  simp
  intro h2; omega
theorem tl12_set (s : List Int) (k i : Nat) (h : s.length = i + 2 + k) : (tl12 s k).set i (sm12 s i) = tl12 s (k + 1) := by
  refine ext12 (d := false) (by simp [tl12]) fun j hj => ?_
  rw [List.length_set, tl12_len] at hj
  rw [getD_set12 _ _ _ _ (by rw [tl12_len]; omega), tl12_get s k j hj, tl12_get s (k + 1) j hj]
  by_cases e : j = i
  · subst e
    rw [if_pos rfl]
    have : s.length ≤ j + 1 + (k + 1) := by omega
    simp [this]
  · rw [if_neg e]
    by_cases h2 : s.length ≤ j + 1 + k
    · have : s.length ≤ j + 1 + (k + 1) := by omega
      simp [h2, this]
    · have : ¬ s.length ≤ j + 1 + (k + 1) := by omega
      simp [h2, this]
set_option maxRecDepth 100000 in
set_option maxHeartbeats 1000000 in
theorem ptyp12 (a : Option Addr) (s : List Int) (n cap : Nat) (w : World) (hs : SegZ w a s) (hn : Hid (s.length = n)) (hb : n ≤ 140737488355328) :
    Calls Tryz.prog 191 #[.slice a n cap] w fun e w' => e = .returned (.slice (some ⟨w.heap.size, 0, none⟩) n n) ∧ Rb12 w' w.heap.size (typ12 s) ∧ Below w.heap.size w w' := by
  have HM := run_make_b12 n hb
  have HA : Hid (typ12 s = tl12 s (n - 1)) := (tl12_all s (n - 1) (by rw [hn.out]; omega)).symm
  have HZ : Hid (List.replicate n false = tl12 s 0) := by show _ = _; rw [tl12_zero, hn.out]
  have hal : Below w.heap.size w (w.alloc (.cells (vb12 (List.replicate n false)) 4)) := (Below.refl _ _).alloc (Nat.le_refl _) _
  have hr0 := Rb12.new w (List.replicate n false)
  rw [HZ.out] at hal hr0 HM
  generalize hg : w.heap.size = g at *
  generalize hw1 : w.alloc (.cells (vb12 (tl12 s 0)) 4) = w1 at *
  have HM1 : (Instr.makeSlice 281 (.int .i64 (n : Int)) (.int .i64 (n : Int))).run Tryz.prog w = .ok (.slice (some ⟨g, 0, none⟩) n n) w1 := by rw [HM w, hg, hw1]
  have HG : Hid (g ≤ w1.heap.size ∧ w.heap.size = g) := ⟨by have := hal.size; omega, hg⟩
  clear HM hw1 hg
  go_enter Tryz.func191, Tryz.ntmps191
  go_wp2
  go_loopw [12] (fun ti wr => ∃ k : Nat, (k = 0 ∨ k + 1 ≤ n) ∧ ti = .int .i64 k ∧ Rb12 wr g (tl12 s k) ∧ Below g w wr) (fun ti _ => n - (intOf ti).toNat)
  case atStart => exact ⟨0, Or.inl rfl, rfl, hr0, hal⟩
  case round =>
    obtain ⟨k, hk, rfl, hr, hb2⟩ := hrel
    by_cases h1 : k + 1 < n
    · have h1i : (k : Int) < (n : Int) - 1 := by omega
      obtain ⟨i, hi⟩ : ∃ i, n = i + 2 + k := ⟨n - 2 - k, by omega⟩
      have hsg : SegZ wr a s := hs.old (by rw [HG.out.2]; exact hb2)
      obtain ⟨b, off, rfl, c1⟩ := hsg.at_ i (by rw [hn.out]; omega)
      have c2 : wr.cell? ⟨b, off + (i + 1), none⟩ = some (.int .i64 (s.getD (i + 1) 0)) := by
        obtain ⟨b', off', ha, c⟩ := hsg.at_ (i + 1) (by rw [hn.out]; omega)
        cases ha
        exact c
      have bd1 := hsg.bd i
      have bd2 := hsg.bd (i + 1)
      have c3 : wr.cell? ⟨g, i + 1, none⟩ = some (.bool (sm12 s (i + 1))) := by
        rw [hr.cell (by rw [tl12_len, hn.out]; omega), tl12_get s k (i + 1) (by rw [hn.out]; omega)]
        have : s.length ≤ i + 1 + 1 + k := by rw [hn.out]; omega
        simp [this]
      have c4 : wr.cell? ⟨g, i, none⟩ = some (.bool ((tl12 s k).getD i false)) := hr.cell (by rw [tl12_len, hn.out]; omega)
      have f4 := hr.free i
      have HR : Hid (sm12 s i = (decide (s.getD i 0 < s.getD (i + 1) 0) || (decide (s.getD i 0 = s.getD (i + 1) 0) && sm12 s (i + 1)))) := (ty12 s).rc i (by rw [hn.out]; omega)
      have HS : Hid (∀ x, x = sm12 s i → Rb12 (wr.setCell ⟨g, i, none⟩ (.bool x)) g (tl12 s (k + 1))) := by
        intro x hx
        have := hr.set i x
        rw [hx, tl12_set s k i (by rw [hn.out]; omega)] at this
        rw [hx]; exact this
      have HB : Hid (∀ x, Below g w (wr.setCell ⟨g, i, none⟩ x)) := by
        intro x
        exact hb2.trans ((Kp.set (S := fun j => j = g) rfl x).below (fun j h => by omega) (by have := hb2.size; have := HG.out; omega))
      have ei : (n : Int) - 2 - (k : Int) = (i : Int) := by omega
      have in1 : (i : Int) < (n : Int) := by omega
      have in2 : (i : Int) + 1 < (n : Int) := by omega
      have kn : (k : Int) < 140737488355328 := by omega
      generalize s.getD i 0 = x at *
      generalize s.getD (i + 1) 0 = y at *
      generalize sm12 s (i + 1) = z at *
      generalize (tl12 s k).getD i false = u at *
      clear hi hk hr hsg
      rcases Int.lt_trichotomy x y with hx | hx | hx
      · go_wp2
        go_region
        go_wp2
        go_roundw
        case rel => exact ⟨k + 1, Or.inr (by omega), by go_num, (HS.out _ (by rw [HR.out]; simp [hx])).drew, (HB.out _).drew⟩
        case measure => simp [intOf]; omega
      · subst hx
        go_wp2
        go_region
        go_wp2
        go_roundw
        case rel => exact ⟨k + 1, Or.inr (by omega), by go_num, (HS.out _ (by rw [HR.out]; simp)).drew, (HB.out _).drew⟩
        case measure => simp [intOf]; omega
      · have hx1 : ¬ x < y := by omega
        have hx2 : ¬ x = y := by omega
        have hx3 : (x == y) = false := by simp [hx2]
        have hx4 : decide (x = y) = false := by simp [hx2]
        have hx5 : decide (x < y) = false := by simp [hx1]
        clear hx
        go_wp2
        go_region
        go_wp2
        go_roundw
        case rel => exact ⟨k + 1, Or.inr (by omega), by go_num, (HS.out _ (by rw [HR.out]; simp [hx1, hx2])).drew, (HB.out _).drew⟩
        case measure => simp [intOf]; omega
    · have h1i : ¬ (k : Int) < (n : Int) - 1 := by omega
      go_wp2
      go_ret
      refine ⟨rfl, ?_, hb2⟩
      rw [HA.out]
      rcases hk with rfl | hk
      · rw [show n - 1 = 0 by omega]; exact hr
      · rw [show n - 1 = k by omega]; exact hr
end Go.Proofs.YtmfpdchfofffeaaGreatDoor

namespace Go.Proofs.YtmfpdchfofffeaaGreatDoor
open Go.RowKit
set_option linter.unusedVariables false
def nz12 (l : List Nat) : List Int := l.map (fun j : Nat => (j : Int))
theorem nz12_len (l : List Nat) : (nz12 l).length = l.length := by simp [nz12]
theorem nz12_get (l : List Nat) (i d : Nat) (h : i < l.length) : (nz12 l).getD i 0 = ((l.getD i d : Nat) : Int) := by simp [nz12, List.getD, h]
def tu12 (f : Nat → Bool) (k : Nat) : List Nat := (List.range k).filter (tb12 f)
theorem tu12_succ (f : Nat → Bool) (k : Nat) : tu12 f (k + 1) = if tb12 f k = true then tu12 f k ++ [k] else tu12 f k := by
  unfold tu12
  rw [List.range_succ, List.filter_append]
  by_cases h : tb12 f k = true
  · simp [h]
  · simp [h]
theorem tu12_le (f : Nat → Bool) (k : Nat) : (tu12 f k).length ≤ k := by
  have := List.length_filter_le (tb12 f) (List.range k)
  simpa [tu12] using this
/-- A row of numbers that a call has made and answers. -/
def AnsZ12 (w : World) (A : List Int) (e : Ending) (w' : World) : Prop := ∃ ra rc, e = .returned (.slice ra A.length rc) ∧ w'.ownsRow w.heap.size 3 1 (.slice ra A.length rc) A.length (A.map (Value.int .i64)) ∧ Below w.heap.size w w'
set_option maxRecDepth 100000 in
set_option maxHeartbeats 1000000 in
theorem ptns12 (a : Option Addr) (L : List Bool) (n cap : Nat) (w : World) (hs : SegB w a L) (hn : Hid (L.length = n)) (hb : n ≤ 17592186044416) :
    Calls Tryz.prog 197 #[.slice a n cap] w (AnsZ12 w (nz12 (tu12 (gb12 L) n))) := by
  obtain ⟨i0, hi, hz0, hz1, hz2⟩ := info_parts info_i12
  go_enter Tryz.func197, Tryz.ntmps197
  go_wp2
  go_loopw [3, 7] (fun to ti wr => ∃ (k m rc : Nat) (ra : Option Addr), k ≤ n ∧ ti = .int .i64 k ∧ to = .slice ra m rc ∧ Hid ((tu12 (gb12 L) k).length = m) ∧ wr.ownsRow w.heap.size 3 1 (.slice ra m rc) m ((nz12 (tu12 (gb12 L) k)).map (Value.int .i64)) ∧ Below w.heap.size w wr) (fun _ ti _ => n - (intOf ti).toNat)
  case atStart => exact ⟨0, 0, 0, none, Nat.zero_le _, rfl, rfl, (by simp [tu12] : _ = _), World.ownsRow_nil _ _ _ _, Below.refl _ _⟩
  case round =>
    obtain ⟨k, m, rc, ra, hk, rfl, rfl, HM, hown, hb2⟩ := hrel
    have hsz : w.heap.size ≤ wr.heap.size := hb2.size
    have hmk : m ≤ k := by rw [← HM.out]; exact tu12_le _ _
    by_cases h1 : k < n
    · have h1i : (k : Int) < (n : Int) := by omega
      have HC := pist12 a L n cap k wr (hs.old hb2) hn h1 (by omega)
      have HS : Hid (tu12 (gb12 L) (k + 1) = if tb12 (gb12 L) k = true then tu12 (gb12 L) k ++ [k] else tu12 (gb12 L) k) := tu12_succ _ k
      generalize tb12 (gb12 L) k = t at *
      generalize tu12 (gb12 L) k = T at *
      cases t
      · go_wp2_with (first | (go_at_call 226; refine HC.mono ?_; rintro e1 w1 ⟨rfl, B1⟩))
        go_roundw
        case rel => exact ⟨k + 1, m, rc, ra, by omega, by go_num, rfl, (by rw [HS.out]; exact HM.out : _ = _), by rw [HS.out]; exact own_below hown B1, hb2.trans (B1.mono hsz)⟩
        case measure => simp [intOf]; omega
      · have hown2 : ∀ w1, Below wr.heap.size wr w1 → w1.ownsRow w.heap.size 3 1 (.slice ra m rc) m ((nz12 T).map (Value.int .i64)) := fun w1 B1 => own_below hown B1
        go_wp2_with (first
          | (go_at_call 226; refine HC.mono ?_; rintro e1 w1 ⟨rfl, B1⟩; have OX := hown2 w1 B1; have hsz1 : w.heap.size ≤ w1.heap.size := Nat.le_trans hsz B1.size)
          | (at_builtin; refine wpList_ap12 rfl (.tmp 13) (.tmp 15) 95 rfl w.heap.size 3 i0 (.int .i64 0) 8 Tryz.underlying95 hi hz0 hz1 hz2 rfl w1 _ OX rfl rfl (by omega) (by omega) hsz1 ?_; intro ga gc w3 own3 hk3 hat3))
        have B3 : Below w.heap.size w w3 := (hb2.trans (B1.mono hsz)).trans (hk3.below (fun q e => (OX.lt q e).1) hsz1)
        go_roundw
        case rel => exact ⟨k + 1, m + 1, gc, some ⟨ga, 0, none⟩, by omega, by go_num, rfl, (by rw [HS.out]; simp [HM.out] : _ = _), by rw [HS.out]; simpa [nz12] using own3, B3⟩
        case measure => simp [intOf]; omega
    · have h1i : ¬ (k : Int) < (n : Int) := by omega
      obtain rfl : k = n := by omega
      go_wp2
      go_ret
      refine ⟨ra, rc, ?_, ?_, hb2⟩
      · (try rw [nz12_len]); rw [HM.out]; rfl
      · (try rw [nz12_len]); rw [HM.out]; exact hown
end Go.Proofs.YtmfpdchfofffeaaGreatDoor

namespace Go.Proofs.YtmfpdchfofffeaaGreatDoor
open Go.RowKit
set_option linter.unusedVariables false
def vals12 (k : Int) (s : List Int) : Bool := s.all (fun v => decide (0 ≤ v) && decide (v < k))
def rv12 (k : Int) (s : List Int) : Int := if vals12 k s then 0 else 121
def ref12 (k : Int) (s : List Int) : Int := if k < 0 ∨ 33554432 < k then 1 else if 16777216 < s.length then 120 else rv12 k s
theorem vals12_take (k : Int) (s : List Int) (i : Nat) (h : i < s.length) : vals12 k (s.take (i + 1)) = (vals12 k (s.take i) && (decide (0 ≤ s.getD i 0) && decide (s.getD i 0 < k))) := by
  unfold vals12
  rw [take_snocZ h, List.all_append]
  simp
theorem vals12_no {k : Int} {s : List Int} {i : Nat} (h : i < s.length) (hn : ¬ (0 ≤ s.getD i 0 ∧ s.getD i 0 < k)) : vals12 k s = false := by
  unfold vals12
  rw [List.all_eq_false]
  refine ⟨s[i], List.getElem_mem h, ?_⟩
  have : s.getD i 0 = s[i] := by simp [List.getD, h]
  rw [this] at hn
  simpa [Bool.and_eq_true] using hn
set_option maxRecDepth 100000 in
set_option maxHeartbeats 1000000 in
theorem pref12 (k : Int) (a : Option Addr) (s : List Int) (n cap : Nat) (w : World) (hs : SegZ w a s) (hn : Hid (s.length = n)) (hb : n ≤ 9223372036854775807) (hk : -9223372036854775808 ≤ k ∧ k ≤ 9223372036854775807) :
    Calls Tryz.prog 121 #[.int .i64 k, .slice a n cap] w fun e w' => e = .returned (.int .i64 (ref12 k s)) ∧ Below w.heap.size w w' := by
  have HR : Hid (ref12 k s = if k < 0 ∨ 33554432 < k then 1 else if 16777216 < n then 120 else rv12 k s) := by show _ = _; unfold ref12; rw [hn.out]
  rw [HR.out]
  by_cases k1 : k < 0
  · rw [if_pos (Or.inl k1)]
    go_enter Tryz.func121, Tryz.ntmps121
    go_wp2
    go_ret
    exact ⟨rfl, Below.refl _ _⟩
  by_cases k2 : 33554432 < k
  · rw [if_pos (Or.inr k2)]
    go_enter Tryz.func121, Tryz.ntmps121
    go_wp2
    go_ret
    exact ⟨rfl, Below.refl _ _⟩
  rw [if_neg (by omega)]
  by_cases k3 : 16777216 < n
  · rw [if_pos k3]
    have k3i : (16777216 : Int) < (n : Int) := by omega
    go_enter Tryz.func121, Tryz.ntmps121
    go_wp2
    go_ret
    exact ⟨rfl, Below.refl _ _⟩
  rw [if_neg k3]
  have k3i : ¬ (16777216 : Int) < (n : Int) := by omega
  go_enter Tryz.func121, Tryz.ntmps121
  go_wp2
  go_loopw [18] (fun ti wr => ∃ i : Nat, i ≤ n ∧ ti = .int .i64 i ∧ Hid (vals12 k (s.take i) = true) ∧ Below w.heap.size w wr) (fun ti _ => n - (intOf ti).toNat)
  case atStart => exact ⟨0, Nat.zero_le _, rfl, (by simp [vals12] : _ = _), Below.refl _ _⟩
  case round =>
    obtain ⟨i, hi, rfl, HV, hb2⟩ := hrel
    by_cases h1 : i < n
    · have h1i : (i : Int) < (n : Int) := by omega
      have hs2 := hs.old hb2
      obtain ⟨b, off, rfl, c1⟩ := hs2.at_ i (by rw [hn.out]; exact h1)
      have bd := hs2.bd i
      have HS : Hid (vals12 k (s.take (i + 1)) = (vals12 k (s.take i) && (decide (0 ≤ s.getD i 0) && decide (s.getD i 0 < k)))) := vals12_take k s i (by rw [hn.out]; exact h1)
      have HN : Hid (¬ (0 ≤ s.getD i 0 ∧ s.getD i 0 < k) → vals12 k s = false) := vals12_no (by rw [hn.out]; exact h1)
      clear hs2
      generalize s.getD i 0 = v at *
      by_cases v1 : v < 0
      · go_wp2
        go_ret
        exact ⟨by unfold rv12; rw [HN.out (by omega)]; rfl, hb2⟩
      · by_cases v2 : k ≤ v
        · go_wp2
          go_ret
          exact ⟨by unfold rv12; rw [HN.out (by omega)]; rfl, hb2⟩
        · have v3 : 0 ≤ v := by omega
          have v4 : v < k := by omega
          go_wp2
          go_roundw
          case rel => exact ⟨i + 1, by omega, by go_num, (by rw [HS.out, HV.out]; simp; omega : _ = _), hb2⟩
          case measure => simp [intOf]; omega
    · have h1i : ¬ (i : Int) < (n : Int) := by omega
      go_wp2
      go_ret
      refine ⟨?_, hb2⟩
      have e : s.take i = s := List.take_of_length_le (by rw [hn.out]; omega)
      have := HV.out
      rw [e] at this
      unfold rv12
      rw [this]; rfl
def cnt12 (s : List Int) (v : Int) : Nat := s.countP (fun x => decide (x < v))
/-- The counts of the numbers themselves, as far as the list is read. -/
def bc12 (K : Nat) (l : List Int) : List Int := (List.range (K + 1)).map (fun v : Nat => ((l.countP (fun x => decide (x + 1 = (v : Int))) : Nat) : Int))
/-- The sums, as far as the counts are joined. -/
def bs12 (K : Nat) (s : List Int) (v : Nat) : List Int := (List.range (K + 1)).map (fun u : Nat => if u ≤ v then ((cnt12 s (u : Int) : Nat) : Int) else ((s.countP (fun x => decide (x + 1 = (u : Int))) : Nat) : Int))
def bnd12 (K : Nat) (s : List Int) : List Int := (List.range (K + 1)).map (fun u : Nat => ((cnt12 s (u : Int) : Nat) : Int))
theorem bc12_len (K : Nat) (l : List Int) : (bc12 K l).length = K + 1 := by simp [bc12]
theorem bs12_len (K : Nat) (l : List Int) (v : Nat) : (bs12 K l v).length = K + 1 := by simp [bs12]
theorem bnd12_len (K : Nat) (l : List Int) : (bnd12 K l).length = K + 1 := by simp [bnd12]
theorem bc12_get (K : Nat) (l : List Int) (v : Nat) (h : v < K + 1) : (bc12 K l).getD v 0 = ((l.countP (fun x => decide (x + 1 = (v : Int))) : Nat) : Int) := by simp [bc12, List.getD, h]
theorem bs12_get (K : Nat) (s : List Int) (v u : Nat) (h : u < K + 1) : (bs12 K s v).getD u 0 = if u ≤ v then ((cnt12 s (u : Int) : Nat) : Int) else ((s.countP (fun x => decide (x + 1 = (u : Int))) : Nat) : Int) := by simp [bs12, List.getD, h]
theorem bnd12_get (K : Nat) (s : List Int) (u : Nat) (h : u < K + 1) : (bnd12 K s).getD u 0 = ((cnt12 s (u : Int) : Nat) : Int) := by simp [bnd12, List.getD, h]
theorem bc12_nil (K : Nat) : bc12 K [] = List.replicate (K + 1) 0 := by
  refine ext12 (d := 0) (by simp [bc12]) fun i hi => ?_
  rw [bc12_len] at hi
  rw [bc12_get K [] i hi]
  simp [List.getD, hi]
theorem bc12_snoc (K : Nat) (l : List Int) (x : Nat) (hx : x < K) : (bc12 K l).set (x + 1) ((bc12 K l).getD (x + 1) 0 + 1) = bc12 K (l ++ [(x : Int)]) := by
  refine ext12 (d := 0) (by simp [bc12]) fun i hi => ?_
  rw [List.length_set, bc12_len] at hi
  rw [getD_set12 _ _ _ _ (by rw [bc12_len]; omega), bc12_get K _ i hi, bc12_get K _ (x + 1) (by omega), bc12_get K _ i hi, List.countP_append]
  by_cases e : i = x + 1
  · subst e
    rw [if_pos rfl]
    simp
  · rw [if_neg e]
    have : ¬ ((x : Int) + 1 = (i : Int)) := by omega
    simp [this]
theorem cnt12_succ (s : List Int) (v : Int) : cnt12 s (v + 1) = cnt12 s v + s.countP (fun x => decide (x + 1 = v + 1)) := by
  unfold cnt12
  induction s with
  | nil => simp
  | cons x s ih =>
    simp only [List.countP_cons, ih]
    by_cases h1 : x < v
    · have h2 : x < v + 1 := by omega
      have h3 : ¬ x + 1 = v + 1 := by omega
      simp [h1, h2, h3]; omega
    · by_cases h4 : x = v
      · subst h4
        have h2 : x < x + 1 := by omega
        simp [h2]; omega
      · have h2 : ¬ x < v + 1 := by omega
        have h3 : ¬ x + 1 = v + 1 := by omega
        simp [h1, h2, h3]
theorem cnt12_zero {s : List Int} (h : ∀ z ∈ s, 0 ≤ z) : cnt12 s 0 = 0 := by
  unfold cnt12
  rw [List.countP_eq_zero]
  intro a ha
  have := h a ha
  simp; omega
theorem bs12_zero (K : Nat) {s : List Int} (h : ∀ z ∈ s, 0 ≤ z) : bc12 K s = bs12 K s 0 := by
  refine ext12 (d := 0) (by simp [bc12, bs12]) fun i hi => ?_
  rw [bc12_len] at hi
  rw [bc12_get K s i hi, bs12_get K s 0 i hi]
  by_cases e : i ≤ 0
  · obtain rfl : i = 0 := by omega
    rw [if_pos (Nat.le_refl 0)]
    have h1 : cnt12 s ((0 : Nat) : Int) = 0 := cnt12_zero h
    have h2 : s.countP (fun x => decide (x + 1 = ((0 : Nat) : Int))) = 0 := by
      rw [List.countP_eq_zero]
      intro a ha
      have := h a ha
      simp; omega
    rw [h1, h2]
  · rw [if_neg e]
theorem bs12_step (K : Nat) (s : List Int) (v : Nat) (hv : v < K) : (bs12 K s v).set (v + 1) ((bs12 K s v).getD (v + 1) 0 + (bs12 K s v).getD v 0) = bs12 K s (v + 1) := by
  refine ext12 (d := 0) (by simp [bs12]) fun i hi => ?_
  rw [List.length_set, bs12_len] at hi
  rw [getD_set12 _ _ _ _ (by rw [bs12_len]; omega), bs12_get K s v (v + 1) (by omega), bs12_get K s v v (by omega), bs12_get K s (v + 1) i hi, bs12_get K s v i hi, if_neg (show ¬ v + 1 ≤ v by omega), if_pos (Nat.le_refl v)]
  by_cases e : i = v + 1
  · subst e
    rw [if_pos rfl, if_pos (Nat.le_refl _)]
    have := cnt12_succ s (v : Int)
    have e2 : ((v + 1 : Nat) : Int) = (v : Int) + 1 := by omega
    rw [e2, this]
    omega
  · rw [if_neg e]
    by_cases h : i ≤ v
    · rw [if_pos h, if_pos (by omega)]
    · rw [if_neg h, if_neg (by omega)]
theorem bs12_all (K : Nat) (s : List Int) : bs12 K s K = bnd12 K s := by
  refine ext12 (d := 0) (by simp [bs12, bnd12]) fun i hi => ?_
  rw [bs12_len] at hi
  rw [bs12_get K s K i hi, bnd12_get K s i hi, if_pos (by omega)]
theorem cnt12_le (s : List Int) (v : Int) : cnt12 s v ≤ s.length := List.countP_le_length
set_option maxRecDepth 100000 in
set_option maxHeartbeats 2000000 in
theorem pbnd12 (K : Nat) (a : Option Addr) (s : List Int) (n cap : Nat) (w : World) (hs : SegZ w a s) (hn : Hid (s.length = n)) (hb : n ≤ 16777216) (hK : K ≤ 33554432) (hv : ∀ i, i < n → 0 ≤ s.getD i 0 ∧ s.getD i 0 < (K : Int)) :
    Calls Tryz.prog 192 #[.int .i64 (K : Int), .slice a n cap] w fun e w' => e = .returned (.slice (some ⟨w.heap.size, 0, none⟩) (K + 1) (K + 1)) ∧ Rz12 w' w.heap.size (bnd12 K s) ∧ Below w.heap.size w w' := by
  have HM := run_make_i12 (K + 1) (by omega)
  have HNN : Hid (∀ z ∈ s, 0 ≤ z) := by
    intro z hz
    obtain ⟨i, hi, rfl⟩ := List.mem_iff_getElem.1 hz
    have := (hv i (by rw [← hn.out]; exact hi)).1
    simpa [List.getD, hi] using this
  have HZ : Hid (List.replicate (K + 1) (0 : Int) = bc12 K (s.take 0)) := by show _ = _; rw [List.take_zero, bc12_nil]
  have hal : Below w.heap.size w (w.alloc (.cells (vi12 (List.replicate (K + 1) 0)) 3)) := (Below.refl _ _).alloc (Nat.le_refl _) _
  have hr0 := Rz12.new w (List.replicate (K + 1) 0)
  rw [HZ.out] at hal hr0 HM
  generalize hg : w.heap.size = g at *
  generalize hw1 : w.alloc (.cells (vi12 (bc12 K (s.take 0))) 3) = w1 at *
  have HM1 : (Instr.makeSlice 95 (.int .i64 ((K : Int) + 1)) (.int .i64 ((K : Int) + 1))).run Tryz.prog w = .ok (.slice (some ⟨g, 0, none⟩) (K + 1) (K + 1)) w1 := by
    have := HM w
    rw [hg, hw1] at this
    exact this
  have HG : Hid (g ≤ w1.heap.size ∧ w.heap.size = g) := ⟨by have := hal.size; omega, hg⟩
  have KI : (K : Int) ≤ 33554432 := by omega
  clear HM hw1 hg
  go_enter Tryz.func192, Tryz.ntmps192
  go_wp2
  go_loopw [14] (fun ti wr => ∃ i : Nat, i ≤ n ∧ ti = .int .i64 i ∧ Rz12 wr g (bc12 K (s.take i)) ∧ Below g w wr) (fun ti _ => n - (intOf ti).toNat)
  case atStart => exact ⟨0, Nat.zero_le _, rfl, hr0, hal⟩
  case round =>
    obtain ⟨i, hi, rfl, hr, hb2⟩ := hrel
    by_cases h1 : i < n
    · have h1i : (i : Int) < (n : Int) := by omega
      have hs2 : SegZ wr a s := hs.old (by rw [HG.out.2]; exact hb2)
      obtain ⟨b, off, rfl, c1⟩ := hs2.at_ i (by rw [hn.out]; exact h1)
      obtain ⟨x, hx⟩ : ∃ x : Nat, s.getD i 0 = (x : Int) := ⟨(s.getD i 0).toNat, by have := hv i h1; omega⟩
      have hxK : x < K := by have := hv i h1; omega
      rw [hx] at c1
      have c2 := hr.cell (i := x + 1) (by rw [bc12_len]; omega)
      have f2 := hr.free (x + 1)
      have HS : Hid (Rz12 (wr.setCell ⟨g, x + 1, none⟩ (.int .i64 ((bc12 K (s.take i)).getD (x + 1) 0 + 1))) g (bc12 K (s.take (i + 1)))) := by
        have := hr.set (x + 1) ((bc12 K (s.take i)).getD (x + 1) 0 + 1)
        rw [bc12_snoc K _ x hxK, ← hx, ← take_snocZ (by rw [hn.out]; exact h1)] at this
        exact this
      have HB : Hid (∀ y, Below g w (wr.setCell ⟨g, x + 1, none⟩ y)) := by
        intro y
        exact hb2.trans ((Kp.set (S := fun j => j = g) rfl y).below (fun j h => by omega) (by have := hb2.size; have := HG.out; omega))
      have bdc : 0 ≤ (bc12 K (s.take i)).getD (x + 1) 0 ∧ (bc12 K (s.take i)).getD (x + 1) 0 ≤ 16777216 := by
        rw [bc12_get K _ (x + 1) (by omega)]
        have h2 := List.countP_le_length (p := fun z => decide (z + 1 = ((x + 1 : Nat) : Int))) (l := s.take i)
        have h3 := List.length_take_le i s
        omega
      have xK : (x : Int) + 1 < (K : Int) + 1 := by omega
      generalize (bc12 K (s.take i)).getD (x + 1) 0 = y at *
      clear hs2 hr hx
      go_wp2
      go_roundw
      case rel => exact ⟨i + 1, by omega, by go_num, HS.out, HB.out _⟩
      case measure => simp [intOf]; omega
    · have h1i : ¬ (i : Int) < (n : Int) := by omega
      have hr1 : Rz12 wr g (bs12 K s 0) := by
        have e : s.take i = s := List.take_of_length_le (by rw [hn.out]; omega)
        rw [e, bs12_zero K HNN.out] at hr
        exact hr
      clear hr
      go_wp2
      go_loopw [27] (fun ti wr => ∃ v : Nat, v ≤ K ∧ ti = .int .i64 v ∧ Rz12 wr g (bs12 K s v) ∧ Below g w wr) (fun ti _ => K - (intOf ti).toNat)
      case atStart => exact ⟨0, Nat.zero_le _, rfl, hr1, hb2⟩
      case round =>
        obtain ⟨v, hvK, rfl, hr, hb3⟩ := hrel
        by_cases h2 : v < K
        · have h2i : (v : Int) < (K : Int) := by omega
          have h2j : (v : Int) < (K : Int) + 1 := by omega
          have h2k : (v : Int) + 1 < (K : Int) + 1 := by omega
          have c2 := hr.cell (i := v + 1) (by rw [bs12_len]; omega)
          have c3 := hr.cell (i := v) (by rw [bs12_len]; omega)
          have f2 := hr.free (v + 1)
          have HS : Hid (Rz12 (wr.setCell ⟨g, v + 1, none⟩ (.int .i64 ((bs12 K s v).getD (v + 1) 0 + (bs12 K s v).getD v 0))) g (bs12 K s (v + 1))) := by
            have := hr.set (v + 1) ((bs12 K s v).getD (v + 1) 0 + (bs12 K s v).getD v 0)
            rw [bs12_step K _ v h2] at this
            exact this
          have HB : Hid (∀ y, Below g w (wr.setCell ⟨g, v + 1, none⟩ y)) := by
            intro y
            exact hb3.trans ((Kp.set (S := fun j => j = g) rfl y).below (fun j h => by omega) (by have := hb3.size; have := HG.out; omega))
          have bd1 : 0 ≤ (bs12 K s v).getD (v + 1) 0 ∧ (bs12 K s v).getD (v + 1) 0 ≤ 16777216 := by
            rw [bs12_get K _ v (v + 1) (by omega), if_neg (by omega)]
            have h2 := List.countP_le_length (p := fun z => decide (z + 1 = ((v + 1 : Nat) : Int))) (l := s)
            have := hn.out
            omega
          have bd2 : 0 ≤ (bs12 K s v).getD v 0 ∧ (bs12 K s v).getD v 0 ≤ 16777216 := by
            rw [bs12_get K _ v v (by omega), if_pos (Nat.le_refl v)]
            have h2 := cnt12_le s (v : Int)
            have := hn.out
            omega
          generalize (bs12 K s v).getD (v + 1) 0 = y at *
          generalize (bs12 K s v).getD v 0 = z at *
          clear hr
          go_wp2
          go_region
          go_wp2
          go_roundw
          case rel => exact ⟨v + 1, by omega, by go_num, HS.out.drew, (HB.out _).drew⟩
          case measure => simp [intOf]; omega
        · have h2i : ¬ (v : Int) < (K : Int) := by omega
          obtain rfl : v = K := by omega
          go_wp2
          go_ret
          refine ⟨rfl, ?_, hb3⟩
          rw [← bs12_all]
          exact hr
end Go.Proofs.YtmfpdchfofffeaaGreatDoor

namespace Go.Proofs.YtmfpdchfofffeaaGreatDoor
open Go.RowKit
set_option linter.unusedVariables false
def mx12 (s : List Int) : Nat := s.foldl (fun k v => max k (v + 1).toNat) 0
theorem mx12_snoc (s : List Int) (v : Int) : mx12 (s ++ [v]) = max (mx12 s) (v + 1).toNat := by simp [mx12, List.foldl_append]
theorem mx12_le_aux : ∀ (s : List Int) (k m : Nat), k ≤ m → (∀ z ∈ s, z < (m : Int)) → s.foldl (fun k v => max k (v + 1).toNat) k ≤ m
  | [], k, m, h, _ => h
  | x :: s, k, m, h, hs => mx12_le_aux s _ m (by have := hs x (by simp); show max k (x + 1).toNat ≤ m; omega) (fun z hz => hs z (by simp [hz]))
theorem mx12_le {s : List Int} {m : Nat} (hs : ∀ z ∈ s, z < (m : Int)) : mx12 s ≤ m := mx12_le_aux s 0 m (Nat.zero_le _) hs
theorem mx12_ge_aux : ∀ (s : List Int) (k : Nat), k ≤ s.foldl (fun k v => max k (v + 1).toNat) k ∧ ∀ z ∈ s, z < ((s.foldl (fun k v => max k (v + 1).toNat) k : Nat) : Int)
  | [], k => ⟨Nat.le_refl _, by simp⟩
  | x :: s, k => by
    obtain ⟨h1, h2⟩ := mx12_ge_aux s (max k (x + 1).toNat)
    refine ⟨by simp only [List.foldl_cons]; omega, fun z hz => ?_⟩
    rw [List.mem_cons] at hz
    rcases hz with rfl | hz
    · simp only [List.foldl_cons]; omega
    · exact h2 z hz
theorem mx12_gt {s : List Int} : ∀ z ∈ s, z < (mx12 s : Int) := (mx12_ge_aux s 0).2
/-- What a list of numbers must be. -/
structure Wf12 (s : List Int) (n K : Nat) : Prop where
  len : s.length = n
  n24 : n ≤ 16777216
  K25 : K ≤ 33554432
  val : ∀ i, i < n → 0 ≤ s.getD i 0 ∧ s.getD i 0 < (K : Int)
theorem Wf12.mem {s : List Int} {n K : Nat} (h : Wf12 s n K) : ∀ z ∈ s, 0 ≤ z ∧ z < (K : Int) := by
  intro z hz
  obtain ⟨i, hi, rfl⟩ := List.mem_iff_getElem.1 hz
  have := h.val i (by rw [← h.len]; exact hi)
  simpa [List.getD, hi] using this
theorem Wf12.mx {s : List Int} {n K : Nat} (h : Wf12 s n K) : Wf12 s n (mx12 s) :=
  ⟨h.len, h.n24, by have := mx12_le (s := s) (m := K) (fun z hz => (h.mem z hz).2); have := h.K25; omega, fun i hi => ⟨(h.val i hi).1, by
    have : s.getD i 0 ∈ s := by
      have hl : i < s.length := by rw [h.len]; exact hi
      have : s.getD i 0 = s[i] := by simp [List.getD, hl]
      rw [this]; exact List.getElem_mem hl
    exact mx12_gt _ this⟩⟩
/-- A list in block b. -/
structure Li12 (w : World) (b : Nat) (a : Option Addr) (n cap : Nat) (s : List Int) (K gs gf gn : Nat) (nx : List Int) : Prop where
  hp : w.heap[b]? = some (.cells #[.slice a n cap, .slice (some ⟨gs, 0, none⟩) n n, .slice (some ⟨gf, 0, none⟩) (K + 1) (K + 1), .slice (some ⟨gn, 0, none⟩) K K] 285 (0, 0))
  seg : SegZ w a s
  sm : Rb12 w gs (typ12 s)
  fr : Rz12 w gf (bnd12 K s)
  nr : Rz12 w gn nx
  nxl : nx.length = K
  d1 : b ≠ gn
  d2 : gs ≠ gn
  d3 : gf ≠ gn
  d4 : ∀ x off, a = some ⟨x, off, none⟩ → 0 < s.length → x ≠ gn
theorem Li12.of {w : World} {a : Option Addr} {n cap : Nat} {s : List Int} {K gs gf gn : Nat} {nx : List Int} (hs : SegZ w a s) (h1 : Rb12 w gs (typ12 s)) (h2 : Rz12 w gf (bnd12 K s)) (h3 : Rz12 w gn nx) (hl : nx.length = K) (d2 : gs ≠ gn) (d3 : gf ≠ gn) (d4 : ∀ x off, a = some ⟨x, off, none⟩ → 0 < s.length → x ≠ gn) :
    Li12 (w.alloc (.cells #[.slice a n cap, .slice (some ⟨gs, 0, none⟩) n n, .slice (some ⟨gf, 0, none⟩) (K + 1) (K + 1), .slice (some ⟨gn, 0, none⟩) K K] 285)) w.heap.size a n cap s K gs gf gn nx :=
  have hb : Below w.heap.size w (w.alloc (.cells #[.slice a n cap, .slice (some ⟨gs, 0, none⟩) n n, .slice (some ⟨gf, 0, none⟩) (K + 1) (K + 1), .slice (some ⟨gn, 0, none⟩) K K] 285)) := (Below.refl _ _).alloc (Nat.le_refl _) _
  ⟨heap_alloc_new w _, hs.alloc _, h1.old hb, h2.old hb, h3.old hb, hl, by have := h3.lt; omega, d2, d3, d4⟩
set_option maxRecDepth 100000 in
set_option maxHeartbeats 4000000 in
theorem pnl12 (a : Option Addr) (s : List Int) (n cap M : Nat) (w : World) (hs : SegZ w a s) (hW : Wf12 s n M) :
    Calls Tryz.prog 163 #[.slice a n cap] w fun e w' => ∃ b gs gf gn, e = .returned (.pointer (some ⟨b, 0, none⟩)) ∧ Li12 w' b a n cap s (mx12 s) gs gf gn (List.replicate (mx12 s) 0) ∧ w.heap.size ≤ gn ∧ Below w.heap.size w w' := by
  have hn : Hid (s.length = n) := hW.len
  have hb := hW.n24
  have HV := hW.mx
  have hK := HV.K25
  have HT : Hid (∀ w', Below w.heap.size w w' → Calls Tryz.prog 191 #[.slice a n cap] w' fun e w2 => e = .returned (.slice (some ⟨w'.heap.size, 0, none⟩) n n) ∧ Rb12 w2 w'.heap.size (typ12 s) ∧ Below w'.heap.size w' w2) :=
    fun w' h => ptyp12 a s n cap w' (hs.old h) hn (by omega)
  have HBN : Hid (∀ w', Below w.heap.size w w' → Calls Tryz.prog 192 #[.int .i64 (mx12 s : Int), .slice a n cap] w' fun e w2 => e = .returned (.slice (some ⟨w'.heap.size, 0, none⟩) (mx12 s + 1) (mx12 s + 1)) ∧ Rz12 w2 w'.heap.size (bnd12 (mx12 s) s) ∧ Below w'.heap.size w' w2) :=
    fun w' h => pbnd12 (mx12 s) a s n cap w' (hs.old h) hn hb hK HV.val
  have HM := run_make_i12 (mx12 s) (by omega)
  have HL : Hid (∀ i, i < n → mx12 (s.take (i + 1)) = max (mx12 (s.take i)) (s.getD i 0 + 1).toNat) := by
    intro i hi
    rw [take_snocZ (by rw [hn.out]; exact hi), mx12_snoc]
  have HE : Hid (mx12 (s.take n) = mx12 s) := by show _ = _; rw [List.take_of_length_le (by rw [hn.out]; omega)]
  have HK : Hid (∀ i, mx12 (s.take i) ≤ 33554432) := by
    intro i
    have := mx12_le (s := s.take i) (m := M) (fun z hz => (hW.mem z (List.mem_of_mem_take hz)).2)
    have := hW.K25
    omega
  have HVAL : Hid (∀ i, i < n → 0 ≤ s.getD i 0 ∧ s.getD i 0 < 33554432) := fun i hi => by have := hW.val i hi; have := hW.K25; omega
  have HD4 : Hid (∀ x off, a = some ⟨x, off, none⟩ → 0 < s.length → x < w.heap.size) := hs.lt
  clear hW HV
  go_enter Tryz.func163, Tryz.ntmps163
  go_wp2
  go_loopw [3, 8] (fun tk ti wr => ∃ i k : Nat, i ≤ n ∧ ti = .int .i64 i ∧ tk = .int .i64 k ∧ Hid (k = mx12 (s.take i)) ∧ wr = w) (fun _ ti _ => n - (intOf ti).toNat)
  case atStart => exact ⟨0, 0, Nat.zero_le _, rfl, rfl, (by simp [mx12] : _ = _), rfl⟩
  case round =>
    obtain ⟨i, k, hi, rfl, rfl, HI, rfl⟩ := hrel
    by_cases h1 : i < n
    · have h1i : (i : Int) < (n : Int) := by omega
      obtain ⟨bb, off, rfl, c1⟩ := hs.at_ i (by rw [hn.out]; exact h1)
      have hv := HVAL.out i h1
      have HI2 := HL.out i h1
      have HI3 : Hid (mx12 (s.take (i + 1)) = max k (s.getD i 0 + 1).toNat) := by show _ = _; rw [HI2, HI.out]
      have hk2 : (k : Int) ≤ 33554432 := by have := HK.out i; have := HI.out; omega
      clear HI2 HM
      generalize s.getD i 0 = v at *
      by_cases hkv : (k : Int) < v + 1
      · go_wp2
        go_roundw
        case rel => exact ⟨i + 1, (v + 1).toNat, by omega, by go_num, by go_num, (by rw [HI3.out]; omega : _ = _), trivial⟩
        case measure => simp [intOf]; omega
      · go_wp2
        go_roundw
        case rel => exact ⟨i + 1, k, by omega, by go_num, by go_num, (by rw [HI3.out]; omega : _ = _), trivial⟩
        case measure => simp [intOf]; omega
    · have h1i : ¬ (i : Int) < (n : Int) := by omega
      obtain rfl : i = n := by omega
      have HI2 := HI.out
      rw [HE.out] at HI2
      subst HI2
      generalize hKe : mx12 s = K at *
      have HKE : Hid (mx12 s = K) := hKe
      clear hKe
      have Bc : Below wr.heap.size wr wr.drew := (Below.refl _ _).drew
      clear HI HK HL HE
      go_wp2_with fail
      go_region_with (first
        | (go_at_call 191; refine (HT.out _ (by first | exact Bc | exact Bc.alloc Bc.size _ | exact BcB | exact BcB.alloc BcB.size _)).mono ?_; rintro e wT ⟨rfl, RT, BT⟩; have BcT : Below wr.heap.size wr wT := (by first | exact Bc.trans (BT.mono Bc.size) | exact (Bc.alloc Bc.size _).trans (BT.mono (Bc.alloc Bc.size _).size) | exact BcB.trans (BT.mono BcB.size) | exact (BcB.alloc BcB.size _).trans (BT.mono (BcB.alloc BcB.size _).size)))
        | (go_at_call 192; refine (HBN.out _ (by first | exact Bc | exact Bc.alloc Bc.size _ | exact BcT | exact BcT.alloc BcT.size _)).mono ?_; rintro e wB ⟨rfl, RB, BB⟩; have BcB : Below wr.heap.size wr wB := (by first | exact Bc.trans (BB.mono Bc.size) | exact (Bc.alloc Bc.size _).trans (BB.mono (Bc.alloc Bc.size _).size) | exact BcT.trans (BB.mono BcT.size) | exact (BcT.alloc BcT.size _).trans (BB.mono (BcT.alloc BcT.size _).size))))
      · have q1 : Below wB.heap.size wB (wB.alloc (.cells (vi12 (List.replicate K 0)) 3)) := (Below.refl _ _).alloc (Nat.le_refl _) _
        have e0 : wr.drew.heap.size = wr.heap.size := rfl
        have l1 := RT.lt
        have l2 := RB.lt
        have l3 := BT.size
        have l4 := BB.size
        have HF := Li12.of (n := i) (cap := cap) ((hs.old BcB).alloc _) ((RT.old BB).old q1) (RB.old q1) (Rz12.new wB (List.replicate K 0)) (by simp) (by omega) (by omega) (fun x off h1 h2 => by have := HD4.out x off h1 h2; omega)
        have HB : Hid (Below wr.heap.size wr (wB.alloc (.cells (vi12 (List.replicate K 0)) 3)) ∧ wr.heap.size ≤ wB.heap.size) := ⟨BcB.trans (q1.mono BcB.size), BcB.size⟩
        have e2 : (wB.alloc (.cells (vi12 (List.replicate K 0)) 3)).heap.size = wB.heap.size + 1 := by simp
        rw [e0, e2] at HF
        clear q1 RT RB BT BB BcT BcB l1 l2 l3 l4 e2
        go_wp2
        go_ret
        rw [HKE.out]
        exact ⟨_, _, _, _, rfl, HF, HB.out.2, HB.out.1.alloc HB.out.1.size _⟩
      · have q1 : Below wT.heap.size wT (wT.alloc (.cells (vi12 (List.replicate K 0)) 3)) := (Below.refl _ _).alloc (Nat.le_refl _) _
        have e0 : wr.drew.heap.size = wr.heap.size := rfl
        have e1 : (wT.alloc (.cells (vi12 (List.replicate K 0)) 3)).heap.size = wT.heap.size + 1 := by simp
        have l1 := RT.lt
        have l2 := RB.lt
        have l3 := BT.size
        have l4 := BB.size
        have HF := Li12.of (n := i) (cap := cap) (hs.old BcB) ((RT.old q1).old BB) RB ((Rz12.new wT (List.replicate K 0)).old BB) (by simp) (by omega) (by omega) (fun x off h1 h2 => by have := HD4.out x off h1 h2; omega)
        have HB : Hid (Below wr.heap.size wr wB ∧ wr.heap.size ≤ wT.heap.size) := ⟨BcB, BcT.size⟩
        rw [e0, e1] at HF
        clear q1 RT RB BT BB BcT BcB l1 l2 l3 l4 e1
        go_wp2
        go_ret
        rw [HKE.out]
        exact ⟨_, _, _, _, rfl, HF, HB.out.2, HB.out.1.alloc HB.out.1.size _⟩
      · have q1 : Below wr.heap.size wr (wr.alloc (.cells (vi12 (List.replicate K 0)) 3)) := (Below.refl _ _).alloc (Nat.le_refl _) _
        have e1 : (wr.alloc (.cells (vi12 (List.replicate K 0)) 3)).drew.heap.size = wr.heap.size + 1 := by show (wr.alloc _).heap.size = _; simp
        have l1 := RT.lt
        have l2 := RB.lt
        have l3 := BT.size
        have l4 := BB.size
        have HF := Li12.of (n := i) (cap := cap) (hs.old BcB) (RT.old BB) RB (((Rz12.new wr (List.replicate K 0)).drew.old BT).old BB) (by simp) (by omega) (by omega) (fun x off h1 h2 => by have := HD4.out x off h1 h2; omega)
        have HB : Hid (Below wr.heap.size wr wB) := BcB
        rw [e1] at HF
        clear q1 RT RB BT BB BcT BcB l1 l2 l3 l4 e1
        go_wp2
        go_ret
        rw [HKE.out]
        exact ⟨_, _, _, _, rfl, HF, Nat.le_refl _, HB.out.alloc HB.out.size _⟩
end Go.Proofs.YtmfpdchfofffeaaGreatDoor

namespace Go.Proofs.YtmfpdchfofffeaaGreatDoor
open Go.RowKit
set_option linter.unusedVariables false
structure Lr12 (w : World) (b : Nat) (a : Option Addr) (n cap : Nat) (s : List Int) (K gs gf gn gr : Nat) (nx R : List Int) : Prop where
  li : Li12 w b a n cap s K gs gf gn nx
  row : Rz12 w gr R
  rl : R.length = n
  e1 : b ≠ gr
  e2 : gs ≠ gr
  e3 : gf ≠ gr
  e4 : gn ≠ gr
  e5 : ∀ x off, a = some ⟨x, off, none⟩ → 0 < s.length → x ≠ gr
def Wr12 (gn gr : Nat) : Nat → Prop := fun j => j = gn ∨ j = gr
theorem Lr12.kp {w w' : World} {b : Nat} {a : Option Addr} {n cap : Nat} {s : List Int} {K gs gf gn gr : Nat} {nx R nx' R' : List Int} (h : Lr12 w b a n cap s K gs gf gn gr nx R) (hk : Kp (Wr12 gn gr) w w') (h1 : Rz12 w' gn nx') (h2 : Rz12 w' gr R') (l1 : nx'.length = nx.length) (l2 : R'.length = R.length) : Lr12 w' b a n cap s K gs gf gn gr nx' R' := by
  have hl := h.li
  refine ⟨⟨hk.heap hl.hp ?_, hl.seg.kp hk ?_, hl.sm.kp hk ?_, hl.fr.kp hk ?_, h1, by rw [l1, hl.nxl], hl.d1, hl.d2, hl.d3, hl.d4⟩, h2, by rw [l2, h.rl], h.e1, h.e2, h.e3, h.e4, h.e5⟩
  · rintro (e | e); exact hl.d1 e; exact h.e1 e
  · rintro x off ha hp (e | e); exact hl.d4 x off ha hp e; exact h.e5 x off ha hp e
  · rintro (e | e); exact hl.d2 e; exact h.e2 e
  · rintro (e | e); exact hl.d3 e; exact h.e3 e
theorem Lr12.setR {w : World} {b : Nat} {a : Option Addr} {n cap : Nat} {s : List Int} {K gs gf gn gr : Nat} {nx R : List Int} (h : Lr12 w b a n cap s K gs gf gn gr nx R) (i : Nat) (x : Int) : Lr12 (w.setCell ⟨gr, i, none⟩ (.int .i64 x)) b a n cap s K gs gf gn gr nx (R.set i x) :=
  h.kp (.set (Or.inr rfl) _) (h.li.nr.kp (S := fun j => j = gr) (Kp.set (S := fun j => j = gr) rfl _) h.e4) (h.row.set i x) rfl (by simp)
theorem Lr12.setN {w : World} {b : Nat} {a : Option Addr} {n cap : Nat} {s : List Int} {K gs gf gn gr : Nat} {nx R : List Int} (h : Lr12 w b a n cap s K gs gf gn gr nx R) (i : Nat) (x : Int) : Lr12 (w.setCell ⟨gn, i, none⟩ (.int .i64 x)) b a n cap s K gs gf gn gr (nx.set i x) R :=
  h.kp (.set (Or.inl rfl) _) (h.li.nr.set i x) (h.row.kp (S := fun j => j = gn) (Kp.set (S := fun j => j = gn) rfl _) (fun e => h.e4 e.symm)) (by simp) rfl
theorem Lr12.drew {w : World} {b : Nat} {a : Option Addr} {n cap : Nat} {s : List Int} {K gs gf gn gr : Nat} {nx R : List Int} (h : Lr12 w b a n cap s K gs gf gn gr nx R) : Lr12 w.drew b a n cap s K gs gf gn gr nx R :=
  h.kp (Kp.refl _ _).drew h.li.nr.drew h.row.drew rfl rfl
theorem Li12.c0 {w : World} {b : Nat} {a : Option Addr} {n cap : Nat} {s : List Int} {K gs gf gn : Nat} {nx : List Int} (h : Li12 w b a n cap s K gs gf gn nx) : w.cell? ⟨b, 0, none⟩ = some (.slice a n cap) := by simp [World.cell?, h.hp]
theorem Li12.c1 {w : World} {b : Nat} {a : Option Addr} {n cap : Nat} {s : List Int} {K gs gf gn : Nat} {nx : List Int} (h : Li12 w b a n cap s K gs gf gn nx) : w.cell? ⟨b, 1, none⟩ = some (.slice (some ⟨gs, 0, none⟩) n n) := by simp [World.cell?, h.hp]
theorem Li12.c2 {w : World} {b : Nat} {a : Option Addr} {n cap : Nat} {s : List Int} {K gs gf gn : Nat} {nx : List Int} (h : Li12 w b a n cap s K gs gf gn nx) : w.cell? ⟨b, 2, none⟩ = some (.slice (some ⟨gf, 0, none⟩) (K + 1) (K + 1)) := by simp [World.cell?, h.hp]
theorem Li12.c3 {w : World} {b : Nat} {a : Option Addr} {n cap : Nat} {s : List Int} {K gs gf gn : Nat} {nx : List Int} (h : Li12 w b a n cap s K gs gf gn nx) : w.cell? ⟨b, 3, none⟩ = some (.slice (some ⟨gn, 0, none⟩) K K) := by simp [World.cell?, h.hp]
set_option maxRecDepth 100000 in
set_option maxHeartbeats 1000000 in
theorem phd12 (b : Nat) (a : Option Addr) (n cap : Nat) (s : List Int) (K gs gf gn gr : Nat) (nx R : List Int) (i x P : Nat) (w : World) (h : Lr12 w b a n cap s K gs gf gn gr nx R) (hn : Hid (s.length = n)) (hb : n ≤ 16777216) (hK : K ≤ 33554432) (hi : i < n) (hx : Hid (s.getD i 0 = (x : Int))) (hxK : x < K) (hP : Hid (nx.getD x 0 = (P : Int))) (hPn : P < n) :
    Calls Tryz.prog 225 #[.pointer (some ⟨b, 0, none⟩), .slice (some ⟨gr, 0, none⟩) n n, .int .i64 (i : Int)] w fun e w' => e = .returned (.tuple #[]) ∧ Lr12 w' b a n cap s K gs gf gn gr (nx.set x ((P : Int) + 1)) (R.set P (i : Int)) ∧ Kp (Wr12 gn gr) w w' := by
  have hl := h.li
  have q0 := hl.c0
  have q3 := hl.c3
  obtain ⟨ab, off, rfl, c1⟩ := hl.seg.at_ i (by rw [hn.out]; exact hi)
  rw [hx.out] at c1
  have c2 := hl.nr.cell (i := x) (by rw [hl.nxl]; exact hxK)
  rw [hP.out] at c2
  have f2 := hl.nr.free x
  have c3 := h.row.cell (i := P) (by rw [h.rl]; exact hPn)
  have f3 := h.row.free P
  generalize R.getD P 0 = y at c3
  have ii : (i : Int) < (n : Int) := by omega
  have ix : (x : Int) < (K : Int) := by omega
  have iP : (P : Int) < (n : Int) := by omega
  have d1 : ¬ gr = b := fun e => h.e1 e.symm
  have d2 : ¬ gr = gn := fun e => h.e4 e.symm
  have d3 : ¬ gn = gr := h.e4
  have d4 : ¬ b = gr := h.e1
  have d5 : ¬ gn = b := fun e => hl.d1 e.symm
  have HF : Hid (Lr12 ((w.setCell ⟨gr, P, none⟩ (.int .i64 (i : Int))).setCell ⟨gn, x, none⟩ (.int .i64 ((P : Int) + 1))) b (some ⟨ab, off, none⟩) n cap s K gs gf gn gr (nx.set x ((P : Int) + 1)) (R.set P (i : Int))) := (h.setR P i).setN x _
  have HB : Hid (Kp (Wr12 gn gr) w ((w.setCell ⟨gr, P, none⟩ (.int .i64 (i : Int))).setCell ⟨gn, x, none⟩ (.int .i64 ((P : Int) + 1)))) := (Kp.set (S := Wr12 gn gr) (w := w) (Or.inr rfl) _).trans (Kp.set (S := Wr12 gn gr) (Or.inl rfl) _) (fun _ _ e => e)
  clear h hl hP hx
  go_enter Tryz.func225, Tryz.ntmps225
  go_wp2
  refine bodyPost_end (results_none rfl _ _ _) rfl ?_
  exact ⟨rfl, HF.out, HB.out⟩
set_option maxRecDepth 100000 in
set_option maxHeartbeats 1000000 in
theorem ped12 (b : Nat) (a : Option Addr) (n cap : Nat) (s : List Int) (K gs gf gn gr : Nat) (nx R : List Int) (i x P : Nat) (w : World) (h : Lr12 w b a n cap s K gs gf gn gr nx R) (hn : Hid (s.length = n)) (hb : n ≤ 16777216) (hK : K ≤ 33554432) (hi : i < n) (hx : Hid (s.getD i 0 = (x : Int))) (hxK : x < K) (hP : Hid (nx.getD x 0 = (P : Int) + 1)) (hPn : P < n) :
    Calls Tryz.prog 224 #[.pointer (some ⟨b, 0, none⟩), .slice (some ⟨gr, 0, none⟩) n n, .int .i64 (i : Int)] w fun e w' => e = .returned (.tuple #[]) ∧ Lr12 w' b a n cap s K gs gf gn gr (nx.set x (P : Int)) (R.set P (i : Int)) ∧ Kp (Wr12 gn gr) w w' := by
  have hl := h.li
  have q0 := hl.c0
  have q3 := hl.c3
  obtain ⟨ab, off, rfl, c1⟩ := hl.seg.at_ i (by rw [hn.out]; exact hi)
  rw [hx.out] at c1
  have c2 := hl.nr.cell (i := x) (by rw [hl.nxl]; exact hxK)
  rw [hP.out] at c2
  have f2 := hl.nr.free x
  have c3 := h.row.cell (i := P) (by rw [h.rl]; exact hPn)
  have f3 := h.row.free P
  generalize R.getD P 0 = y at c3
  have ii : (i : Int) < (n : Int) := by omega
  have ix : (x : Int) < (K : Int) := by omega
  have iP : (P : Int) < (n : Int) := by omega
  have d1 : ¬ gr = b := fun e => h.e1 e.symm
  have d2 : ¬ gr = gn := fun e => h.e4 e.symm
  have d3 : ¬ gn = gr := h.e4
  have d4 : ¬ b = gr := h.e1
  have d5 : ¬ gn = b := fun e => hl.d1 e.symm
  have d6 : ¬ b = gn := hl.d1
  have HF : Hid (Lr12 ((w.setCell ⟨gn, x, none⟩ (.int .i64 (P : Int))).setCell ⟨gr, P, none⟩ (.int .i64 (i : Int))) b (some ⟨ab, off, none⟩) n cap s K gs gf gn gr (nx.set x (P : Int)) (R.set P (i : Int))) := (h.setN x _).setR P i
  have HB : Hid (Kp (Wr12 gn gr) w ((w.setCell ⟨gn, x, none⟩ (.int .i64 (P : Int))).setCell ⟨gr, P, none⟩ (.int .i64 (i : Int)))) := (Kp.set (S := Wr12 gn gr) (w := w) (Or.inl rfl) _).trans (Kp.set (S := Wr12 gn gr) (Or.inr rfl) _) (fun _ _ e => e)
  clear h hl hP hx
  go_enter Tryz.func224, Tryz.ntmps224
  go_wp2
  refine bodyPost_end (results_none rfl _ _ _) rfl ?_
  exact ⟨rfl, HF.out, HB.out⟩
theorem size_i12 : (Tryz.prog.info? 3).map (·.size) = some 1 := by kernel_rfl
/-- 'copy(next, from)': a whole row is written over. -/
theorem step_copy12 {ops : Array Oper} {o : Oper} {a : Act} {w : World} {K : Act → World → Prop} {Q : Exit → Act → World → Prop} {E : Prop} (hgd : o.guard = none) (d s : Operand)
    (ho : o.op = .call { callee := .builtin .copy, args := #[d, s], argTypes := #[95, 95] })
    (g m sLen sCap : Nat) (sp : Option Addr) (hd : a.eval d = .slice (some ⟨g, 0, none⟩) m m) (hs : a.eval s = .slice sp sLen sCap)
    (X : List Int) (hX : Rz12 w g X) (hXl : X.length = m) (cs : List Int) (hcl : cs.length = m) (hle : m ≤ sLen) (hseg : SegZ w sp cs)
    (h : ∀ w', Rz12 w' g cs → Kp (fun k => k = g) w w' → K (a.put o.dst (.int .i64 (m : Int))) w') :
    if Region.wanted o (yielded ops a.tmps) = true then Oper.wp Tryz.prog o a w K Q else E := by
  have hw : Region.wanted o (yielded ops a.tmps) = true := by simp [Region.wanted, hgd]
  rw [if_pos hw]
  subst hcl
  have hmin : Nat.min sLen cs.length = cs.length := Nat.min_eq_right hle
  obtain ⟨w', hrun, h1, h2⟩ : ∃ w', (Builtin.copy_ #[95, 95] o.type #[.slice (some ⟨g, 0, none⟩) cs.length cs.length, .slice sp sLen sCap]).run Tryz.prog w = .ok (.int .i64 (cs.length : Int)) w' ∧ Rz12 w' g cs ∧ Kp (fun k => k = g) w w' := by
    by_cases h0 : cs.length = 0
    · have e1 : cs = [] := List.eq_nil_of_length_eq_zero h0
      have e2 : X = [] := List.eq_nil_of_length_eq_zero (by omega)
      subst e1 e2
      exact ⟨w, run_copy_none (P := Tryz.prog) w _ _ _ 3 _ _ _ _ _ _ Tryz.underlying95 size_i12 (by simp), hX, Kp.refl _ _⟩
    · obtain ⟨sg, soff, rfl, _⟩ := hseg.at_ 0 (by omega)
      have hrun := run_copy_row Tryz.prog w 95 95 o.type 3 g 0 cs.length cs.length ⟨sg, soff, none⟩ sLen sCap _ 3 (cs.map (Value.int .i64)) Tryz.underlying95 size_i12 hX.hp (by simp; omega) (segZ_cells hseg) (by simp [vi12]; omega) (ints_oneCell _ _)
      have e3 : ((vi12 X).toList.take 0 ++ cs.map (Value.int .i64) ++ (vi12 X).toList.drop (0 + (cs.map (Value.int .i64)).length)).toArray = vi12 cs := by
        have : (vi12 X).toList.drop (0 + (cs.map (Value.int .i64)).length) = [] := List.drop_eq_nil_of_le (by simp [vi12]; omega)
        rw [this]
        simp [vi12]
      rw [e3, List.length_map] at hrun
      exact ⟨w.setRow g (vi12 cs), hrun, ⟨setRow_heap w g _ _ 3 _ hX.hp⟩, ⟨rfl, rfl, rfl, by simp [World.setRow], fun k hk hn => setRow_other w g k _ hn⟩⟩
  unfold Oper.wp
  simp [execOp, ho, resolve, invoke, builtin, hd, hs, hrun, Result.andThen]
  exact h w' h1 h2
end Go.Proofs.YtmfpdchfofffeaaGreatDoor

namespace Go.Proofs.YtmfpdchfofffeaaGreatDoor
open Go.RowKit
set_option linter.unusedVariables false
theorem cnt12_bk (s : List Int) (v : Int) : cnt12 s v = bk12 s.length (S12 s) v := by
  have h : ∀ k, k ≤ s.length → (s.take k).countP (fun x => decide (x < v)) = cn12 (fun i => S12 s i < v) k := by
    intro k
    induction k with
    | zero => intro _; simp [cn12]
    | succ k ih =>
      intro hk
      rw [take_snocZ (by omega), List.countP_append, ih (by omega)]
      rw [show cn12 (fun i => S12 s i < v) (k + 1) = cn12 (fun i => S12 s i < v) k + (if S12 s k < v then 1 else 0) from by rw [cn12]; congr]
      by_cases hx : s.getD k 0 < v
      · have hx2 : S12 s k < v := hx
        rw [if_pos hx2]
        simp only [List.countP_cons, List.countP_nil, hx, decide_true, if_true]
      · have hx2 : ¬ S12 s k < v := hx
        rw [if_neg hx2]
        simp only [List.countP_cons, List.countP_nil, hx, decide_false]
        simp
  have := h s.length (Nat.le_refl _)
  rw [List.take_length] at this
  exact this
structure Lk12 (n : Nat) (s : List Int) (R nx : List Int) (x : Rw12) : Prop where
  row : ∀ q, q < n → R.getD q 0 = x.1 q
  nxt : ∀ i, i < n → nx.getD (S12 s i).toNat 0 = x.2 (S12 s i)
structure Lm12 (n : Nat) (s : List Int) (R nx : List Int) (x : Rw12) : Prop where
  row : ∀ q, q < n → R.getD (n - 1 - q) 0 = x.1 q
  nxt : ∀ i, i < n → nx.getD (S12 s i).toNat 0 = (n : Int) - x.2 (ng12 (S12 s) i)
theorem Wf12.nat {s : List Int} {n K : Nat} (h : Wf12 s n K) {i : Nat} (hi : i < n) : s.getD i 0 = (((S12 s i).toNat : Nat) : Int) ∧ (S12 s i).toNat < K := by
  have := h.val i hi
  have e : S12 s i = s.getD i 0 := rfl
  rw [e]
  omega
theorem Lk12.put {n K : Nat} {s R nx : List Int} {x : Rw12} (h : Lk12 n s R nx x) (hW : Wf12 s n K) (hR : R.length = n) (hN : nx.length = K) {i P : Nat} (hi : i < n) (hP : x.2 (S12 s i) = (P : Int)) (hPn : P < n) : Lk12 n s (R.set P (i : Int)) (nx.set (S12 s i).toNat ((P : Int) + 1)) (put12 (S12 s) x i) := by
  refine ⟨fun q hq => ?_, fun j hj => ?_⟩
  · rw [getD_set12 _ _ _ _ (by omega)]
    show _ = pR12 x.1 x.2 (S12 s) i q
    rw [pR12_at hP, h.row q hq]
  · have h1 := hW.nat hi
    have h2 := hW.nat hj
    rw [getD_set12 _ _ _ _ (by omega)]
    show _ = pH12 x.2 (S12 s) i (S12 s j)
    unfold pH12
    have e1 : S12 s i = s.getD i 0 := rfl
    have e2 : S12 s j = s.getD j 0 := rfl
    by_cases e : S12 s j = S12 s i
    · rw [e, if_pos rfl, if_pos rfl, hP]
    · rw [if_neg (by omega), if_neg e, h.nxt j hj]
theorem Lm12.put {n K : Nat} {s R nx : List Int} {x : Rw12} (h : Lm12 n s R nx x) (hW : Wf12 s n K) (hR : R.length = n) (hN : nx.length = K) {i P : Nat} (hi : i < n) (hP : x.2 (ng12 (S12 s) i) = (P : Int)) (hPn : P < n) : Lm12 n s (R.set (n - 1 - P) (i : Int)) (nx.set (S12 s i).toNat ((n - 1 - P : Nat) : Int)) (put12 (ng12 (S12 s)) x i) := by
  refine ⟨fun q hq => ?_, fun j hj => ?_⟩
  · rw [getD_set12 _ _ _ _ (by omega)]
    show _ = pR12 x.1 x.2 (ng12 (S12 s)) i q
    rw [pR12_at hP, h.row q hq]
    by_cases e : q = P
    · subst e; rw [if_pos rfl, if_pos rfl]
    · rw [if_neg (by omega), if_neg e]
  · have h1 := hW.nat hi
    have h2 := hW.nat hj
    rw [getD_set12 _ _ _ _ (by omega)]
    show _ = (n : Int) - pH12 x.2 (ng12 (S12 s)) i (ng12 (S12 s) j)
    unfold pH12
    have e1 : S12 s i = s.getD i 0 := rfl
    have e2 : S12 s j = s.getD j 0 := rfl
    by_cases e : S12 s j = S12 s i
    · rw [e, if_pos rfl, if_pos (by unfold ng12; omega), show ng12 (S12 s) j = ng12 (S12 s) i by unfold ng12; omega, hP]
      omega
    · rw [if_neg (by omega), if_neg (by unfold ng12; omega), h.nxt j hj]
theorem bnd12_ends {s : List Int} {n K : Nat} (hW : Wf12 s n K) (i : Nat) (hi : i < n) : ((bnd12 K s).drop 1).getD (S12 s i).toNat 0 = (n : Int) - h12 n (ng12 (S12 s)) (ng12 (S12 s) i) := by
  have h1 := hW.nat hi
  have h2 := bk12_ng n (S12 s) (S12 s i)
  have e : ((bnd12 K s).drop 1).getD (S12 s i).toNat 0 = (bnd12 K s).getD ((S12 s i).toNat + 1) 0 := by
    simp only [List.getD, List.getElem?_drop]
    rw [Nat.add_comm]
  have e1 : S12 s i = s.getD i 0 := rfl
  rw [e, bnd12_get K s _ (by omega), cnt12_bk, hW.len, show ((((S12 s i).toNat + 1 : Nat)) : Int) = S12 s i + 1 by omega]
  unfold h12
  rw [show ng12 (S12 s) i = -(S12 s i) from rfl]
  omega
theorem bnd12_heads {s : List Int} {n K : Nat} (hW : Wf12 s n K) (i : Nat) (hi : i < n) : ((bnd12 K s).take K).getD (S12 s i).toNat 0 = h12 n (S12 s) (S12 s i) := by
  have h1 := hW.nat hi
  have e : ((bnd12 K s).take K).getD (S12 s i).toNat 0 = (bnd12 K s).getD (S12 s i).toNat 0 := by
    simp only [List.getD, List.getElem?_take]
    rw [if_pos h1.2]
  have e1 : S12 s i = s.getD i 0 := rfl
  rw [e, bnd12_get K s _ (by omega), cnt12_bk, hW.len, show ((((S12 s i).toNat : Nat)) : Int) = S12 s i by omega]
  rfl
theorem bnd12_bd {s : List Int} {n K : Nat} (hW : Wf12 s n K) : ∀ z ∈ bnd12 K s, -9223372036854775808 ≤ z ∧ z ≤ 9223372036854775807 := by
  intro z hz
  unfold bnd12 at hz
  rw [List.mem_map] at hz
  obtain ⟨u, _, rfl⟩ := hz
  have := cnt12_le s (u : Int)
  have := hW.len
  have := hW.n24
  omega
theorem SegZ.dropZ {w : World} {b off : Nat} {zs : List Int} (h : SegZ w (some ⟨b, off, none⟩) zs) (m : Nat) : SegZ w (some ⟨b, off + m, none⟩) (zs.drop m) := by
  refine ⟨fun i hi => ?_, getD_bdz fun z hz => h.mem z (List.mem_of_mem_drop hz)⟩
  simp at hi
  obtain ⟨b', off', ha, hc⟩ := h.at_ (m + i) (by omega)
  cases ha
  refine ⟨b, off + m, rfl, ?_⟩
  rw [Nat.add_assoc, hc]
  simp [List.getD]
theorem drop_cons12 (o : List Nat) (i d : Nat) (h : i < o.length) : o.drop i = o.getD i d :: o.drop (i + 1) := by
  rw [List.drop_eq_getElem_cons h]
  simp [List.getD, h]
/-- The pass's place for an order's turn. -/
theorem ps12_at {n K : Nat} {s : List Int} {o : List Nat} (hW : Wf12 s n K) (ho : Or12 n (sm12 s) o) {i : Nat} (hi : i < o.length) : o.getD i 0 < n ∧ ∃ P : Nat, P < n ∧ (ps12 n (S12 s) (o.drop (i + 1))).2 (ng12 (S12 s) (o.getD i 0)) = (P : Int) ∧ ps12 n (S12 s) (o.drop i) = put12 (ng12 (S12 s)) (ps12 n (S12 s) (o.drop (i + 1))) (o.getD i 0) := by
  have hm : o.getD i 0 ∈ o := by simp [List.getD, hi]
  have hs := ho.small _ hm
  have hnd : (o.drop i).Nodup := List.Sublist.nodup (List.drop_sublist _ _) ho.nd
  rw [drop_cons12 o i 0 hi] at hnd
  obtain ⟨h1, h2⟩ := ps12_st (n := n) (S := S12 s) (sm := sm12 s) (o.drop (i + 1)) (List.nodup_cons.1 hnd).2 (fun j hj => ho.small j (List.mem_of_mem_drop hj))
  obtain ⟨P, eP, _, _, _, hPn, _⟩ := h1.place hs.1 hs.2 (fun k => (List.nodup_cons.1 hnd).1 ((h2 _).1 k))
  exact ⟨hs.1, P, hPn, eP, by rw [drop_cons12 o i 0 hi]; rfl⟩
end Go.Proofs.YtmfpdchfofffeaaGreatDoor

namespace Go.Proofs.YtmfpdchfofffeaaGreatDoor
open Go.RowKit
set_option linter.unusedVariables false
set_option maxRecDepth 100000 in
set_option maxHeartbeats 4000000 in
theorem ppt12 (b : Nat) (a : Option Addr) (n cap : Nat) (s : List Int) (K gs gf gn gr : Nat) (nx R : List Int) (oa : Option Addr) (o : List Nat) (m oc : Nat) (w : World) (h : Lr12 w b a n cap s K gs gf gn gr nx R) (hW : Wf12 s n K) (hR : ∀ q, q < n → R.getD q 0 = -1) (ho : Or12 n (sm12 s) o) (hm : Hid (o.length = m)) (hmb : m ≤ 16777216) (hseg : SegZ w oa (nz12 o)) (hoa : ∀ x off, oa = some ⟨x, off, none⟩ → 0 < (nz12 o).length → x ≠ gn ∧ x ≠ gr) :
    Calls Tryz.prog 193 #[.pointer (some ⟨b, 0, none⟩), .slice (some ⟨gr, 0, none⟩) n n, .slice oa m oc] w fun e w' => e = .returned (.tuple #[]) ∧ ∃ nx' R', Lr12 w' b a n cap s K gs gf gn gr nx' R' ∧ Lm12 n s R' nx' (ps12 n (S12 s) o) ∧ Kp (Wr12 gn gr) w w' := by
  have hl := h.li
  have q2 := hl.c2
  have q3 := hl.c3
  have n24 := hW.n24
  have K25 := hW.K25
  have hn : Hid (s.length = n) := hW.len
  have HCS : Hid (((bnd12 K s).drop 1).length = K) := by show _ = _; simp [bnd12_len]
  have HSG : Hid (∀ w', Rz12 w' gf (bnd12 K s) → SegZ w' (some ⟨gf, 1, none⟩) ((bnd12 K s).drop 1)) := fun w' h1 => by have := (h1.seg (bnd12_bd hW)).dropZ 1; simpa using this
  have HS0 : Hid (∀ sp w', K = 0 → SegZ w' sp ((bnd12 K s).drop 1)) := fun sp w' hk => by
    have : (bnd12 K s).drop 1 = [] := List.eq_nil_of_length_eq_zero (by rw [HCS.out, hk])
    rw [this]; exact SegZ.nil _ _
  have HX : Hid (Rz12 w.drew gn nx ∧ nx.length = K ∧ Rz12 w.drew gf (bnd12 K s)) := ⟨hl.nr.drew, hl.nxl, hl.fr.drew⟩
  have HLR : Hid (∀ w1, Rz12 w1 gn ((bnd12 K s).drop 1) → Kp (fun k => k = gn) w.drew w1 → Lr12 w1 b a n cap s K gs gf gn gr ((bnd12 K s).drop 1) R ∧ Kp (Wr12 gn gr) w w1) := by
    intro w1 h1 k1
    have kk : Kp (Wr12 gn gr) w w1 := (Kp.refl _ _).drew.trans (k1.mono (S' := Wr12 gn gr) (fun i _ e => Or.inl e)) (fun _ _ e => e)
    exact ⟨h.kp kk h1 (h.row.drew.kp k1 (fun e => h.e4 e.symm)) (by rw [HCS.out, hl.nxl]) rfl, kk⟩
  have HST : Hid (Lm12 n s R ((bnd12 K s).drop 1) (ps12 n (S12 s) (o.drop (m - 0)))) := by
    rw [show o.drop (m - 0) = [] from List.drop_eq_nil_of_le (by rw [hm.out]; omega)]
    exact ⟨fun q hq => hR (n - 1 - q) (by omega), fun i hi => bnd12_ends hW i hi⟩
  have HAT : Hid (∀ i, i < m → o.getD i 0 < n ∧ ∃ P : Nat, P < n ∧ (ps12 n (S12 s) (o.drop (i + 1))).2 (ng12 (S12 s) (o.getD i 0)) = (P : Int) ∧ ps12 n (S12 s) (o.drop i) = put12 (ng12 (S12 s)) (ps12 n (S12 s) (o.drop (i + 1))) (o.getD i 0)) := fun i hi => ps12_at hW ho (by rw [hm.out]; exact hi)
  clear h hl hR
  by_cases hK0 : K = 0
  · subst hK0
    go_enter Tryz.func193, Tryz.ntmps193
    go_wp2_with fail
    go_region_held3 (fun w' => w'.cell? ⟨b, 3, none⟩ = some (.slice (some ⟨gn, 0, none⟩) 0 0) ∧ w'.cell? ⟨b, 2, none⟩ = some (.slice (some ⟨gf, 0, none⟩) 1 1))
      (first | go_keep | exact ⟨(HLR.out _ R1 K1).1.li.c3, (HLR.out _ R1 K1).1.li.c2⟩)
      (first
        | (refine step_copy12 rfl (.tmp 11) (.tmp 16) rfl gn 0 _ _ _ rfl rfl nx HX.out.1 HX.out.2.1 ((bnd12 0 s).drop 1) HCS.out (Nat.le_refl _) (HS0.out _ _ (by first | trivial | rfl)) ?_; intro w1 R1 K1))
    obtain ⟨L1, KA⟩ := HLR.out w1 R1 K1
    clear R1 K1
    go_wp2_with fail
    go_loopw [21] (fun ti wr => ∃ (k : Nat) (nx' R' : List Int), k ≤ m ∧ ti = .int .i64 k ∧ Lr12 wr b a n cap s 0 gs gf gn gr nx' R' ∧ Lm12 n s R' nx' (ps12 n (S12 s) (o.drop (m - k))) ∧ Kp (Wr12 gn gr) w wr) (fun ti _ => m - (intOf ti).toNat)
    case atStart => exact ⟨0, _, _, Nat.zero_le _, rfl, L1, HST.out, KA⟩
    case round =>
      obtain ⟨k, nx', R', hk, rfl, LR, LM, KB⟩ := hrel
      by_cases h1 : k < m
      · exact absurd (hW.nat (HAT.out (m - 1) (by omega)).1).2 (Nat.not_lt_zero _)
      · have h1i : ¬ (k : Int) < (m : Int) := by omega
        obtain rfl : k = m := by omega
        go_wp2_with fail
        refine bodyPost_end (results_none rfl _ _ _) rfl ?_
        refine ⟨rfl, nx', R', LR, ?_, KB⟩
        rw [Nat.sub_self] at LM
        exact LM
  · have k1 : ¬ K + 1 = 1 := by omega
    have k2 : (1 : Int) ≤ (K : Int) + 1 := by omega
    go_enter Tryz.func193, Tryz.ntmps193
    go_wp2_with fail
    go_region_held3 (fun w' => w'.cell? ⟨b, 3, none⟩ = some (.slice (some ⟨gn, 0, none⟩) K K) ∧ w'.cell? ⟨b, 2, none⟩ = some (.slice (some ⟨gf, 0, none⟩) (K + 1) (K + 1)))
      (first | go_keep | exact ⟨(HLR.out _ R1 K1).1.li.c3, (HLR.out _ R1 K1).1.li.c2⟩)
      (first
        | (refine step_copy12 rfl (.tmp 11) (.tmp 16) rfl gn K _ _ _ rfl rfl nx HX.out.1 HX.out.2.1 ((bnd12 K s).drop 1) HCS.out (Nat.le_refl _) (HSG.out _ HX.out.2.2) ?_; intro w1 R1 K1))
    obtain ⟨L1, KA⟩ := HLR.out w1 R1 K1
    clear R1 K1
    go_wp2_with fail
    go_loopw [21] (fun ti wr => ∃ (k : Nat) (nx' R' : List Int), k ≤ m ∧ ti = .int .i64 k ∧ Lr12 wr b a n cap s K gs gf gn gr nx' R' ∧ Lm12 n s R' nx' (ps12 n (S12 s) (o.drop (m - k))) ∧ Kp (Wr12 gn gr) w wr) (fun ti _ => m - (intOf ti).toNat)
    case atStart => exact ⟨0, _, _, Nat.zero_le _, rfl, L1, HST.out, KA⟩
    case round =>
      obtain ⟨k, nx', R', hk, rfl, LR, LM, KB⟩ := hrel
      by_cases h1 : k < m
      · have h1i : (k : Int) < (m : Int) := by omega
        obtain ⟨i, hi⟩ : ∃ i, m = i + 1 + k := ⟨m - 1 - k, by omega⟩
        have ei : (m : Int) - 1 - (k : Int) = (i : Int) := by omega
        have im : (i : Int) < (m : Int) := by omega
        obtain ⟨hj, P, hPn, eP, eS⟩ := HAT.out i (by omega)
        have HE1 : Hid (o.drop (m - (k + 1)) = o.drop i ∧ o.drop (m - k) = o.drop (i + 1)) := by rw [show m - (k + 1) = i by omega, show m - k = i + 1 by omega]; exact ⟨rfl, rfl⟩
        rw [HE1.out.2] at LM
        obtain ⟨ob, off, rfl, c1⟩ := (hseg.kp KB (fun x off hx hp hw => by rcases hw with e | e; exact (hoa x off hx hp).1 e; exact (hoa x off hx hp).2 e)).at_ i (by rw [nz12_len, hm.out]; omega)
        rw [nz12_get o i 0 (by rw [hm.out]; omega)] at c1
        have HNX := LM.nxt _ hj
        rw [eP] at HNX
        have hna := hW.nat hj
        have HC := ped12 b a n cap s K gs gf gn gr nx' R' (o.getD i 0) (S12 s (o.getD i 0)).toNat (n - 1 - P) wr LR hn n24 K25 hj hna.1 hna.2 (by show _ = _; rw [HNX]; omega) (by omega)
        have HL2 : Hid (Lm12 n s (R'.set (n - 1 - P) ((o.getD i 0 : Nat) : Int)) (nx'.set (S12 s (o.getD i 0)).toNat ((n - 1 - P : Nat) : Int)) (ps12 n (S12 s) (o.drop (m - (k + 1))))) := by
          rw [HE1.out.1, eS]
          exact LM.put hW LR.rl LR.li.nxl hj eP hPn
        clear LM LR eS eP HNX hna hi HE1
        generalize o.getD i 0 = j at *
        go_wp2_with (first | (go_at_call 224; refine HC.mono ?_; rintro e2 w2 ⟨rfl, L2, K2⟩))
        go_roundw
        case rel => exact ⟨k + 1, _, _, by omega, by go_num, L2, HL2.out, KB.trans K2 (fun _ _ e => e)⟩
        case measure => simp [intOf]; omega
      · have h1i : ¬ (k : Int) < (m : Int) := by omega
        obtain rfl : k = m := by omega
        go_wp2_with fail
        refine bodyPost_end (results_none rfl _ _ _) rfl ?_
        refine ⟨rfl, nx', R', LR, ?_, KB⟩
        rw [Nat.sub_self] at LM
        exact LM
end Go.Proofs.YtmfpdchfofffeaaGreatDoor
