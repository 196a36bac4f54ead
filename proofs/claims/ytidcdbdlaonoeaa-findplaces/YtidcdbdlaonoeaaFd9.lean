
import Derived.Test.YtidcdbdlaonoeaaFd4
import Derived.Test.YtidcdbdlaonoeaaSoP
namespace Go.Proofs.Ytidcdbdlaonoeaa
open Go.RowKit
set_option linter.unusedVariables false

/-! All: the landed one (over slices.Sort), the document's; the law's Same. -/
def pl14 (z p : List Int) (k : Nat) : List Nat := (List.range k).filter fun j => decide (cq14 (z.drop j) p = 0)
theorem pl14_succ (z p : List Int) (k : Nat) : pl14 z p (k + 1) = if cv13 (z.drop k) p = 0 then pl14 z p k ++ [k] else pl14 z p k := by
  unfold pl14
  rw [List.range_succ, List.filter_append, cq14_is]
  by_cases c : cq14 (z.drop k) p = 0
  · rw [if_pos c]; simp [c]
  · rw [if_neg c]; simp [c]
theorem pl14_le (z p : List Int) (k : Nat) : (pl14 z p k).length ≤ k := by
  have := List.length_filter_le (fun j => decide (cq14 (z.drop j) p = 0)) (List.range k)
  rw [List.length_range] at this
  exact this
theorem pl14_bd {z p : List Int} {k : Nat} (hk : k ≤ 16777216) : ∀ y ∈ nz12 (pl14 z p k), -9223372036854775808 ≤ y ∧ y ≤ 9223372036854775807 := by
  refine nz12_bd13 (n := k) (fun j hj => ?_) hk
  unfold pl14 at hj
  rw [List.mem_filter, List.mem_range] at hj
  exact hj.1
theorem pl14_len {z p : List Int} : (pl14 z p z.length).length = hi14 z p - lo14 z p := by
  have h1 : hi14 z p = lo14 z p + cn12 (fun j => cv13 (z.drop j) p = 0) z.length := cn12_or (fun j _ => by omega) (fun j _ => by omega)
  rw [h1, Nat.add_sub_cancel_left]
  exact (cn12_chk14 _ (fun i => by rw [cq14_is, decide_eq_true_eq]) _).symm
/-- The places of these ranks, of which so many are told. -/
def sg14 (A : List Nat) (lo k i : Nat) : List Int := (List.range k).map fun j => if j < i then ((A.getD (lo + j) 0 : Nat) : Int) else 0
theorem sg14_len (A : List Nat) (lo k i : Nat) : (sg14 A lo k i).length = k := by simp [sg14]
theorem sg14_zero (A : List Nat) (lo k : Nat) : sg14 A lo k 0 = List.replicate k 0 := by
  refine List.ext_getElem (by simp [sg14]) fun i h1 h2 => ?_
  simp [sg14]
theorem sg14_set {A : List Nat} {lo k i : Nat} (h : i < k) : (sg14 A lo k i).set i ((A.getD (lo + i) 0 : Nat) : Int) = sg14 A lo k (i + 1) := by
  refine List.ext_getElem (by simp [sg14]) fun j h1 h2 => ?_
  simp only [sg14, List.getElem_set, List.getElem_map, List.getElem_range]
  by_cases c : i = j
  · subst c; rw [if_pos rfl, if_pos (by omega)]
  · rw [if_neg c]
    by_cases d : j < i
    · rw [if_pos d, if_pos (by omega)]
    · rw [if_neg d, if_neg (by omega)]
theorem sg14_all (A : List Nat) (lo k : Nat) : sg14 A lo k k = ((List.range k).map fun j => A.getD (lo + j) 0).map fun j : Nat => (j : Int) := by
  refine List.ext_getElem (by simp [sg14]) fun j h1 h2 => ?_
  simp [sg14] at h1
  simp [sg14, h1]
theorem nat_int_perm14 {a b : List Nat} (h : a.Perm b) : (a.map fun j : Nat => (j : Int)).Perm (b.map fun j : Nat => (j : Int)) := h.map _
theorem sg14_perm {z : List Int} {A : List Nat} (hA : Ar12 z.length (S12 z) A) (p : List Int) : ((List.range (hi14 z p - lo14 z p)).map fun j => A.getD (lo14 z p + j) 0).Perm (pl14 z p z.length) := by
  have hh := hi14_le z p
  refine (List.perm_ext_iff_of_nodup ?_ ?_).2 fun x => ?_
  · rw [List.Nodup, List.pairwise_map]
    refine (List.nodup_range (n := hi14 z p - lo14 z p)).imp_of_mem fun {i j} hi hj hne e => hne ?_
    rw [List.mem_range] at hi hj
    have := hA.inj (r := lo14 z p + i) (q := lo14 z p + j) (by omega) (by omega) e
    omega
  · exact List.Pairwise.filter _ List.nodup_range
  · unfold pl14
    rw [List.mem_map, List.mem_filter, List.mem_range, decide_eq_true_eq, ← cq14_is]
    constructor
    · rintro ⟨j, hj, rfl⟩
      rw [List.mem_range] at hj
      have h1 := (lo14_iff hA p (r := lo14 z p + j) (by omega))
      have h2 := (hi14_iff hA p (r := lo14 z p + j) (by omega)).2 (by omega)
      have h3 : ¬ cv13 (z.drop (A.getD (lo14 z p + j) 0)) p < 0 := fun c => by have := h1.1 c; omega
      exact ⟨hA.get (by omega), by omega⟩
    · rintro ⟨h1, h2⟩
      obtain ⟨r1, r2⟩ := hA.rk h1
      have h3 := (hi14_iff hA p r1).1 (by rw [r2]; omega)
      have h4 : ¬ rk13 A x < lo14 z p := fun c => by have := (lo14_iff hA p r1).2 c; rw [r2] at this; omega
      exact ⟨rk13 A x - lo14 z p, by rw [List.mem_range]; omega, by rw [show lo14 z p + (rk13 A x - lo14 z p) = rk13 A x by omega]; exact r2⟩
theorem sg14_sorted {z : List Int} {A : List Nat} (hA : Ar12 z.length (S12 z) A) (p : List Int) : (sg14 A (lo14 z p) (hi14 z p - lo14 z p) (hi14 z p - lo14 z p)).mergeSort (fun x y => decide (x ≤ y)) = nz12 (pl14 z p z.length) := by
  rw [sg14_all]
  have hp := nat_int_perm14 (sg14_perm hA p)
  refine List.Perm.eq_of_pairwise (le := fun a b : Int => decide (a ≤ b) = true) (fun a b _ _ h1 h2 => ?_) (List.pairwise_mergeSort (fun a b c h1 h2 => ?_) (fun a b => ?_) _) ?_ ((List.mergeSort_perm _ _).trans hp)
  · rw [decide_eq_true_eq] at h1 h2; omega
  · rw [decide_eq_true_eq] at h1 h2 ⊢; omega
  · simp only [Bool.or_eq_true, decide_eq_true_eq]; omega
  · unfold pl14 nz12
    rw [List.pairwise_map]
    refine List.Pairwise.filter _ ?_
    exact List.pairwise_lt_range.imp fun {a b} h => by rw [decide_eq_true_eq]; omega
theorem vi_put14 (L S : List Int) (h : S.length = L.length) : Sort.putCells (Value.int .i64) 0 S.toArray (vi12 L) = vi12 S := by
  apply Array.ext
  · simp [Sort.putCells, vi12, h]
  · intro i h1 h2
    have h3 : i < S.length := by simpa [vi12] using h2
    simp [Sort.putCells, vi12, h3]
set_option maxHeartbeats 1000000 in
theorem psort14 (g : Nat) (L : List Int) (n : Nat) (w : World) (R : Rz12 w g L) (hn : L.length = n) (hl : n ≤ 16777216) :
    Calls Try.prog 34 #[.slice (some ⟨g, 0, none⟩) n n] w fun e w' => e = .returned (.tuple #[]) ∧ Rz12 w' g (L.mergeSort fun x y => decide (x ≤ y)) ∧ Kp (fun q => q = g) w w' := by
  subst hn
  by_cases h0 : L.length = 0
  · have : L = [] := List.eq_nil_of_length_eq_zero h0
    subst this
    refine (AnyM.slices_Sort_int_none Try.lsort (some ⟨g, 0, none⟩) 0 w).mono ?_
    rintro e w' ⟨rfl, rfl⟩
    exact ⟨rfl, by simpa using R, Kp.refl _ _⟩
  · have hH : Sort.Holds (Value.int .i64) w g 0 L.toArray := fun j hj => by
      have hj2 : j < L.length := by simpa using hj
      have := R.cell (i := j) hj2
      refine ⟨?_, R.free _⟩
      rw [Nat.zero_add, this]
      simp [List.getD, hj2]
    refine (AnyM.slices_Sort_int Try.lsort g 0 L.length L w hH R.lt (by omega)).mono ?_
    rintro e w' ⟨rfl, k, os, rfl⟩
    have hlt := R.lt
    refine ⟨rfl, ⟨?_⟩, ?_⟩
    · have e1 : (Sort.grow (Sort.putRow (Value.int .i64) (Sort.ahead w k) g 0 (L.mergeSort fun x y => decide (x ≤ y)).toArray) os).heap[g]? = (w.heap.modify g (Sort.onCells (Sort.putCells (Value.int .i64) 0 (L.mergeSort fun x y => decide (x ≤ y)).toArray)))[g]? := by
        unfold Sort.grow Sort.putRow Sort.mapBlock Sort.ahead
        exact Array.getElem?_append_left (by simpa using hlt)
      rw [e1, Array.getElem?_modify, if_pos rfl, R.hp]
      simp only [Option.map_some, Sort.onCells]
      rw [vi_put14 _ _ (by rw [List.length_mergeSort])]
    · refine ⟨rfl, rfl, rfl, ?_, fun i hi hne => ?_⟩
      · simp [Sort.grow, Sort.putRow, Sort.mapBlock, Sort.ahead]
      · have e1 : (Sort.grow (Sort.putRow (Value.int .i64) (Sort.ahead w k) g 0 (L.mergeSort fun x y => decide (x ≤ y)).toArray) os).heap[i]? = (w.heap.modify g (Sort.onCells (Sort.putCells (Value.int .i64) 0 (L.mergeSort fun x y => decide (x ≤ y)).toArray)))[i]? := by
          unfold Sort.grow Sort.putRow Sort.mapBlock Sort.ahead
          exact Array.getElem?_append_left (by simpa using hi)
        rw [e1, Array.getElem?_modify, if_neg (fun e => hne e.symm)]
def AllQ14 (w : World) (z p : List Int) (k : Nat) (e : Ending) (w' : World) : Prop := ∃ g, e = .returned (.tuple #[.slice (some ⟨g, 0, none⟩) k k, .int .i64 0]) ∧ Rz12 w' g (nz12 (pl14 z p z.length)) ∧ w.heap.size ≤ g ∧ Below w.heap.size w w'
set_option maxRecDepth 100000 in
set_option maxHeartbeats 4000000 in
theorem pall14 (b n : Nat) (z : List Int) (A : List Nat) (pa : Option Addr) (p : List Int) (m pc : Nat) (w : World) (h : IX14 w b n z A) (hp : Seg w pa p) (hm : Hid (p.length = m)) (hmb : m ≤ 9223372036854775807) :
    Calls Try.prog 16 #[.pointer (some ⟨b, 0, none⟩), .slice pa m pc] w (AllQ14 w z p (hi14 z p - lo14 z p)) := by
  have HR := prange14 b n z A pa p m pc w h hp hm hmb
  have hlh := lo14_le_hi z p
  have hn24 := h.n24
  have hhn : hi14 z p ≤ n := by rw [← h.len]; exact hi14_le z p
  have HAT : Hid (∀ W r, Below w.heap.size w W → r < n → Calls Try.prog 33 #[.pointer (some ⟨b, 0, none⟩), .int .i64 (r : Int)] W fun e w' => e = .returned (.tuple #[.int .i64 ((A.getD r 0 : Nat) : Int), .int .i64 0]) ∧ Below W.heap.size W w') := fun W r hb hr => (h.old hb).at_ hr
  have HSO : Hid ((sg14 A (lo14 z p) (hi14 z p - lo14 z p) (hi14 z p - lo14 z p)).mergeSort (fun x y => decide (x ≤ y)) = nz12 (pl14 z p z.length)) := sg14_sorted h.arz p
  have HAG : Hid (∀ r, r < n → A.getD r 0 < n) := fun r hr => h.ar.get hr
  unfold AllQ14
  rw [← HSO.out]
  clear h hp
  generalize lo14 z p = lo at *
  generalize hi14 z p = hi at *
  obtain ⟨k, hk⟩ : ∃ k, k = hi - lo := ⟨_, rfl⟩
  rw [← hk]
  have e1 : (hi : Int) - (lo : Int) = (k : Int) := by omega
  have hkn : lo + k ≤ n := by omega
  have HMK : Hid (∀ W : World, (Instr.makeSlice 37 (.int .i64 (k : Int)) (.int .i64 (k : Int))).run Try.prog W = .ok (.slice (some ⟨W.heap.size, 0, none⟩) k k) (W.alloc (.cells (vi12 (sg14 A lo k 0)) 3))) := fun W => by rw [sg14_zero]; exact run_make_i12 k (by omega) W
  have HSRT : Hid (∀ W g, Rz12 W g (sg14 A lo k k) → Calls Try.prog 34 #[.slice (some ⟨g, 0, none⟩) k k] W fun e w' => e = .returned (.tuple #[]) ∧ Rz12 w' g ((sg14 A lo k k).mergeSort fun x y => decide (x ≤ y)) ∧ Kp (fun q => q = g) W w') := fun W g R => psort14 g _ k W R (sg14_len _ _ _ _) (by omega)
  clear hk
  go_enter Try.func16, Try.ntmps16
  go_wp2_with (first
    | (go_at_call 11; refine HR.mono ?_; rintro e0 w0 ⟨rfl, B0⟩; clear HR; have hmk := HMK.out w0; obtain ⟨g, hg⟩ : ∃ g, g = w0.heap.size := ⟨_, rfl⟩; obtain ⟨w1, hw1⟩ : ∃ w1, w1 = w0.alloc (.cells (vi12 (sg14 A lo k 0)) 3) := ⟨_, rfl⟩; have HG : Hid (g = w0.heap.size) := hg; have HW1 : Hid (w1 = w0.alloc (.cells (vi12 (sg14 A lo k 0)) 3)) := hw1; rw [← hw1, ← hg] at hmk; clear hg hw1))
  have R1 : Rz12 w1 g (sg14 A lo k 0) := by rw [HW1.out, HG.out]; exact Rz12.new _ _
  have B1 : Below w.heap.size w w1 := by rw [HW1.out]; exact B0.alloc B0.size _
  have hgw : w.heap.size ≤ g := by rw [HG.out]; exact B0.size
  go_loopw [27] (fun ti wr => ∃ i : Nat, i ≤ k ∧ ti = .int .i64 i ∧ Rz12 wr g (sg14 A lo k i) ∧ Below w.heap.size w wr) (fun ti _ => k - (intOf ti).toNat)
  case atStart => exact ⟨0, Nat.zero_le _, rfl, R1, B1⟩
  case round =>
    obtain ⟨i, hi1, rfl, hR, hb⟩ := hrel
    clear R1 B1 hmk
    by_cases h1 : i < k
    · have h1i : (i : Int) < (k : Int) := by omega
      have HA2 := HAT.out wr (lo + i) hb (by omega)
      have hat := HAG.out (lo + i) (by omega)
      have HSE : Hid (∀ W, Rz12 W g (sg14 A lo k i) → Rz12 (W.setCell ⟨g, i, none⟩ (.int .i64 ((A.getD (lo + i) 0 : Nat) : Int))) g (sg14 A lo k (i + 1))) := fun W R => by
        have := R.set i ((A.getD (lo + i) 0 : Nat) : Int)
        rw [sg14_set h1] at this
        exact this
      have HCE : Hid (∀ W, Rz12 W g (sg14 A lo k i) → W.cell? ⟨g, i, none⟩ = some (.int .i64 ((sg14 A lo k i).getD i 0)) ∧ W.frozen? ⟨g, i, none⟩ = false) := fun W R => ⟨R.cell (by rw [sg14_len]; exact h1), R.free i⟩
      obtain ⟨s, hs⟩ : ∃ s, s = lo + i := ⟨_, rfl⟩
      rw [← hs] at HA2 HSE hat
      have hsi : (lo : Int) + (i : Int) = (s : Int) := by omega
      have hsn : s ≤ n := by omega
      clear hs
      generalize A.getD s 0 = v at *
      generalize (sg14 A lo k i).getD i 0 = y at *
      go_wp2_with (first
        | (go_at_call 33; refine HA2.mono ?_; rintro e2 w2 ⟨rfl, B2⟩; clear HA2; have R2 := hR.old B2; obtain ⟨c2, f2⟩ := HCE.out w2 R2; have b2 := hb.trans (B2.mono hb.size)))
      go_roundw
      case rel => exact ⟨i + 1, by omega, by go_num, HSE.out w2 R2, b2.trans ((Kp.set (S := fun q => q = g) rfl _).below (fun q h => by omega) b2.size)⟩
      case measure => simp [intOf]; omega
    · have h1i : ¬ (i : Int) < (k : Int) := by omega
      obtain rfl : i = k := by omega
      have CS := HSRT.out wr g hR
      go_wp2_with (first
        | (go_at_call 34; refine CS.mono ?_; rintro e2 w2 ⟨rfl, R2, K2⟩; clear CS))
      refine bodyPost_ret (results_tmp2 rfl _ _ _) rfl ?_
      exact ⟨g, rfl, R2, hgw, hb.trans (K2.below (fun q h => by omega) hb.size)⟩
set_option maxRecDepth 100000 in
set_option maxHeartbeats 2000000 in
theorem same14 (a b : Option Addr) (xs : List Int) (n ca cb : Nat) (w : World) (hx : SegZ w a xs) (hy : SegZ w b xs) (hn : Hid (xs.length = n)) (hl : n ≤ 9223372036854775807) :
    Calls Try.prog 18 #[.slice a n ca, .slice b n cb] w fun e w' => e = .returned (.bool true) ∧ Below w.heap.size w w' := by
  have KEY : Hid (∀ wr, (∃ d, wr = w.drewN d) → SegZ wr a xs ∧ SegZ wr b xs) := by
    rintro wr ⟨d, rfl⟩
    exact ⟨hx.drewN d, hy.drewN d⟩
  clear hx hy
  go_enter Try.func18, Try.ntmps18
  go_wp2_with fail
  go_loopw [5] (fun ti wr => ∃ k : Nat, k ≤ n ∧ ti = .int .i64 k ∧ ∃ d, wr = w.drewN d) (fun ti _ => n - (intOf ti).toNat)
  case atStart => exact ⟨0, Nat.zero_le _, rfl, 0, rfl⟩
  case round =>
    obtain ⟨k, hk, rfl, hd⟩ := hrel
    obtain ⟨sx, sy⟩ := KEY.out wr hd
    obtain ⟨d, hd⟩ := hd
    have HD : Hid (wr = w.drewN d) := hd
    clear hd
    by_cases h1 : k < n
    · have h1i : (k : Int) < (n : Int) := by omega
      obtain ⟨b1, o1, rfl, c1⟩ := sx.at_ k (by rw [hn.out]; exact h1)
      obtain ⟨b2, o2, rfl, c2⟩ := sy.at_ k (by rw [hn.out]; exact h1)
      have v1 := sx.bd k
      clear sx sy
      generalize xs.getD k 0 = y at *
      go_wp2_with fail
      go_quiet (fail)
      go_wp2_with fail
      go_roundw
      case rel => exact ⟨k + 1, by omega, by go_num, d + nq, by rw [HD.out, drewN14]⟩
      case measure => simp [intOf]; omega
    · have h1i : ¬ (k : Int) < (n : Int) := by omega
      go_wp2_with fail
      go_ret
      exact ⟨by first | rfl | simp, by rw [HD.out]; exact below_drewN14 w d⟩
def RAllQ14 (w : World) (L : List Nat) (e : Ending) (w' : World) : Prop := ∃ ra rc, e = .returned (.slice ra L.length rc) ∧ SegZ w' ra (nz12 L) ∧ (∀ x off, ra = some ⟨x, off, none⟩ → w.heap.size ≤ x) ∧ Below w.heap.size w w'
set_option maxRecDepth 100000 in
set_option maxHeartbeats 4000000 in
theorem rall14 (da : Option Addr) (z : List Int) (n dc : Nat) (pa : Option Addr) (p : List Int) (m pc : Nat) (w : World) (hs : Seg w da z) (hp : Seg w pa p) (hn : Hid (z.length = n)) (hm : Hid (p.length = m)) (hb : n ≤ 16777216) (hb2 : m ≤ 140737488351232) :
    Calls Try.prog 17 #[.slice da n dc, .slice pa m pc] w (RAllQ14 w (pl14 z p n)) := by
  obtain ⟨i0, hi, hz0, hz1, hz2⟩ := info_parts info_i12
  have HST : Hid (∀ i W, i ≤ n → Below w.heap.size w W → Calls Try.prog 30 #[.slice da n dc, .slice pa m pc, .int .i64 (i : Int)] W fun e w' => e = .returned (.bool (decide (cv13 (z.drop i) p = 0))) ∧ Below W.heap.size W w') := fun i W hi hB => (rstan14 da z n dc pa p m pc i _ (hs.old hB) (hp.old hB) hn hm (by omega) hb2 hi).mono fun e w' ⟨he, d2, hd⟩ => ⟨he, by rw [hd]; exact below_drewN14 W d2⟩
  have HBD : Hid (∀ k, k ≤ n → ∀ y ∈ nz12 (pl14 z p k), -9223372036854775808 ≤ y ∧ y ≤ 9223372036854775807) := fun k hk => pl14_bd (by omega)
  have HSU : Hid (∀ k, pl14 z p (k + 1) = if cv13 (z.drop k) p = 0 then pl14 z p k ++ [k] else pl14 z p k) := pl14_succ z p
  have HLE : Hid (∀ k, (pl14 z p k).length ≤ k) := pl14_le z p
  have H0 : Hid (pl14 z p 0 = []) := rfl
  clear hs hp
  go_enter Try.func17, Try.ntmps17
  go_wp2_with fail
  go_loopw [5, 6] (fun to ti wr => ∃ (k l rc : Nat) (ra : Option Addr), k ≤ n ∧ ti = .int .i64 k ∧ to = .slice ra l rc ∧ Hid ((pl14 z p k).length = l) ∧ wr.ownsRow w.heap.size 3 1 (.slice ra l rc) l ((nz12 (pl14 z p k)).map (Value.int .i64)) ∧ Below w.heap.size w wr) (fun _ ti _ => n - (intOf ti).toNat)
  case atStart => exact ⟨0, 0, 0, none, Nat.zero_le _, rfl, rfl, (by rw [H0.out]; rfl : _ = _), by rw [H0.out]; exact World.ownsRow_nil _ _ _ _, Below.refl _ _⟩
  case round =>
    obtain ⟨k, l, rc, ra, hk, rfl, rfl, HL, hown, hB⟩ := hrel
    have hlk : l ≤ k := by rw [← HL.out]; exact HLE.out k
    by_cases h1 : k < n
    · have h1i : (k : Int) < (n : Int) := by omega
      have C1 := HST.out k wr hk hB
      have HS := HSU.out k
      by_cases hv : cv13 (z.drop k) p = 0
      · rw [if_pos hv] at HS
        rw [decide_eq_true hv] at C1
        have HS2 : Hid (pl14 z p (k + 1) = pl14 z p k ++ [k]) := HS
        clear hv HS
        generalize pl14 z p k = T at *
        go_wp2_with (first
          | (go_at_call 30; refine C1.mono ?_; rintro e1 w1 ⟨rfl, B1⟩; clear C1; have own1 := own_below hown B1; have b1 := hB.trans (B1.mono hB.size))
          | (at_builtin; refine wpList_ap12 rfl (.tmp 17) (.tmp 19) 37 rfl w.heap.size 3 i0 (.int .i64 0) 8 Try.underlying37 hi hz0 hz1 hz2 rfl w1 _ own1 rfl rfl (by omega) (by omega) b1.size ?_; intro ga gc w3 own3 hk3 hat3))
        have B3 : Below w.heap.size w w3 := b1.trans (hk3.below (fun q e => (own1.lt q e).1) b1.size)
        go_roundw
        case rel => exact ⟨k + 1, l + 1, gc, some ⟨ga, 0, none⟩, by omega, by go_num, rfl, (by rw [HS2.out]; simp [HL.out] : _ = _), by rw [HS2.out]; simpa [nz12] using own3, B3⟩
        case measure => simp [intOf]; omega
      · rw [if_neg hv] at HS
        rw [decide_eq_false hv] at C1
        have HS2 : Hid (pl14 z p (k + 1) = pl14 z p k) := HS
        clear hv HS
        go_wp2_with (first
          | (go_at_call 30; refine C1.mono ?_; rintro e1 w1 ⟨rfl, B1⟩; clear C1; have own1 := own_below hown B1; have b1 := hB.trans (B1.mono hB.size)))
        go_roundw
        case rel => exact ⟨k + 1, l, rc, ra, by omega, by go_num, rfl, (by rw [HS2.out]; exact HL.out : _ = _), by rw [HS2.out]; exact own1, b1⟩
        case measure => simp [intOf]; omega
    · have h1i : ¬ (k : Int) < (n : Int) := by omega
      obtain rfl : k = n := by omega
      go_wp2_with fail
      go_ret
      refine ⟨ra, rc, by rw [HL.out]; rfl, own_segZ hown (HBD.out k (Nat.le_refl _)), fun x off e => (hown.lt x (by rw [e]; rfl)).1, hB⟩
end Go.Proofs.Ytidcdbdlaonoeaa
