import Derived.Test.YthcmebmohhajaaaDoorPk
import Derived.Test.YthcmebmohhajaaaDoorPh
import Derived.Test.YthcmebmohhajaaaDoorPc
import Derived.Laws.CopyOwn
import Derived.Test.YthcmebmohhajaaaDoorPj
import Derived.Test.YthcmebmohhajaaaDoorPa
import Derived.Deep.RegionHeld3
namespace Go.Proofs.YthcmebmohhajaaaDoor
open Go.RowKit
set_option linter.unusedVariables false
set_option linter.unusedSimpArgs false

/-! The landed head: trimmed, tally, toldOf. -/
theorem info_sz8 : (Tryd.prog.info? 3).map (·.size) = some 1 := by kernel_rfl
theorem ints_one8 (l : List Int) : ∀ v ∈ l.map (Value.int .i64), v.oneCell' = true := by
  intro v hv
  obtain ⟨z, _, rfl⟩ := List.mem_map.1 hv
  rfl
theorem cut8_zero (zs : List Int) : ∀ m, cut8 zs m ≤ m ∧ ∀ j, cut8 zs m ≤ j → j < m → zs.getD j 0 = 0
  | 0 => ⟨Nat.le_refl _, fun j _ h => by omega⟩
  | m + 1 => by
    obtain ⟨h1, h2⟩ := cut8_zero zs m
    rw [cut8]
    split
    · rename_i h
      refine ⟨by omega, fun j hj hjm => ?_⟩
      by_cases e : j = m
      · subst e; exact h
      · exact h2 j hj (by omega)
    · exact ⟨Nat.le_refl _, fun j hj hjm => by omega⟩
theorem take_zeros {zs : List Int} {c m : Nat} (hc : c ≤ m) (hm : m ≤ zs.length) (h : ∀ j, c ≤ j → j < m → zs.getD j 0 = 0) : zs.take m = zs.take c ++ List.replicate (m - c) 0 := by
  apply List.ext_getElem
  · simp; omega
  · intro i h1 h2
    simp only [List.length_take] at h1
    by_cases hi : i < c
    · rw [List.getElem_append_left (by simp; omega)]
      simp
    · rw [List.getElem_append_right (by simp; omega), List.getElem_replicate, List.getElem_take]
      have := h i (by omega) (by omega)
      simpa [List.getD, show i < zs.length by omega] using this
/-- What trimmed answers. -/
theorem trim8_eq {zs : List Int} {k m : Nat} (hm : m ≤ zs.length) (hc : cut8 zs zs.length = cut8 zs m) (hk : m ≤ k ∨ cut8 zs m = m) : zs.take m ++ List.replicate (k - m) 0 = sht8 zs k := by
  obtain ⟨h1, h2⟩ := cut8_zero zs m
  unfold sht8
  rw [hc]
  rcases hk with hk | hk
  · rw [take_zeros h1 hm h2, List.append_assoc, List.replicate_append_replicate, show m - cut8 zs m + (k - m) = k - cut8 zs m by omega]
  · rw [hk]
set_option maxRecDepth 100000 in
set_option maxHeartbeats 4000000 in
theorem ptrim8 (zs : List Int) (k : Nat) (a : Option Addr) (n cap : Nat) (hn : Hid (zs.length = n)) (w : World) (hs : SegZ w a zs) (hcap : n ≤ cap) (hl : n ≤ 1000) (hk : k ≤ 1000) :
    Calls Tryd.prog 48 #[.slice a n cap, .int .i64 (k : Int)] w (ShQ w 3 (sht8 zs k)) := by
  have HS : Hid (SegZ w a zs) := hs
  clear hs
  go_enter Tryd.func48, Tryd.ntmps48
  go_wp2_with fail
  go_loopw [5] (fun tm wr => ∃ m : Nat, m ≤ n ∧ tm = .int .i64 (m : Int) ∧ Hid (cut8 zs zs.length = cut8 zs m) ∧ wr = w) (fun tm _ => (intOf tm).toNat)
  case atStart => exact ⟨n, Nat.le_refl _, rfl, by show _ = _; rw [hn.out], rfl⟩
  case round =>
    obtain ⟨m, hm, rfl, HC, hwr⟩ := hrel
    have hwr2 : w = wr := hwr.symm
    subst hwr2
    clear hwr
    have HEND : Hid (¬ k < m ∨ (zs.getD (m - 1) 0 ≠ 0 ∧ 0 < m) → ∀ (o : Nat) (w3 : World), w.heap.size ≤ o → w3.heap[o]? = some (.cells (splice (List.replicate (max m k) (Value.int .i64 0)) 0 ((zs.take m).map (Value.int .i64))).toArray 3 (0, 0)) → Below w.heap.size w w3 → ShQ w 3 (sht8 zs k) (.returned (.slice (some ⟨o, 0, none⟩) (max m k) (max m k))) w3) := fun hst o w3 ho hh hb => by
      have he := trim8_eq (k := k) (zs := zs) (m := m) (by rw [hn.out]; exact hm) HC.out (by
        rcases hst with h | ⟨h, h0⟩
        · exact .inl (by omega)
        · right
          obtain ⟨q, rfl⟩ : ∃ q, m = q + 1 := ⟨m - 1, by omega⟩
          rw [cut8, if_neg (by simpa using h)])
      have hlt : (zs.take m).length = m := by rw [List.length_take, hn.out]; omega
      have hsp : splice (List.replicate (max m k) (Value.int .i64 0)) 0 ((zs.take m).map (Value.int .i64)) = (sht8 zs k).map (Value.int .i64) := by
        rw [← he]
        unfold splice
        rw [List.take_zero, List.nil_append, Nat.zero_add, List.length_map, hlt, List.drop_replicate, List.map_append, List.map_replicate, show max m k - m = k - m by omega]
      have hll : (sht8 zs k).length = max m k := by
        rw [← he, List.length_append, hlt, List.length_replicate]
        omega
      rw [hsp] at hh
      refine ⟨some ⟨o, 0, none⟩, max m k, by rw [hll], ?_, hb⟩
      rw [hll]
      exact ⟨by simp [hll], .inr ⟨o, max m k, _, rfl, ho, hh, Nat.le_refl _, by unfold maxLen; omega, by simp [hll], by simp; exact List.take_of_length_le (by simp [hll])⟩⟩
    have HMK : Hid ((k < m → max m k = m) ∧ (¬ k < m → max m k = k)) := ⟨fun _ => by omega, fun _ => by omega⟩
    have HMM : Hid (max m k ≤ 1000 ∧ m ≤ max m k) := ⟨by omega, by omega⟩
    have HSEG : Hid (0 < m → ∃ ad, a = some ad ∧ ∀ j v, ((zs.take m).map (Value.int .i64))[j]? = some v → w.cell? (ad.add j) = some v) := fun h0 => by
      obtain ⟨b, off, rfl, _⟩ := (show SegZ w a zs from HS.out).at_ 0 (by rw [hn.out]; omega)
      exact ⟨_, rfl, segZ_cells ((show SegZ w (some ⟨b, off, none⟩) zs from HS.out).take m)⟩
    have HLT : Hid ((zs.take m).length = m) := by show _ = _; rw [List.length_take, hn.out]; omega
    have hst : (k < m ∧ zs.getD (m - 1) 0 = 0) ∨ (k < m ∧ zs.getD (m - 1) 0 ≠ 0) ∨ ¬ k < m := by
      by_cases h1 : k < m
      · by_cases h2 : zs.getD (m - 1) 0 = 0
        · exact .inl ⟨h1, h2⟩
        · exact .inr (.inl ⟨h1, h2⟩)
      · exact .inr (.inr h1)
    rcases hst with ⟨h1, h2⟩ | hst
    · obtain ⟨q, rfl⟩ : ∃ q, m = q + 1 := ⟨m - 1, by omega⟩
      simp only [Nat.add_sub_cancel] at h2
      obtain ⟨b, off, rfl, c0⟩ := (show SegZ w a zs from HS.out).at_ q (by rw [hn.out]; omega)
      rw [h2] at c0
      have h1i : (k : Int) < ((q + 1 : Nat) : Int) := by omega
      have HC2 : Hid (cut8 zs zs.length = cut8 zs q) := by show _ = _; rw [HC.out, cut8, if_pos h2]
      clear HC HEND HMK HMM HSEG HLT
      go_wp2_with fail
      go_roundw
      case rel => exact ⟨q, by omega, by go_num, HC2, trivial⟩
      case measure => simp [intOf]
    · have HE2 := HEND.out (by rcases hst with ⟨h1, h2⟩ | h1; exact .inr ⟨h2, by omega⟩; exact .inl h1)
      have HE : Hid (∀ (o : Nat) (w3 : World), w.heap.size ≤ o → w3.heap[o]? = some (.cells (splice (List.replicate (max m k) (Value.int .i64 0)) 0 ((zs.take m).map (Value.int .i64))).toArray 3 (0, 0)) → Below w.heap.size w w3 → ShQ w 3 (sht8 zs k) (.returned (.slice (some ⟨o, 0, none⟩) (max m k) (max m k))) w3) := HE2
      have hcell : k < m → ∃ q b off z, m = q + 1 ∧ a = some ⟨b, off, none⟩ ∧ w.cell? ⟨b, off + q, none⟩ = some (.int .i64 z) ∧ (z == 0) = false := fun h1 => by
        obtain ⟨q, rfl⟩ : ∃ q, m = q + 1 := ⟨m - 1, by omega⟩
        obtain ⟨b, off, ha, c0⟩ := (show SegZ w a zs from HS.out).at_ q (by rw [hn.out]; omega)
        refine ⟨q, b, off, _, rfl, ha, c0, ?_⟩
        rcases hst with ⟨_, h2⟩ | h2
        · rw [beq_eq_false_iff_ne]; simpa using h2
        · omega
      clear HEND HE2 HC
      generalize max m k = M at *
      have H2L : Hid ((w.alloc (.cells (Array.replicate M (.int .i64 0)) 3)).heap[w.heap.size]? = some (.cells (List.replicate M (Value.int .i64 0)).toArray 3 (0, 0))) := by
        show _ = _
        rw [heap_alloc_new]
        simp
      have HB0 : Hid (Below w.heap.size w (w.alloc (.cells (Array.replicate M (.int .i64 0)) 3))) := below_box8 w _
      have HSG2 : Hid (0 < m → ∃ ad, a = some ad ∧ ∀ j v, ((zs.take m).map (Value.int .i64))[j]? = some v → (w.alloc (.cells (Array.replicate M (.int .i64 0)) 3)).cell? (ad.add j) = some v) := fun h0 => by
        obtain ⟨ad, ha, hc⟩ := HSEG.out h0
        refine ⟨ad, ha, fun j v hv => ?_⟩
        have hc1 := hc j v hv
        have hl1 := World.block_lt_of_cell? w _ hc1
        exact ((below_box8 w _).cell (p := ad.add j) hl1).trans hc1
      clear HSEG
      have hmc : (m : Int) ≤ (cap : Int) := by omega
      have hmn : (m : Int) ≤ (n : Int) := by omega
      have hm0 : (0 : Int) ≤ (m : Int) := by omega
      by_cases h1 : k < m
      · obtain ⟨q, b, off, z, rfl, rfl, c0, hzb⟩ := hcell h1
        have h1i : (k : Int) < ((q + 1 : Nat) : Int) := by omega
        obtain rfl : M = q + 1 := HMK.out.1 h1
        have hmk : ∀ W, (Instr.makeSlice 34 (.int .i64 ((q : Int) + 1)) (.int .i64 ((q : Int) + 1))).run Tryd.prog W = .ok (.slice (some ⟨W.heap.size, 0, none⟩) (q + 1) (q + 1)) (W.alloc (.cells (Array.replicate (q + 1) (.int .i64 0)) 3)) := fun W => by
          rw [show (q : Int) + 1 = ((q + 1 : Nat) : Int) by omega]
          exact run_make_ints (q + 1) (by omega) W
        clear hcell HMK
        go_wp2_with (refine wpList_copy_splice rfl (.tmp 26) (.tmp 29) 34 34 rfl 3 Tryd.underlying34 info_sz8 (some ⟨w.heap.size, 0, none⟩) _ (q + 1) (q + 1) (q + 1) _ rfl rfl w.heap.size 0 (List.replicate (q + 1) (Value.int .i64 0)) 3 H2L.out ((zs.take (q + 1)).map (Value.int .i64)) (by have h8 := HLT.out; have h9 := HMM.out; rw [List.length_map, h8]; show _ = min _ _; omega) (fun h => ⟨rfl, HSG2.out (by omega)⟩) (by have := HLT.out; have := HMM.out; simp only [List.length_map, List.length_replicate]; omega) (ints_one8 _) w.heap.size w HB0.out (Nat.le_refl _) ?_; intro w3 HW3 bw3)
        go_ret
        exact HE.out _ _ (Nat.le_refl _) HW3.out bw3
      · have h1i : ¬ (k : Int) < (m : Int) := by omega
        obtain rfl : M = k := HMK.out.2 h1
        have hmk := run_make_ints M (by omega)
        clear hcell HMK
        have hmM : m = M ∨ (m : Int) < (M : Int) := by omega
        rcases hmM with rfl | hmM
        all_goals
          go_wp2_with (refine wpList_copy_splice rfl (.tmp 26) (.tmp 29) 34 34 rfl 3 Tryd.underlying34 info_sz8 (some ⟨w.heap.size, 0, none⟩) _ _ _ m _ rfl rfl w.heap.size 0 (List.replicate _ (Value.int .i64 0)) 3 H2L.out ((zs.take m).map (Value.int .i64)) (by have h8 := HLT.out; have h9 := HMM.out; rw [List.length_map, h8]; show _ = min _ _; omega) (fun h => ⟨rfl, HSG2.out (by have := HLT.out; simp only [List.length_map] at h; omega)⟩) (by have := HLT.out; have := HMM.out; simp only [List.length_map, List.length_replicate]; omega) (ints_one8 _) w.heap.size w HB0.out (Nat.le_refl _) ?_; intro w3 HW3 bw3)
          go_ret
          exact HE.out _ _ (Nat.le_refl _) HW3.out bw3
/-- How often each symbol stands among runs. -/
def tly8 (R : List Rn8) : List Int := (List.range 19).map fun (s : Nat) => ((R.filter fun r => r.sy == (s : Int)).length : Int)
theorem tly8_len (R : List Rn8) : (tly8 R).length = 19 := by simp [tly8]
theorem tly8_get (R : List Rn8) {s : Nat} (h : s < 19) : (tly8 R).getD s 0 = ((R.filter fun r => r.sy == (s : Int)).length : Int) := by simp [tly8, List.getD, h]
theorem tly8_snoc (R : List Rn8) {s : Nat} {c : Int} (h : s < 19) : tly8 (R ++ [⟨(s : Int), c⟩]) = (tly8 R).set s ((tly8 R).getD s 0 + 1) := by
  apply List.ext_getElem
  · simp [tly8]
  · intro i h1 h2
    have hi : i < 19 := by simpa [tly8] using h1
    rw [List.getElem_set]
    by_cases e : s = i
    · subst e
      rw [if_pos rfl, tly8_get R h]
      simp [tly8, List.filter_append]
    · rw [if_neg e]
      have : ¬ ((s : Int) = (i : Int)) := by omega
      simp [tly8, List.filter_append, this]
theorem tly8_bd (R : List Rn8) : ∀ z ∈ tly8 R, 0 ≤ z ∧ z ≤ R.length := by
  intro z hz
  unfold tly8 at hz
  obtain ⟨s, _, rfl⟩ := List.mem_map.1 hz
  have := List.length_filter_le (fun r : Rn8 => r.sy == (s : Int)) R
  omega
set_option maxRecDepth 100000 in
set_option maxHeartbeats 4000000 in
theorem ptally8 (R : List Rn8) (a : Option Addr) (n cap : Nat) (hn : Hid (R.length = n)) (w : World) (hs : SegN w a R) (hok : ∀ r ∈ R, 0 ≤ r.sy ∧ r.sy ≤ 18) (hl : n ≤ 1000) :
    Calls Tryd.prog 50 #[.slice a n cap] w (ShQ w 3 (tly8 R)) := by
  have HS : Hid (SegN w a R) := hs
  have HOK : Hid (∀ r ∈ R, 0 ≤ r.sy ∧ r.sy ≤ 18) := hok
  have hmk : ∀ W, (Instr.makeSlice 34 (.int .i64 19) (.int .i64 19)).run Tryd.prog W = .ok (.slice (some ⟨W.heap.size, 0, none⟩) 19 19) (W.alloc (.cells (Array.replicate 19 (.int .i64 0)) 3)) := fun W => run_make_ints 19 (by omega) W
  clear hs hok
  go_enter Tryd.func50, Tryd.ntmps50
  go_wp2_with fail
  have O0 := own_zeros w 19 (by omega)
  have B0 := below_box8 w (.cells (Array.replicate 19 (.int .i64 0)) 3)
  generalize w.alloc (.cells (Array.replicate 19 (.int .i64 0)) 3) = w0 at *
  go_loopw [9] (fun ti wr => ∃ i : Nat, i ≤ n ∧ ti = .int .i64 (i : Int) ∧ wr.ownsRow w.heap.size 3 1 (.slice (some ⟨w.heap.size, 0, none⟩) 19 19) 19 ((tly8 (R.take i)).map (Value.int .i64)) ∧ Below w.heap.size w wr) (fun ti _ => n - (intOf ti).toNat)
  case atStart => exact ⟨0, by omega, rfl, by rw [List.take_zero]; exact O0, B0⟩
  case round =>
    obtain ⟨i, hin, rfl, OO, BR⟩ := hrel
    clear O0 B0
    by_cases hlt : i < n
    · have hlti : (i : Int) < (n : Int) := by omega
      have hil : i < R.length := by rw [hn.out]; exact hlt
      obtain ⟨b, off, rfl, cs, cc⟩ := ((show SegN w a R from HS.out).old BR).at_ i hil
      have HTK : Hid (R.take (i + 1) = R.take i ++ [R.getD i ⟨0, 0⟩]) := take_snocN hil
      have hbd := HOK.out (R.getD i ⟨0, 0⟩) (by simp [List.getD, hil])
      generalize R.getD i ⟨0, 0⟩ = r at *
      obtain ⟨sy, ct⟩ := r
      simp only at cs cc hbd
      obtain ⟨s, rfl⟩ : ∃ s : Nat, sy = (s : Int) := ⟨sy.toNat, by omega⟩
      have hs19 : (s : Int) < 19 := by omega
      have hzb := tly8_bd (R.take i) ((tly8 (R.take i)).getD s 0) (by have : s < (tly8 (R.take i)).length := by rw [tly8_len]; omega
                                                                      simp [List.getD, this])
      rw [List.length_take] at hzb
      have HSN : Hid (tly8 (R.take (i + 1)) = (tly8 (R.take i)).set s ((tly8 (R.take i)).getD s 0 + 1)) := by
        show _ = _
        rw [HTK.out, tly8_snoc _ (by omega)]
      obtain ⟨d0, fz⟩ := own_cell1 OO (i := s) (by rw [tly8_len]; omega)
      have f0 := fz s
      obtain ⟨OS, GS⟩ := OO.stored s (.int .i64 ((tly8 (R.take i)).getD s 0 + 1))
      rw [← List.map_set, ← HSN.out] at OS
      have hsz := BR.size
      have hwlt : w.heap.size < wr.heap.size := (OO.lt _ rfl).2
      have B1 : Below w.heap.size w (wr.setCell ⟨w.heap.size, s, none⟩ (.int .i64 ((tly8 (R.take i)).getD s 0 + 1))) := BR.trans ((Below.refl _ _).grown GS hsz (fun k hk => by cases hk; exact Nat.le_refl _))
      have HB : Hid (Below w.heap.size w ((wr.setCell ⟨w.heap.size, s, none⟩ (.int .i64 ((tly8 (R.take i)).getD s 0 + 1))).alloc (.cells #[.int .i64 (s : Int), .int .i64 ct] 78))) := B1.alloc B1.size _
      have HOS : Hid _ := OS.alloc (.cells #[.int .i64 (s : Int), .int .i64 ct] 78)
      clear B1
      clear OS GS fz HSN HTK
      generalize (tly8 (R.take i)).getD s 0 = z at *
      have hneb : ¬ wr.heap.size = w.heap.size := by omega
      go_wp2_with fail
      go_roundw
      case rel => exact ⟨i + 1, by omega, by go_num, HOS.out, HB.out⟩
      case measure => simp [intOf]; omega
    · have hge : ¬ (i : Int) < (n : Int) := by omega
      have hTA : R.take i = R := List.take_of_length_le (by rw [hn.out]; omega)
      rw [hTA] at OO
      go_wp2_with fail
      go_ret
      refine ⟨some ⟨w.heap.size, 0, none⟩, 19, ?_, ?_, BR⟩
      · rw [tly8_len]; rfl
      · rw [tly8_len]; exact OO
/-- How many of the nineteen sizes are told. -/
def tol8 (Z : List Int) : Nat → Nat
  | 0 => 0
  | n + 1 => if 4 < n + 1 ∧ Z.getD (ordL.getD n 0).toNat 0 = 0 then tol8 Z n else n + 1
theorem tol8_bd (Z : List Int) : ∀ n, 4 ≤ n → 4 ≤ tol8 Z n ∧ tol8 Z n ≤ n
  | 0, h => by omega
  | n + 1, h => by
    rw [tol8]
    split
    · rename_i h1
      have := tol8_bd Z n (by omega)
      omega
    · omega
theorem ord_bd : ∀ k : Fin 19, 0 ≤ ordL.getD k.val 0 ∧ ordL.getD k.val 0 ≤ 18 := by decide
set_option maxRecDepth 100000 in
set_option maxHeartbeats 4000000 in
theorem ptoldof8 (Z : List Int) (a : Option Addr) (cap : Nat) (hn : Hid (Z.length = 19)) (w : World) (hs : SegZ w a Z) (T : TabO w) :
    Calls Tryd.prog 51 #[.slice a 19 cap] w fun e w' => e = .returned (.int .i64 (tol8 Z 19 : Int)) ∧ w' = w := by
  have HS : Hid (SegZ w a Z) := hs
  have HT : Hid (TabO w) := T
  clear hs T
  go_enter Tryd.func51, Tryd.ntmps51
  go_wp2_with fail
  go_loopw [3] (fun tm wr => ∃ m : Nat, 4 ≤ m ∧ m ≤ 19 ∧ tm = .int .i64 (m : Int) ∧ Hid (tol8 Z 19 = tol8 Z m) ∧ wr = w) (fun tm _ => (intOf tm).toNat)
  case atStart => exact ⟨19, by omega, by omega, rfl, rfl, rfl⟩
  case round =>
    obtain ⟨m, hm4, hm, rfl, HC, hwr⟩ := hrel
    have hwr2 : w = wr := hwr.symm
    subst hwr2
    clear hwr
    obtain ⟨q, rfl⟩ : ∃ q, m = q + 1 := ⟨m - 1, by omega⟩
    have c0 := TabO.at8 HT.out q (by omega)
    have hob := ord_bd ⟨q, by omega⟩
    simp only at hob
    have HQ : Hid (tol8 Z (q + 1) = if 4 < q + 1 ∧ Z.getD (ordL.getD q 0).toNat 0 = 0 then tol8 Z q else q + 1) := rfl
    generalize ordL.getD q 0 = oq at *
    obtain ⟨s, rfl⟩ : ∃ s : Nat, oq = (s : Int) := ⟨oq.toNat, by omega⟩
    rw [Int.toNat_natCast] at HQ
    obtain ⟨b, off, rfl, c1⟩ := (show SegZ w a Z from HS.out).at_ s (by rw [hn.out]; omega)
    have hs19 : (s : Int) < 19 := by omega
    by_cases h4 : 4 < q + 1
    · have h4i : (4 : Int) < ((q + 1 : Nat) : Int) := by omega
      by_cases hz : Z.getD s 0 = 0
      · have HC2 : Hid (tol8 Z 19 = tol8 Z q) := by show _ = _; rw [HC.out, HQ.out, if_pos ⟨h4, hz⟩]
        rw [hz] at c1
        clear HC HQ
        go_wp2_with fail
        go_roundw
        case rel => exact ⟨q, by omega, by omega, by go_num, HC2, trivial⟩
        case measure => simp [intOf]
      · have HC2 : Hid (tol8 Z 19 = q + 1) := by show _ = _; rw [HC.out, HQ.out, if_neg (fun h => hz h.2)]
        have hzb : (Z.getD s 0 == 0) = false := by rw [beq_eq_false_iff_ne]; exact hz
        clear HC HQ
        generalize Z.getD s 0 = z at *
        go_wp2_with fail
        go_ret
        refine ⟨?_, rfl⟩
        rw [HC2.out]
        rfl
    · have h4i : ¬ (4 : Int) < ((q + 1 : Nat) : Int) := by omega
      have HC2 : Hid (tol8 Z 19 = q + 1) := by show _ = _; rw [HC.out, HQ.out, if_neg (fun h => h4 h.1)]
      clear HC HQ
      go_wp2_with fail
      go_ret
      refine ⟨?_, rfl⟩
      rw [HC2.out]
      rfl
end Go.Proofs.YthcmebmohhajaaaDoor

namespace Go.Proofs.YthcmebmohhajaaaDoor
open Go.RowKit
set_option linter.unusedVariables false

/-- The first of them, and noughts. -/
def nst8 (zs : List Int) (i : Nat) : List Int := zs.take i ++ List.replicate (zs.length - i) 0
theorem nst8_len (zs : List Int) {i : Nat} (h : i ≤ zs.length) : (nst8 zs i).length = zs.length := by simp [nst8]; omega
theorem nst8_set (zs : List Int) {i : Nat} (h : i < zs.length) : (nst8 zs i).set i (zs.getD i 0) = nst8 zs (i + 1) := by
  unfold nst8
  have e : zs.length - i = (zs.length - (i + 1)) + 1 := by omega
  rw [e, List.replicate_succ, List.set_append_right _ _ (by rw [List.length_take]; omega)]
  have e2 : i - (zs.take i).length = 0 := by rw [List.length_take]; omega
  rw [e2, List.set_cons_zero, List.take_succ_eq_append_getElem h, List.append_assoc]
  simp [List.getD, h]
set_option maxRecDepth 100000 in
set_option maxHeartbeats 1000000 in
theorem pnum8 (a : Option Addr) (zs : List Int) (n cap : Nat) (hn : Hid (zs.length = n)) (w : World) (hs : Seg w a zs) (hl : n ≤ 1000) :
    Calls Tryd.prog 46 #[.slice a n cap] w fun e w' => e = .returned (.slice (some ⟨w.heap.size, 0, none⟩) n n) ∧ w'.ownsRow w.heap.size 3 1 (.slice (some ⟨w.heap.size, 0, none⟩) n n) n (zs.map (Value.int .i64)) ∧ Below w.heap.size w w' := by
  have HS : Hid (Seg w a zs) := hs
  have hmk : ∀ W, (Instr.makeSlice 34 (.int .i64 (n : Int)) (.int .i64 (n : Int))).run Tryd.prog W = .ok (.slice (some ⟨W.heap.size, 0, none⟩) n n) (W.alloc (.cells (Array.replicate n (.int .i64 0)) 3)) := fun W => run_make_ints n (by omega) W
  clear hs
  go_enter Tryd.func46, Tryd.ntmps46
  go_wp2_with fail
  have O0 := own_zeros w n (by omega)
  have B0 := below_box8 w (.cells (Array.replicate n (.int .i64 0)) 3)
  generalize w.alloc (.cells (Array.replicate n (.int .i64 0)) 3) = w0 at *
  go_loopw [11] (fun ti wr => ∃ i : Nat, i ≤ n ∧ ti = .int .i64 (i : Int) ∧ wr.ownsRow w.heap.size 3 1 (.slice (some ⟨w.heap.size, 0, none⟩) n n) n ((nst8 zs i).map (Value.int .i64)) ∧ Below w.heap.size w wr) (fun ti _ => n - (intOf ti).toNat)
  case atStart => exact ⟨0, by omega, rfl, by rw [show nst8 zs 0 = List.replicate n 0 by simp [nst8, hn.out]]; exact O0, B0⟩
  case round =>
    obtain ⟨i, hin, rfl, OO, BR⟩ := hrel
    clear O0 B0
    by_cases hlt : i < n
    · have hlti : (i : Int) < (n : Int) := by omega
      have hil : i < zs.length := by rw [hn.out]; exact hlt
      have SG := (show Seg w a zs from HS.out).old BR
      obtain ⟨b, off, rfl, cs⟩ := SG.at_ i hil
      have hbd := SG.mem (zs.getD i 0) (by simp [List.getD, hil])
      have HSN : Hid ((nst8 zs i).set i (zs.getD i 0) = nst8 zs (i + 1)) := nst8_set zs hil
      generalize zs.getD i 0 = z at *
      obtain ⟨d0, fz⟩ := own_cell1 OO (i := i) (by rw [nst8_len zs (by omega)]; exact hil)
      have f0 := fz i
      generalize (nst8 zs i).getD i 0 = y at *
      obtain ⟨OS, GS⟩ := OO.stored i (.int .i64 z)
      rw [← List.map_set, HSN.out] at OS
      have hsz := BR.size
      have B1 : Below w.heap.size w (wr.setCell ⟨w.heap.size, i, none⟩ (.int .i64 z)) := BR.trans ((Below.refl _ _).grown GS hsz (fun k hk => by cases hk; exact Nat.le_refl _))
      have hz0 : 0 ≤ z := hbd.1
      have hz1 : z ≤ 255 := hbd.2
      have HB : Hid (Below w.heap.size w (wr.setCell ⟨w.heap.size, i, none⟩ (.int .i64 z))) := B1
      have HOS : Hid _ := OS
      clear B1 OS GS fz HSN SG hbd
      go_wp2_with fail
      go_roundw
      case rel => exact ⟨i + 1, by omega, by go_num, HOS.out, HB.out⟩
      case measure => simp [intOf]; omega
    · have hge : ¬ (i : Int) < (n : Int) := by omega
      have hTA : nst8 zs i = zs := by unfold nst8; rw [hn.out, List.take_of_length_le (by rw [hn.out]; omega), show n - i = 0 by omega]; simp
      rw [hTA] at OO
      have HNN : Hid (zs.length = n) := hn
      clear hTA
      go_wp2_with fail
      go_ret
      exact ⟨rfl, OO, BR⟩
/-- A part of a reader's row. -/
structure Nm8 (w : World) (a : Option Addr) (zs : List Int) (n cap : Nat) : Prop where
  ln : zs.length = n
  seg : Seg w a zs
  sz : n ≤ 320
/-- What numbers answered. -/
structure Ro8 (w0 w : World) (g : Nat) (zs : List Int) (n : Nat) : Prop where
  own : w.ownsRow w0.heap.size 3 1 (.slice (some ⟨g, 0, none⟩) n n) n (zs.map (Value.int .i64))
theorem Ro8.old {w0 w w' : World} {g n : Nat} {zs : List Int} (h : Ro8 w0 w g zs n) (hb : Below w.heap.size w w') : Ro8 w0 w' g zs n := ⟨own_below h.own hb⟩
set_option maxRecDepth 100000 in
set_option maxHeartbeats 2000000 in
theorem phalves8 (b : Nat) (L D : List Int) (l d : Nat) (w : World) (cl : w.cell? ⟨b, 2, none⟩ = some (.int .i64 (l : Int))) (cd : w.cell? ⟨b, 3, none⟩ = some (.int .i64 (d : Int))) (hL : Nm8 w (some ⟨b, 27, none⟩) L l 320) (hD : Nm8 w (some ⟨b, 27 + l, none⟩) D d (320 - l)) (hld : l + d ≤ 320) (hl3 : l < 320) :
    Calls Tryd.prog 31 #[.pointer (some ⟨b, 0, none⟩)] w fun e w' => ∃ g1 g2, e = .returned (.tuple #[.slice (some ⟨g1, 0, none⟩) l l, .slice (some ⟨g2, 0, none⟩) d d]) ∧ Ro8 w w' g1 L l ∧ Ro8 w w' g2 D d ∧ g1 < g2 ∧ Below w.heap.size w w' := by
  have hbl : b < w.heap.size := World.block_lt_of_cell? w _ cl
  have HNM : Hid (∀ (W : World) (a : Option Addr) (zs : List Int) (n cap : Nat), Nm8 w a zs n cap → Below w.heap.size w W → Calls Tryd.prog 46 #[.slice a n cap] W fun e w' => e = .returned (.slice (some ⟨W.heap.size, 0, none⟩) n n) ∧ Ro8 w w' W.heap.size zs n ∧ Below W.heap.size W w' ∧ Below w.heap.size w w') := fun W a zs n cap hA hB => by
    refine (pnum8 a zs n cap hA.ln W (hA.seg.old hB) (by have := hA.sz; omega)).mono ?_
    rintro e w' ⟨rfl, o, b1⟩
    exact ⟨rfl, ⟨own_base o hB.size⟩, b1, hB.trans (b1.mono hB.size)⟩
  have HC : Hid (∀ W, Below w.heap.size w W → W.cell? ⟨b, 2, none⟩ = some (.int .i64 (l : Int)) ∧ W.cell? ⟨b, 3, none⟩ = some (.int .i64 (d : Int))) := fun W h => ⟨(h.cell (p := ⟨b, 2, none⟩) hbl).trans cl, (h.cell (p := ⟨b, 3, none⟩) hbl).trans cd⟩
  have bt0 : Below w.heap.size w w.drew := (Below.refl _ _).drew
  obtain ⟨q1, q2⟩ := HC.out _ bt0
  obtain ⟨x, hx⟩ : ∃ x, x = l + d := ⟨_, rfl⟩
  have i1 : (0 : Int) ≤ (l : Int) := by omega
  have i2 : (l : Int) ≤ 320 := by omega
  have i3 : (l : Int) + (d : Int) ≤ 320 := by omega
  have i4 : (l : Int) ≤ (l : Int) + (d : Int) := by omega
  have i5 : IntKind.i64.wrap ((l : Int) + (d : Int)) = (l : Int) + (d : Int) := IntWalk.i64_in _ (by omega)
  have i6 : ¬ 320 = l := by omega
  have i7 : ((l : Int) + (d : Int)).toNat - l = d := by omega
  clear hx x
  go_enter Tryd.func31, Tryd.ntmps31
  go_wp2_with fail
  go_region_held3 (fun w' => w'.cell? ⟨b, 2, none⟩ = some (.int .i64 (l : Int)) ∧ w'.cell? ⟨b, 3, none⟩ = some (.int .i64 (d : Int))) (first | (exact ⟨q1, q2⟩) | (exact HC.out _ (by assumption)))
    (first | (go_at_call 46; refine (HNM.out _ _ _ _ _ (by assumption) (by assumption)).mono ?_; rintro e wn ⟨rfl, on, bn, tn⟩))
  rename_i w1 o1 b1 t1 hh1
  have o1' := o1.old bn
  clear hh1
  go_wp2_with fail
  go_ret2
  exact ⟨_, _, rfl, o1', on, (o1.own.lt _ rfl).2, tn⟩
end Go.Proofs.YthcmebmohhajaaaDoor

namespace Go.Proofs.YthcmebmohhajaaaDoor
open Go.RowKit
set_option linter.unusedVariables false

/-! The landed head: tellable. -/
set_option maxRecDepth 100000 in
set_option maxHeartbeats 4000000 in
theorem ptell8 (xs ys : List Int) (a b : Option Addr) (n m ca cb : Nat) (hn : Hid (xs.length = n)) (hm : Hid (ys.length = m)) (w : World) (hx : SegZ w a xs) (hy : SegZ w b ys) :
    Calls Tryd.prog 47 #[.slice a n ca, .slice b m cb] w fun e w' => e = .returned (.bool (decide (tld8 errC xs ys))) ∧ Below w.heap.size w w' := by
  have HX : Hid (SegZ w a xs) := hx
  have HY : Hid (SegZ w b ys) := hy
  have HT : Hid (tld8 errC xs ys ↔ 257 ≤ n ∧ n ≤ 286 ∧ m ≤ 30 ∧ errC xs = 0 ∧ errC ys = 0 ∧ xs.getD 256 0 ≠ 0) := by
    unfold tld8
    rw [hn.out, hm.out]
    exact Iff.rfl
  have HF : Hid (¬ (257 ≤ n ∧ n ≤ 286 ∧ m ≤ 30 ∧ errC xs = 0 ∧ errC ys = 0 ∧ xs.getD 256 0 ≠ 0) → decide (tld8 errC xs ys) = false) := fun h => by
    simp only [decide_eq_false_iff_not]
    exact fun h' => h (HT.out.1 h')
  clear hx hy
  by_cases h1 : n < 257
  · have h1i : (n : Int) < 257 := by omega
    have HE : Hid (decide (tld8 errC xs ys) = false) := HF.out (by omega)
    clear HT HF
    go_enter Tryd.func47, Tryd.ntmps47
    go_wp2_with fail
    go_ret
    exact ⟨by rw [HE.out]; rfl, Below.refl _ _⟩
  have h1i : ¬ (n : Int) < 257 := by omega
  by_cases h2 : 286 < n
  · have h2i : 286 < (n : Int) := by omega
    have HE : Hid (decide (tld8 errC xs ys) = false) := HF.out (by omega)
    clear HT HF
    go_enter Tryd.func47, Tryd.ntmps47
    go_wp2_with fail
    go_ret
    exact ⟨by rw [HE.out]; rfl, Below.refl _ _⟩
  have h2i : ¬ 286 < (n : Int) := by omega
  by_cases h3 : 30 < m
  · have h3i : 30 < (m : Int) := by omega
    have HE : Hid (decide (tld8 errC xs ys) = false) := HF.out (by omega)
    clear HT HF
    go_enter Tryd.func47, Tryd.ntmps47
    go_wp2_with fail
    go_ret
    exact ⟨by rw [HE.out]; rfl, Below.refl _ _⟩
  have h3i : ¬ 30 < (m : Int) := by omega
  have C1 := check_any a xs n ca hn w HX.out (by omega)
  by_cases h4 : errC xs = 0
  · have C2 : Hid (∀ W, Below w.heap.size w W → Calls Tryd.prog 36 #[.slice b m cb] W fun e w' => e = .returned (.int .i64 (errC ys)) ∧ Below W.heap.size W w') := fun W hW => check_any b ys m cb hm W ((show SegZ w b ys from HY.out).old hW) (by omega)
    rw [h4] at C1
    by_cases h5 : errC ys = 0
    · have hg : 256 < xs.length := by rw [hn.out]; omega
      obtain ⟨g, off, rfl, c0⟩ := (show SegZ w a xs from HX.out).at_ 256 hg
      have HG : Hid (∀ W, Below w.heap.size w W → W.cell? ⟨g, off + 256, none⟩ = some (.int .i64 (xs.getD 256 0))) := fun W hW => (hW.cell (p := ⟨g, off + 256, none⟩) (World.block_lt_of_cell? w _ c0)).trans c0
      have HE : Hid (decide (tld8 errC xs ys) = decide (xs.getD 256 0 ≠ 0)) := by
        show _ = _
        rw [decide_eq_decide, HT.out]
        constructor
        · exact fun h => h.2.2.2.2.2
        · exact fun h => ⟨by omega, by omega, by omega, h4, h5, h⟩
      rw [h5] at C2
      generalize xs.getD 256 0 = z at *
      have h256 : (256 : Int) < (n : Int) := by omega
      clear HT HF
      go_enter Tryd.func47, Tryd.ntmps47
      go_wp2_with fail
      refine C1.mono ?_
      rintro e w1 ⟨rfl, B1⟩
      go_wp2_with fail
      refine (C2.out w1 B1).mono ?_
      rintro e w2 ⟨rfl, B2⟩
      have B3 := B1.trans (B2.mono B1.size)
      have c2 := HG.out w2 B3
      by_cases hz : z = 0
      · subst hz
        go_wp2_with fail
        go_ret
        exact ⟨by rw [HE.out]; rfl, B3⟩
      · have hzb : (z == 0) = false := by simpa using hz
        go_wp2_with fail
        go_ret
        refine ⟨?_, B3⟩
        rw [HE.out, decide_eq_true hz]
        have hzn : (z != 0) = true := by simpa using hz
        show Ending.returned (Value.bool (z != 0)) = _
        rw [hzn]
    · have HE : Hid (decide (tld8 errC xs ys) = false) := HF.out (fun h => h5 h.2.2.2.2.1)
      have h5b : (errC ys == 0) = false := by simpa using h5
      clear HT HF
      generalize errC ys = z at *
      go_enter Tryd.func47, Tryd.ntmps47
      go_wp2_with fail
      refine C1.mono ?_
      rintro e w1 ⟨rfl, B1⟩
      go_wp2_with fail
      refine (C2.out w1 B1).mono ?_
      rintro e w2 ⟨rfl, B2⟩
      have B3 := B1.trans (B2.mono B1.size)
      go_wp2_with fail
      go_ret
      exact ⟨by rw [HE.out]; rfl, B3⟩
  · have HE : Hid (decide (tld8 errC xs ys) = false) := HF.out (fun h => h4 h.2.2.2.1)
    have h4b : (errC xs == 0) = false := by simpa using h4
    clear HT HF
    generalize errC xs = z at *
    go_enter Tryd.func47, Tryd.ntmps47
    go_wp2_with fail
    refine C1.mono ?_
    rintro e w1 ⟨rfl, B1⟩
    go_wp2_with fail
    go_ret
    exact ⟨by rw [HE.out]; rfl, B1⟩
end Go.Proofs.YthcmebmohhajaaaDoor

namespace Go.Proofs.YthcmebmohhajaaaDoor
open Go.RowKit
set_option linter.unusedVariables false

/-- A part of the lengths that are laid down. -/
theorem row_seg8 {w : World} {b : Nat} {s : S8} {zs0 : List Int} (h : Rb8 w b (rpre8 s) zs0) (szl : s.sz.length = 19) (ob : ∀ z ∈ s.out, 0 ≤ z ∧ z ≤ 15) (o n : Nat) (hn : o + n ≤ s.out.length) : Seg w (some ⟨b, 27 + o, none⟩) ((s.out.drop o).take n) := by
  refine ⟨fun i hi => ?_, by omega, fun i => ?_⟩
  rotate_left
  · by_cases hi : i < ((s.out.drop o).take n).length
    · have hm : ((s.out.drop o).take n).getD i 0 ∈ (s.out.drop o).take n := by simp only [List.getD, List.getElem?_eq_getElem hi, Option.getD_some]; exact List.getElem_mem hi
      have := ob _ (List.mem_of_mem_drop (List.mem_of_mem_take hm))
      omega
    · have : ((s.out.drop o).take n).getD i 0 = 0 := by simp only [List.getD, List.getElem?_eq_none (by omega : ((s.out.drop o).take n).length ≤ i), Option.getD_none]
      rw [this]; omega
  · have hin : i < n := by rw [List.length_take] at hi; omega
    refine ⟨b, 27 + o, rfl, h.cell ?_⟩
    have hg : ((s.out.drop o).take n).getD i 0 = s.out.getD (o + i) 0 := by
      simp [List.getD, hin]
    rw [hg]
    unfold rpre8
    rw [List.getElem?_append_right (by simp; omega), List.getElem?_append_right (by simp [szl]; omega)]
    have e : 27 + o + i - 8 - 19 = o + i := by omega
    have hl : o + i < s.out.length := by omega
    simp only [List.length_cons, List.length_nil, List.length_map, szl, e, List.map_append]
    rw [List.getElem?_append_left (by rw [List.length_map]; exact hl)]
    simp [List.getD, hl]
/-- What comes at a row's end. -/
def nxe8 (s : S8) : Nat := if tld8 errC (s.out.take s.lit) (s.out.drop s.lit) then 4 else 5
/-- The reader's cells that a row's end asks for. -/
theorem end_pre8 (s : S8) (n : Nat) : (rpre8 s).set 1 (.int .i64 (n : Int)) = rpre8 { s with nx := n } := rfl
set_option maxRecDepth 100000 in
set_option maxHeartbeats 1000000 in
theorem pend8 (b : Nat) (s : S8) (zs0 : List Int) (w : World) (h : Rb8 w b (rpre8 s) zs0) (szl : s.sz.length = 19) (ob : ∀ z ∈ s.out, 0 ≤ z ∧ z ≤ 15) (hl : s.lit ≤ 286) (hd : s.dist ≤ 30) (ho : s.out.length = s.lit + s.dist) :
    Calls Tryd.prog 65 #[.pointer (some ⟨b, 0, none⟩)] w fun e w' => e = .returned (.tuple #[]) ∧ Rb8 w' b (rpre8 { s with nx := nxe8 s }) zs0 ∧ Kp (fun k => k = b) w w' := by
  have c1 := h.cell (i := 1) rfl
  have f1 := h.free 1
  have h1 : Rb8 (w.setCell ⟨b, 1, none⟩ (.int .i64 5)) b (rpre8 { s with nx := 5 }) zs0 := h.set (i := 1) (by omega) (.int .i64 5)
  have k1 : Kp (fun k => k = b) w (w.setCell ⟨b, 1, none⟩ (.int .i64 5)) := (Kp.refl (fun k => k = b) w).set8 rfl 1 _
  have hs1 : Seg (w.setCell ⟨b, 1, none⟩ (.int .i64 5)) (some ⟨b, 27, none⟩) (s.out.take s.lit) := by
    have := row_seg8 (s := { s with nx := 5 }) h1 szl ob 0 s.lit (by show 0 + s.lit ≤ s.out.length; omega)
    simpa using this
  have hs2 : Seg (w.setCell ⟨b, 1, none⟩ (.int .i64 5)) (some ⟨b, 27 + s.lit, none⟩) (s.out.drop s.lit) := by
    have := row_seg8 (s := { s with nx := 5 }) h1 szl ob s.lit s.dist (by show s.lit + s.dist ≤ s.out.length; omega)
    rwa [List.take_of_length_le (by show (s.out.drop s.lit).length ≤ s.dist; rw [List.length_drop]; omega)] at this
  have CH := phalves8 b (s.out.take s.lit) (s.out.drop s.lit) s.lit s.dist _ (h1.cell (i := 2) rfl) (h1.cell (i := 3) rfl) ⟨by rw [List.length_take]; omega, hs1, by omega⟩ ⟨by rw [List.length_drop]; omega, hs2, by omega⟩ (by omega) (by omega)
  have HLN : Hid ((s.out.take s.lit).length = s.lit ∧ (s.out.drop s.lit).length = s.dist) := ⟨by rw [List.length_take]; omega, by rw [List.length_drop]; omega⟩
  have HBD : Hid (∀ z ∈ s.out, -9223372036854775808 ≤ z ∧ z ≤ 9223372036854775807) := fun z hz => by have := ob z hz; omega
  have H1 : Hid (Rb8 (w.setCell ⟨b, 1, none⟩ (.int .i64 5)) b (rpre8 { s with nx := 5 }) zs0) := h1
  have K1 : Hid (Kp (fun k => k = b) w (w.setCell ⟨b, 1, none⟩ (.int .i64 5))) := k1
  clear h h1 k1 hs1 hs2
  go_enter Tryd.func65, Tryd.ntmps65
  go_wp2_with fail
  generalize w.setCell ⟨b, 1, none⟩ (.int .i64 5) = w1 at *
  refine CH.mono ?_
  rintro e w2 ⟨g1, g2, rfl, o1, o2, hg, b2⟩
  have CT := ptell8 (s.out.take s.lit) (s.out.drop s.lit) (some ⟨g1, 0, none⟩) (some ⟨g2, 0, none⟩) s.lit s.dist s.lit s.dist HLN.out.1 HLN.out.2 w2 (own_segZ o1.own (fun z hz => HBD.out z (List.mem_of_mem_take hz))) (own_segZ o2.own (fun z hz => HBD.out z (List.mem_of_mem_drop hz)))
  clear CH
  go_wp2_with fail
  by_cases ht : tld8 errC (s.out.take s.lit) (s.out.drop s.lit)
  · have HT : Hid (tld8 errC (s.out.take s.lit) (s.out.drop s.lit)) := ht
    rw [decide_eq_true ht] at CT
    clear ht
    refine CT.mono ?_
    rintro e w3 ⟨rfl, b3⟩
    have b13 : Below w1.heap.size w1 w3 := b2.trans (b3.mono b2.size)
    have h3 := H1.out.keep (b13.block b H1.out.lt)
    have d1 := h3.cell (i := 1) rfl
    have e1 := h3.free 1
    have H3 : Hid (Rb8 w3 b (rpre8 { s with nx := 5 }) zs0) := h3
    clear h3
    go_wp2_with fail
    go_end0
    rw [show nxe8 s = 4 from if_pos HT.out]
    exact ⟨rfl, H3.out.set (i := 1) (by omega) (.int .i64 4), ((K1.out.trans (Kp.of_below (S := fun _ => False) b13) (fun _ _ e => e.elim))).set8 rfl 1 _⟩
  · have HT : Hid (¬ tld8 errC (s.out.take s.lit) (s.out.drop s.lit)) := ht
    rw [decide_eq_false ht] at CT
    clear ht
    refine CT.mono ?_
    rintro e w3 ⟨rfl, b3⟩
    have b13 : Below w1.heap.size w1 w3 := b2.trans (b3.mono b2.size)
    have h3 := H1.out.keep (b13.block b H1.out.lt)
    go_wp2_with fail
    go_end0
    rw [show nxe8 s = 5 from if_neg HT.out]
    exact ⟨rfl, h3, K1.out.trans (Kp.of_below (S := fun _ => False) b13) (fun _ _ e => e.elim)⟩
end Go.Proofs.YthcmebmohhajaaaDoor

namespace Go.Proofs.YthcmebmohhajaaaDoor
open Go.RowKit
set_option linter.unusedVariables false

theorem row_set8 (l : List Int) (v : Int) (h : l.length < 320) : ((l ++ List.replicate (320 - l.length) 0).map (Value.int .u8)).set l.length (.int .u8 v) = ((l ++ [v]) ++ List.replicate (320 - (l ++ [v]).length) 0).map (Value.int .u8) := by
  rw [← List.map_set]
  congr 1
  have e : 320 - l.length = (320 - (l ++ [v]).length) + 1 := by simp; omega
  rw [e, List.replicate_succ, List.set_append_right _ _ (Nat.le_refl _), Nat.sub_self, List.set_cons_zero, List.append_assoc]
  rfl
theorem set_abc8 {A B C : List Value} {x : Value} {k : Nat} (hA : A.length = 8) (hB : B.length = 19) : (A ++ (B ++ C)).set (27 + k) x = A ++ (B ++ C.set k x) := by
  rw [List.set_append_right _ _ (by omega), List.set_append_right _ _ (by omega)]
  congr 3
  omega
/-- A length more in the row. -/
theorem lay_pre8 (s : S8) (v : Int) (szl : s.sz.length = 19) (h : s.out.length < 320) : ((rpre8 s).set (27 + s.out.length) (.int .u8 v)).set 6 (.int .i64 ((s.out.length + 1 : Nat) : Int)) = rpre8 { s with out := s.out ++ [v] } := by
  unfold rpre8
  rw [set_abc8 rfl (by rw [List.length_map]; exact szl), row_set8 _ v h]
  simp only [List.cons_append, List.nil_append, List.set_cons_zero, List.set_cons_succ, List.length_append, List.length_cons, List.length_nil]
  try rfl
/-- A length is laid down. -/
theorem lay_rb8 {w : World} {b : Nat} {s : S8} {zs0 : List Int} (h : Rb8 w b (rpre8 s) zs0) (v : Int) (szl : s.sz.length = 19) (hl : s.out.length < 320) : Rb8 ((w.setCell ⟨b, 27 + s.out.length, none⟩ (.int .u8 v)).setCell ⟨b, 6, none⟩ (.int .i64 ((s.out.length + 1 : Nat) : Int))) b (rpre8 { s with out := s.out ++ [v] }) zs0 := by
  rw [← lay_pre8 s v szl hl]
  exact (h.set (i := 27 + s.out.length) (by omega) _).set (i := 6) (by omega) _
end Go.Proofs.YthcmebmohhajaaaDoor

namespace Go.Proofs.YthcmebmohhajaaaDoor
open Go.RowKit
set_option linter.unusedVariables false

set_option maxRecDepth 100000 in
set_option maxHeartbeats 2000000 in
theorem play8_far (b : Nat) (s : S8) (zs0 : List Int) (k : Nat) (w : World) (h : Rb8 w b (rpre8 s) zs0) (hl : s.lit ≤ 286) (hd : s.dist ≤ 30) (ho : s.out.length ≤ 316) (hk : k ≤ 1000) (hf : s.lit + s.dist < s.out.length + k) :
    Calls Tryd.prog 43 #[.pointer (some ⟨b, 0, none⟩), .int .i64 (k : Int)] w fun e w' => e = .returned (.tuple #[]) ∧ Rb8 w' b (rpre8 (lay8 s k)) zs0 ∧ Kp (fun k => k = b) w w' := by
  have c1 := h.cell (i := 1) rfl
  have c2 := h.cell (i := 2) rfl
  have c3 := h.cell (i := 3) rfl
  have c6 := h.cell (i := 6) rfl
  have f1 := h.free 1
  have HH : Hid (Rb8 w b (rpre8 s) zs0) := h
  have HL : Hid (lay8 s k = { s with nx := 5 }) := by show _ = _; unfold lay8; rw [if_pos hf]
  clear h
  obtain ⟨l, hl'⟩ : ∃ l, l = s.lit := ⟨_, rfl⟩
  obtain ⟨d, hd'⟩ : ∃ d, d = s.dist := ⟨_, rfl⟩
  obtain ⟨N, hN'⟩ : ∃ N, N = s.out.length := ⟨_, rfl⟩
  rw [← hl'] at c2 hl hf
  rw [← hd'] at c3 hd hf
  rw [← hN'] at c6 ho hf
  clear hl' hd' hN'
  have i5 : IntKind.i64.wrap ((l : Int) + (d : Int)) = (l : Int) + (d : Int) := IntWalk.i64_in _ (by omega)
  have i6 : (l : Int) + (d : Int) - (N : Int) < (k : Int) := by omega
  have i7 : IntKind.i64.wrap ((l : Int) + (d : Int) - (N : Int)) = (l : Int) + (d : Int) - (N : Int) := IntWalk.i64_in _ (by omega)
  go_enter Tryd.func43, Tryd.ntmps43
  go_wp2_with fail
  go_region_held3 (fun w' => w'.cell? ⟨b, 2, none⟩ = some (.int .i64 (l : Int)) ∧ w'.cell? ⟨b, 3, none⟩ = some (.int .i64 (d : Int))) (exact ⟨c2, c3⟩) (fail)
  go_wp2_with fail
  refine bodyPost_ret (results_none rfl _ _ _) rfl ?_
  rw [HL.out]
  exact ⟨rfl, (HH.out.keep (w' := w.drew) rfl).set (i := 1) (by omega) (.int .i64 5), ((Kp.of_below (S := fun k => k = b) ((Below.refl w.heap.size w).drew)).set8 rfl 1 _)⟩
end Go.Proofs.YthcmebmohhajaaaDoor
