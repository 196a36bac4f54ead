import Derived.Test.YtcifalelnfeggaaGreatDoorPb
import Derived.Laws.CopyOwn
import Derived.WalkKit
import Derived.Deep.WholeRow
import Derived.Laws.ResultCell
import Derived.Deep.MidRow
import Derived.Deep.RegionHeld3
namespace Go.Proofs.YtcifalelnfeggaaGreatDoor
open Go.RowKit
set_option linter.unusedVariables false
set_option linter.unusedSimpArgs false

/-! The landed head: trimmed, tally, toldOf. -/
theorem info_sz8 : (Tryz.prog.info? 3).map (·.size) = some 1 := by kernel_rfl
theorem ints_one8 (l : List Int) : ∀ v ∈ l.map (Value.int .i64), v.oneCell' = true := by
  intro v hv
  obtain ⟨z, _, rfl⟩ := List.mem_map.1 hv
  rfl
theorem cut8_zero (zs : List Int) : ∀ m, cut8 zs m ≤ m ∧ ∀ j, cut8 zs m ≤ j → j < m → zs.getD j 0 = 0
  | 0 => ⟨Nat.le_refl _, fun j _ h => by omega⟩
  | m + 1 => by
    obtain ⟨h1, h2⟩ := cut8_zero zs m
    rw [cut8]
    split
    · rename_i h
      refine ⟨by omega, fun j hj hjm => ?_⟩
      by_cases e : j = m
      · subst e; exact h
      · exact h2 j hj (by omega)
    · exact ⟨Nat.le_refl _, fun j hj hjm => by omega⟩
theorem take_zeros {zs : List Int} {c m : Nat} (hc : c ≤ m) (hm : m ≤ zs.length) (h : ∀ j, c ≤ j → j < m → zs.getD j 0 = 0) : zs.take m = zs.take c ++ List.replicate (m - c) 0 := by
  apply List.ext_getElem
  · simp; omega
  · intro i h1 h2
    simp only [List.length_take] at h1
    by_cases hi : i < c
    · rw [List.getElem_append_left (by simp; omega)]
      simp
    · rw [List.getElem_append_right (by simp; omega), List.getElem_replicate, List.getElem_take]
      have := h i (by omega) (by omega)
      simpa [List.getD, show i < zs.length by omega] using this
/-- What trimmed answers. -/
theorem trim8_eq {zs : List Int} {k m : Nat} (hm : m ≤ zs.length) (hc : cut8 zs zs.length = cut8 zs m) (hk : m ≤ k ∨ cut8 zs m = m) : zs.take m ++ List.replicate (k - m) 0 = sht8 zs k := by
  obtain ⟨h1, h2⟩ := cut8_zero zs m
  unfold sht8
  rw [hc]
  rcases hk with hk | hk
  · rw [take_zeros h1 hm h2, List.append_assoc, List.replicate_append_replicate, show m - cut8 zs m + (k - m) = k - cut8 zs m by omega]
  · rw [hk]
set_option maxRecDepth 100000 in
set_option maxHeartbeats 4000000 in
theorem ptrim8 (zs : List Int) (k : Nat) (a : Option Addr) (n cap : Nat) (hn : Hid (zs.length = n)) (w : World) (hs : SegZ w a zs) (hcap : n ≤ cap) (hl : n ≤ 1000) (hk : k ≤ 1000) :
    Calls Tryz.prog 147 #[.slice a n cap, .int .i64 (k : Int)] w (ShQ w 3 (sht8 zs k)) := by
  have HS : Hid (SegZ w a zs) := hs
  clear hs
  go_enter Tryz.func147, Tryz.ntmps147
  go_wp2_with fail
  go_loopw [5] (fun tm wr => ∃ m : Nat, m ≤ n ∧ tm = .int .i64 (m : Int) ∧ Hid (cut8 zs zs.length = cut8 zs m) ∧ wr = w) (fun tm _ => (intOf tm).toNat)
  case atStart => exact ⟨n, Nat.le_refl _, rfl, by show _ = _; rw [hn.out], rfl⟩
  case round =>
    obtain ⟨m, hm, rfl, HC, hwr⟩ := hrel
    have hwr2 : w = wr := hwr.symm
    subst hwr2
    clear hwr
    have HEND : Hid (¬ k < m ∨ (zs.getD (m - 1) 0 ≠ 0 ∧ 0 < m) → ∀ (o : Nat) (w3 : World), w.heap.size ≤ o → w3.heap[o]? = some (.cells (splice (List.replicate (max m k) (Value.int .i64 0)) 0 ((zs.take m).map (Value.int .i64))).toArray 3 (0, 0)) → Below w.heap.size w w3 → ShQ w 3 (sht8 zs k) (.returned (.slice (some ⟨o, 0, none⟩) (max m k) (max m k))) w3) := fun hst o w3 ho hh hb => by
      have he := trim8_eq (k := k) (zs := zs) (m := m) (by rw [hn.out]; exact hm) HC.out (by
        rcases hst with h | ⟨h, h0⟩
        · exact .inl (by omega)
        · right
          obtain ⟨q, rfl⟩ : ∃ q, m = q + 1 := ⟨m - 1, by omega⟩
          rw [cut8, if_neg (by simpa using h)])
      have hlt : (zs.take m).length = m := by rw [List.length_take, hn.out]; omega
      have hsp : splice (List.replicate (max m k) (Value.int .i64 0)) 0 ((zs.take m).map (Value.int .i64)) = (sht8 zs k).map (Value.int .i64) := by
        rw [← he]
        unfold splice
        rw [List.take_zero, List.nil_append, Nat.zero_add, List.length_map, hlt, List.drop_replicate, List.map_append, List.map_replicate, show max m k - m = k - m by omega]
      have hll : (sht8 zs k).length = max m k := by
        rw [← he, List.length_append, hlt, List.length_replicate]
        omega
      rw [hsp] at hh
      refine ⟨some ⟨o, 0, none⟩, max m k, by rw [hll], ?_, hb⟩
      rw [hll]
      exact ⟨by simp [hll], .inr ⟨o, max m k, _, rfl, ho, hh, Nat.le_refl _, by unfold maxLen; omega, by simp [hll], by simp; exact List.take_of_length_le (by simp [hll])⟩⟩
    have HMK : Hid ((k < m → max m k = m) ∧ (¬ k < m → max m k = k)) := ⟨fun _ => by omega, fun _ => by omega⟩
    have HMM : Hid (max m k ≤ 1000 ∧ m ≤ max m k) := ⟨by omega, by omega⟩
    have HSEG : Hid (0 < m → ∃ ad, a = some ad ∧ ∀ j v, ((zs.take m).map (Value.int .i64))[j]? = some v → w.cell? (ad.add j) = some v) := fun h0 => by
      obtain ⟨b, off, rfl, _⟩ := (show SegZ w a zs from HS.out).at_ 0 (by rw [hn.out]; omega)
      exact ⟨_, rfl, segZ_cells ((show SegZ w (some ⟨b, off, none⟩) zs from HS.out).take m)⟩
    have HLT : Hid ((zs.take m).length = m) := by show _ = _; rw [List.length_take, hn.out]; omega
    have hst : (k < m ∧ zs.getD (m - 1) 0 = 0) ∨ (k < m ∧ zs.getD (m - 1) 0 ≠ 0) ∨ ¬ k < m := by
      by_cases h1 : k < m
      · by_cases h2 : zs.getD (m - 1) 0 = 0
        · exact .inl ⟨h1, h2⟩
        · exact .inr (.inl ⟨h1, h2⟩)
      · exact .inr (.inr h1)
    rcases hst with ⟨h1, h2⟩ | hst
    · obtain ⟨q, rfl⟩ : ∃ q, m = q + 1 := ⟨m - 1, by omega⟩
      simp only [Nat.add_sub_cancel] at h2
      obtain ⟨b, off, rfl, c0⟩ := (show SegZ w a zs from HS.out).at_ q (by rw [hn.out]; omega)
      rw [h2] at c0
      have h1i : (k : Int) < ((q + 1 : Nat) : Int) := by omega
      have HC2 : Hid (cut8 zs zs.length = cut8 zs q) := by show _ = _; rw [HC.out, cut8, if_pos h2]
      clear HC HEND HMK HMM HSEG HLT
      go_wp2_with fail
      go_roundw
      case rel => exact ⟨q, by omega, by go_num, HC2, trivial⟩
      case measure => simp [intOf]
    · have HE2 := HEND.out (by rcases hst with ⟨h1, h2⟩ | h1; exact .inr ⟨h2, by omega⟩; exact .inl h1)
      have HE : Hid (∀ (o : Nat) (w3 : World), w.heap.size ≤ o → w3.heap[o]? = some (.cells (splice (List.replicate (max m k) (Value.int .i64 0)) 0 ((zs.take m).map (Value.int .i64))).toArray 3 (0, 0)) → Below w.heap.size w w3 → ShQ w 3 (sht8 zs k) (.returned (.slice (some ⟨o, 0, none⟩) (max m k) (max m k))) w3) := HE2
      have hcell : k < m → ∃ q b off z, m = q + 1 ∧ a = some ⟨b, off, none⟩ ∧ w.cell? ⟨b, off + q, none⟩ = some (.int .i64 z) ∧ (z == 0) = false := fun h1 => by
        obtain ⟨q, rfl⟩ : ∃ q, m = q + 1 := ⟨m - 1, by omega⟩
        obtain ⟨b, off, ha, c0⟩ := (show SegZ w a zs from HS.out).at_ q (by rw [hn.out]; omega)
        refine ⟨q, b, off, _, rfl, ha, c0, ?_⟩
        rcases hst with ⟨_, h2⟩ | h2
        · rw [beq_eq_false_iff_ne]; simpa using h2
        · omega
      clear HEND HE2 HC
      generalize max m k = M at *
      have H2L : Hid ((w.alloc (.cells (Array.replicate M (.int .i64 0)) 3)).heap[w.heap.size]? = some (.cells (List.replicate M (Value.int .i64 0)).toArray 3 (0, 0))) := by
        show _ = _
        rw [heap_alloc_new]
        simp
      have HB0 : Hid (Below w.heap.size w (w.alloc (.cells (Array.replicate M (.int .i64 0)) 3))) := below_box8 w _
      have HSG2 : Hid (0 < m → ∃ ad, a = some ad ∧ ∀ j v, ((zs.take m).map (Value.int .i64))[j]? = some v → (w.alloc (.cells (Array.replicate M (.int .i64 0)) 3)).cell? (ad.add j) = some v) := fun h0 => by
        obtain ⟨ad, ha, hc⟩ := HSEG.out h0
        refine ⟨ad, ha, fun j v hv => ?_⟩
        have hc1 := hc j v hv
        have hl1 := World.block_lt_of_cell? w _ hc1
        exact ((below_box8 w _).cell (p := ad.add j) hl1).trans hc1
      clear HSEG
      have hmc : (m : Int) ≤ (cap : Int) := by omega
      have hmn : (m : Int) ≤ (n : Int) := by omega
      have hm0 : (0 : Int) ≤ (m : Int) := by omega
      by_cases h1 : k < m
      · obtain ⟨q, b, off, z, rfl, rfl, c0, hzb⟩ := hcell h1
        have h1i : (k : Int) < ((q + 1 : Nat) : Int) := by omega
        obtain rfl : M = q + 1 := HMK.out.1 h1
        have hmk : ∀ W, (Instr.makeSlice 39 (.int .i64 ((q : Int) + 1)) (.int .i64 ((q : Int) + 1))).run Tryz.prog W = .ok (.slice (some ⟨W.heap.size, 0, none⟩) (q + 1) (q + 1)) (W.alloc (.cells (Array.replicate (q + 1) (.int .i64 0)) 3)) := fun W => by
          rw [show (q : Int) + 1 = ((q + 1 : Nat) : Int) by omega]
          exact run_make_ints (q + 1) (by omega) W
        clear hcell HMK
        go_wp2_with (refine wpList_copy_splice rfl (.tmp 26) (.tmp 29) 39 39 rfl 3 Tryz.underlying39 info_sz8 (some ⟨w.heap.size, 0, none⟩) _ (q + 1) (q + 1) (q + 1) _ rfl rfl w.heap.size 0 (List.replicate (q + 1) (Value.int .i64 0)) 3 H2L.out ((zs.take (q + 1)).map (Value.int .i64)) (by have h8 := HLT.out; have h9 := HMM.out; rw [List.length_map, h8]; show _ = min _ _; omega) (fun h => ⟨rfl, HSG2.out (by omega)⟩) (by have := HLT.out; have := HMM.out; simp only [List.length_map, List.length_replicate]; omega) (ints_one8 _) w.heap.size w HB0.out (Nat.le_refl _) ?_; intro w3 HW3 bw3)
        go_ret
        exact HE.out _ _ (Nat.le_refl _) HW3.out bw3
      · have h1i : ¬ (k : Int) < (m : Int) := by omega
        obtain rfl : M = k := HMK.out.2 h1
        have hmk := run_make_ints M (by omega)
        clear hcell HMK
        have hmM : m = M ∨ (m : Int) < (M : Int) := by omega
        rcases hmM with rfl | hmM
        all_goals
          go_wp2_with (refine wpList_copy_splice rfl (.tmp 26) (.tmp 29) 39 39 rfl 3 Tryz.underlying39 info_sz8 (some ⟨w.heap.size, 0, none⟩) _ _ _ m _ rfl rfl w.heap.size 0 (List.replicate _ (Value.int .i64 0)) 3 H2L.out ((zs.take m).map (Value.int .i64)) (by have h8 := HLT.out; have h9 := HMM.out; rw [List.length_map, h8]; show _ = min _ _; omega) (fun h => ⟨rfl, HSG2.out (by have := HLT.out; simp only [List.length_map] at h; omega)⟩) (by have := HLT.out; have := HMM.out; simp only [List.length_map, List.length_replicate]; omega) (ints_one8 _) w.heap.size w HB0.out (Nat.le_refl _) ?_; intro w3 HW3 bw3)
          go_ret
          exact HE.out _ _ (Nat.le_refl _) HW3.out bw3
/-- How often each symbol stands among runs. -/
def tly8 (R : List Rn8) : List Int := (List.range 19).map fun (s : Nat) => ((R.filter fun r => r.sy == (s : Int)).length : Int)
theorem tly8_len (R : List Rn8) : (tly8 R).length = 19 := by simp [tly8]
theorem tly8_get (R : List Rn8) {s : Nat} (h : s < 19) : (tly8 R).getD s 0 = ((R.filter fun r => r.sy == (s : Int)).length : Int) := by simp [tly8, List.getD, h]
theorem tly8_snoc (R : List Rn8) {s : Nat} {c : Int} (h : s < 19) : tly8 (R ++ [⟨(s : Int), c⟩]) = (tly8 R).set s ((tly8 R).getD s 0 + 1) := by
  apply List.ext_getElem
  · simp [tly8]
  · intro i h1 h2
    have hi : i < 19 := by simpa [tly8] using h1
    rw [List.getElem_set]
    by_cases e : s = i
    · subst e
      rw [if_pos rfl, tly8_get R h]
      simp [tly8, List.filter_append]
    · rw [if_neg e]
      have : ¬ ((s : Int) = (i : Int)) := by omega
      simp [tly8, List.filter_append, this]
theorem tly8_bd (R : List Rn8) : ∀ z ∈ tly8 R, 0 ≤ z ∧ z ≤ R.length := by
  intro z hz
  unfold tly8 at hz
  obtain ⟨s, _, rfl⟩ := List.mem_map.1 hz
  have := List.length_filter_le (fun r : Rn8 => r.sy == (s : Int)) R
  omega
set_option maxRecDepth 100000 in
set_option maxHeartbeats 4000000 in
theorem ptally8 (R : List Rn8) (a : Option Addr) (n cap : Nat) (hn : Hid (R.length = n)) (w : World) (hs : SegN w a R) (hok : ∀ r ∈ R, 0 ≤ r.sy ∧ r.sy ≤ 18) (hl : n ≤ 1000) :
    Calls Tryz.prog 149 #[.slice a n cap] w (ShQ w 3 (tly8 R)) := by
  have HS : Hid (SegN w a R) := hs
  have HOK : Hid (∀ r ∈ R, 0 ≤ r.sy ∧ r.sy ≤ 18) := hok
  have hmk : ∀ W, (Instr.makeSlice 39 (.int .i64 19) (.int .i64 19)).run Tryz.prog W = .ok (.slice (some ⟨W.heap.size, 0, none⟩) 19 19) (W.alloc (.cells (Array.replicate 19 (.int .i64 0)) 3)) := fun W => run_make_ints 19 (by omega) W
  clear hs hok
  go_enter Tryz.func149, Tryz.ntmps149
  go_wp2_with fail
  have O0 := own_zeros w 19 (by omega)
  have B0 := below_box8 w (.cells (Array.replicate 19 (.int .i64 0)) 3)
  generalize w.alloc (.cells (Array.replicate 19 (.int .i64 0)) 3) = w0 at *
  go_loopw [9] (fun ti wr => ∃ i : Nat, i ≤ n ∧ ti = .int .i64 (i : Int) ∧ wr.ownsRow w.heap.size 3 1 (.slice (some ⟨w.heap.size, 0, none⟩) 19 19) 19 ((tly8 (R.take i)).map (Value.int .i64)) ∧ Below w.heap.size w wr) (fun ti _ => n - (intOf ti).toNat)
  case atStart => exact ⟨0, by omega, rfl, by rw [List.take_zero]; exact O0, B0⟩
  case round =>
    obtain ⟨i, hin, rfl, OO, BR⟩ := hrel
    clear O0 B0
    by_cases hlt : i < n
    · have hlti : (i : Int) < (n : Int) := by omega
      have hil : i < R.length := by rw [hn.out]; exact hlt
      obtain ⟨b, off, rfl, cs, cc⟩ := ((show SegN w a R from HS.out).old BR).at_ i hil
      have HTK : Hid (R.take (i + 1) = R.take i ++ [R.getD i ⟨0, 0⟩]) := take_snocN hil
      have hbd := HOK.out (R.getD i ⟨0, 0⟩) (by simp [List.getD, hil])
      generalize R.getD i ⟨0, 0⟩ = r at *
      obtain ⟨sy, ct⟩ := r
      simp only at cs cc hbd
      obtain ⟨s, rfl⟩ : ∃ s : Nat, sy = (s : Int) := ⟨sy.toNat, by omega⟩
      have hs19 : (s : Int) < 19 := by omega
      have hzb := tly8_bd (R.take i) ((tly8 (R.take i)).getD s 0) (by have : s < (tly8 (R.take i)).length := by rw [tly8_len]; omega
                                                                      simp [List.getD, this])
      rw [List.length_take] at hzb
      have HSN : Hid (tly8 (R.take (i + 1)) = (tly8 (R.take i)).set s ((tly8 (R.take i)).getD s 0 + 1)) := by
        show _ = _
        rw [HTK.out, tly8_snoc _ (by omega)]
      obtain ⟨d0, fz⟩ := own_cell1 OO (i := s) (by rw [tly8_len]; omega)
      have f0 := fz s
      obtain ⟨OS, GS⟩ := OO.stored s (.int .i64 ((tly8 (R.take i)).getD s 0 + 1))
      rw [← List.map_set, ← HSN.out] at OS
      have hsz := BR.size
      have hwlt : w.heap.size < wr.heap.size := (OO.lt _ rfl).2
      have B1 : Below w.heap.size w (wr.setCell ⟨w.heap.size, s, none⟩ (.int .i64 ((tly8 (R.take i)).getD s 0 + 1))) := BR.trans ((Below.refl _ _).grown GS hsz (fun k hk => by cases hk; exact Nat.le_refl _))
      have HB : Hid (Below w.heap.size w ((wr.setCell ⟨w.heap.size, s, none⟩ (.int .i64 ((tly8 (R.take i)).getD s 0 + 1))).alloc (.cells #[.int .i64 (s : Int), .int .i64 ct] 211))) := B1.alloc B1.size _
      have HOS : Hid _ := OS.alloc (.cells #[.int .i64 (s : Int), .int .i64 ct] 211)
      clear B1
      clear OS GS fz HSN HTK
      generalize (tly8 (R.take i)).getD s 0 = z at *
      have hneb : ¬ wr.heap.size = w.heap.size := by omega
      go_wp2_with fail
      go_roundw
      case rel => exact ⟨i + 1, by omega, by go_num, HOS.out, HB.out⟩
      case measure => simp [intOf]; omega
    · have hge : ¬ (i : Int) < (n : Int) := by omega
      have hTA : R.take i = R := List.take_of_length_le (by rw [hn.out]; omega)
      rw [hTA] at OO
      go_wp2_with fail
      go_ret
      refine ⟨some ⟨w.heap.size, 0, none⟩, 19, ?_, ?_, BR⟩
      · rw [tly8_len]; rfl
      · rw [tly8_len]; exact OO
/-- How many of the nineteen sizes are told. -/
def tol8 (Z : List Int) : Nat → Nat
  | 0 => 0
  | n + 1 => if 4 < n + 1 ∧ Z.getD (ordL.getD n 0).toNat 0 = 0 then tol8 Z n else n + 1
theorem tol8_bd (Z : List Int) : ∀ n, 4 ≤ n → 4 ≤ tol8 Z n ∧ tol8 Z n ≤ n
  | 0, h => by omega
  | n + 1, h => by
    rw [tol8]
    split
    · rename_i h1
      have := tol8_bd Z n (by omega)
      omega
    · omega
theorem ord_bd : ∀ k : Fin 19, 0 ≤ ordL.getD k.val 0 ∧ ordL.getD k.val 0 ≤ 18 := by decide
set_option maxRecDepth 100000 in
set_option maxHeartbeats 4000000 in
theorem ptoldof8 (Z : List Int) (a : Option Addr) (cap : Nat) (hn : Hid (Z.length = 19)) (w : World) (hs : SegZ w a Z) (T : TabO w) :
    Calls Tryz.prog 150 #[.slice a 19 cap] w fun e w' => e = .returned (.int .i64 (tol8 Z 19 : Int)) ∧ w' = w := by
  have HS : Hid (SegZ w a Z) := hs
  have HT : Hid (TabO w) := T
  clear hs T
  go_enter Tryz.func150, Tryz.ntmps150
  go_wp2_with fail
  go_loopw [3] (fun tm wr => ∃ m : Nat, 4 ≤ m ∧ m ≤ 19 ∧ tm = .int .i64 (m : Int) ∧ Hid (tol8 Z 19 = tol8 Z m) ∧ wr = w) (fun tm _ => (intOf tm).toNat)
  case atStart => exact ⟨19, by omega, by omega, rfl, rfl, rfl⟩
  case round =>
    obtain ⟨m, hm4, hm, rfl, HC, hwr⟩ := hrel
    have hwr2 : w = wr := hwr.symm
    subst hwr2
    clear hwr
    obtain ⟨q, rfl⟩ : ∃ q, m = q + 1 := ⟨m - 1, by omega⟩
    have c0 := TabO.at8 HT.out q (by omega)
    have hob := ord_bd ⟨q, by omega⟩
    simp only at hob
    have HQ : Hid (tol8 Z (q + 1) = if 4 < q + 1 ∧ Z.getD (ordL.getD q 0).toNat 0 = 0 then tol8 Z q else q + 1) := rfl
    generalize ordL.getD q 0 = oq at *
    obtain ⟨s, rfl⟩ : ∃ s : Nat, oq = (s : Int) := ⟨oq.toNat, by omega⟩
    rw [Int.toNat_natCast] at HQ
    obtain ⟨b, off, rfl, c1⟩ := (show SegZ w a Z from HS.out).at_ s (by rw [hn.out]; omega)
    have hs19 : (s : Int) < 19 := by omega
    by_cases h4 : 4 < q + 1
    · have h4i : (4 : Int) < ((q + 1 : Nat) : Int) := by omega
      by_cases hz : Z.getD s 0 = 0
      · have HC2 : Hid (tol8 Z 19 = tol8 Z q) := by show _ = _; rw [HC.out, HQ.out, if_pos ⟨h4, hz⟩]
        rw [hz] at c1
        clear HC HQ
        go_wp2_with fail
        go_roundw
        case rel => exact ⟨q, by omega, by omega, by go_num, HC2, trivial⟩
        case measure => simp [intOf]
      · have HC2 : Hid (tol8 Z 19 = q + 1) := by show _ = _; rw [HC.out, HQ.out, if_neg (fun h => hz h.2)]
        have hzb : (Z.getD s 0 == 0) = false := by rw [beq_eq_false_iff_ne]; exact hz
        clear HC HQ
        generalize Z.getD s 0 = z at *
        go_wp2_with fail
        go_ret
        refine ⟨?_, rfl⟩
        rw [HC2.out]
        rfl
    · have h4i : ¬ (4 : Int) < ((q + 1 : Nat) : Int) := by omega
      have HC2 : Hid (tol8 Z 19 = q + 1) := by show _ = _; rw [HC.out, HQ.out, if_neg (fun h => h4 h.1)]
      clear HC HQ
      go_wp2_with fail
      go_ret
      refine ⟨?_, rfl⟩
      rw [HC2.out]
      rfl
end Go.Proofs.YtcifalelnfeggaaGreatDoor

namespace Go.Proofs.YtcifalelnfeggaaGreatDoor
open Go.RowKit
set_option linter.unusedVariables false

/-! The landed block: repeated. -/
def rst9 (v : Int) (n i : Nat) : List Int := List.replicate i v ++ List.replicate (n - i) 0
theorem rst9_len (v : Int) {n i : Nat} (h : i ≤ n) : (rst9 v n i).length = n := by simp [rst9]; omega
theorem rst9_set (v : Int) {n i : Nat} (h : i < n) : (rst9 v n i).set i v = rst9 v n (i + 1) := by
  unfold rst9
  have e : n - i = (n - (i + 1)) + 1 := by omega
  rw [e, List.replicate_succ, List.set_append_right _ _ (by simp), List.length_replicate, Nat.sub_self, List.set_cons_zero, List.replicate_succ', List.append_assoc]
  rfl
set_option maxRecDepth 100000 in
set_option maxHeartbeats 1000000 in
theorem prep9 (v : Int) (n : Nat) (hv : 0 ≤ v ∧ v ≤ 15) (hl : n ≤ 1000) (w : World) :
    Calls Tryz.prog 50 #[.int .i64 v, .int .i64 (n : Int)] w fun e w' => e = .returned (.slice (some ⟨w.heap.size, 0, none⟩) n n) ∧ w'.ownsRow w.heap.size 3 1 (.slice (some ⟨w.heap.size, 0, none⟩) n n) n ((List.replicate n v).map (Value.int .i64)) ∧ Below w.heap.size w w' := by
  have hmk : ∀ W, (Instr.makeSlice 39 (.int .i64 (n : Int)) (.int .i64 (n : Int))).run Tryz.prog W = .ok (.slice (some ⟨W.heap.size, 0, none⟩) n n) (W.alloc (.cells (Array.replicate n (.int .i64 0)) 3)) := fun W => run_make_ints n (by omega) W
  go_enter Tryz.func50, Tryz.ntmps50
  go_wp2_with fail
  have O0 := own_zeros w n (by omega)
  have B0 := below_box8 w (.cells (Array.replicate n (.int .i64 0)) 3)
  generalize w.alloc (.cells (Array.replicate n (.int .i64 0)) 3) = w0 at *
  go_loopw [11] (fun ti wr => ∃ i : Nat, i ≤ n ∧ ti = .int .i64 (i : Int) ∧ wr.ownsRow w.heap.size 3 1 (.slice (some ⟨w.heap.size, 0, none⟩) n n) n ((rst9 v n i).map (Value.int .i64)) ∧ Below w.heap.size w wr) (fun ti _ => n - (intOf ti).toNat)
  case atStart => exact ⟨0, by omega, rfl, by rw [show rst9 v n 0 = List.replicate n 0 by simp [rst9]]; exact O0, B0⟩
  case round =>
    obtain ⟨i, hin, rfl, OO, BR⟩ := hrel
    clear O0 B0
    by_cases hlt : i < n
    · have hlti : (i : Int) < (n : Int) := by omega
      have HSN : Hid ((rst9 v n i).set i v = rst9 v n (i + 1)) := rst9_set v hlt
      obtain ⟨d0, fz⟩ := own_cell1 OO (i := i) (by rw [rst9_len v (by omega)]; exact hlt)
      have f0 := fz i
      generalize (rst9 v n i).getD i 0 = y at *
      obtain ⟨OS, GS⟩ := OO.stored i (.int .i64 v)
      rw [← List.map_set, HSN.out] at OS
      have hsz := BR.size
      have B1 : Below w.heap.size w (wr.setCell ⟨w.heap.size, i, none⟩ (.int .i64 v)) := BR.trans ((Below.refl _ _).grown GS hsz (fun k hk => by cases hk; exact Nat.le_refl _))
      have HB : Hid (Below w.heap.size w (wr.setCell ⟨w.heap.size, i, none⟩ (.int .i64 v))) := B1
      have HOS : Hid _ := OS
      clear B1 OS GS fz HSN
      go_wp2_with fail
      go_roundw
      case rel => exact ⟨i + 1, by omega, by go_num, HOS.out, HB.out⟩
      case measure => simp [intOf]; omega
    · have hge : ¬ (i : Int) < (n : Int) := by omega
      have hTA : rst9 v n i = List.replicate n v := by unfold rst9; rw [show n - i = 0 by omega, show i = n by omega]; simp
      rw [hTA] at OO
      clear hTA
      go_wp2_with fail
      go_ret
      exact ⟨rfl, by simpa using OO, BR⟩
/-- A part of an array of structs that is a value. -/
theorem run_index9 {P : Program} (w : World) (t e : TypeId) (n m : Nat) (fs : Array Field) (cs : Array Value) (i : Nat) (k : IntKind) (hi : i < n) (ht : P.underlying t = some (.array n e)) (he : P.underlying e = some (.struct fs)) (hs : (P.info? e).map (·.size) = some m) :
    (Instr.index t (.agg cs) (.int k (i : Int))).run P w = .ok (.agg (cs.extract (i * m) (i * m + m))) w := by
  cases hq : P.info? e with
  | none => simp [hq] at hs
  | some inf =>
    have h1 : inf.size = m := by simpa [hq] using hs
    have hsz : (sizeOf e).run P w = .ok m w := by simp [sizeOf, typeInfo, hq, h1]
    have hagg : (isAgg e).run P w = .ok true w := by
      unfold isAgg
      rw [Sem.run_bind, run_underlying he w]
      simp
    have hb : (0 : Int) ≤ (i : Int) ∧ (i : Int) < (n : Int) := by omega
    simp [Instr.index, asIntOf, Sem.run_bind, run_underlying ht, hb, hsz, part, hagg, hi]
theorem own_ge9 {w : World} {base n sz k : Nat} {e : TypeId} {v : Value} {xs : List Value} (h : w.ownsRow base e sz v n xs) (hk : v.ownBlock = some k) : base ≤ k := by
  rcases h.2 with ⟨rfl, _⟩ | ⟨g, cap, cur, rfl, h1, _⟩
  · simp [Value.ownBlock] at hk
  · simp [Value.ownBlock] at hk
    omega
end Go.Proofs.YtcifalelnfeggaaGreatDoor

namespace Go.Proofs.YtcifalelnfeggaaGreatDoor
set_option linter.unusedVariables false

/-! Bits as lists: the lowest first. -/
/-- The n low bits of v. -/
def bN (v : Nat) : Nat → List Bool
  | 0 => []
  | n + 1 => v.testBit 0 :: bN (v / 2) n
/-- The number of these bits. -/
def num : List Bool → Nat
  | [] => 0
  | b :: r => b.toNat + 2 * num r

theorem bN_len (v n : Nat) : (bN v n).length = n := by
  induction n generalizing v with
  | zero => rfl
  | succ n ih => simp [bN, ih]
theorem num_lt (L : List Bool) : num L < 2 ^ L.length := by
  induction L with
  | nil => simp [num]
  | cons b r ih =>
    have hb : b.toNat < 2 := Bool.toNat_lt b
    simp only [num, List.length_cons, Nat.pow_succ]
    omega
theorem num_append (L M : List Bool) : num (L ++ M) = num L + 2 ^ L.length * num M := by
  induction L with
  | nil => simp [num]
  | cons b r ih =>
    simp only [List.cons_append, num, List.length_cons, Nat.pow_succ, ih, Nat.mul_add, Nat.add_assoc]
    rw [Nat.mul_comm (2 ^ r.length) 2, Nat.mul_assoc]
theorem bit0 (v : Nat) : (v.testBit 0).toNat = v % 2 := by
  rw [Nat.testBit_zero]
  rcases Nat.mod_two_eq_zero_or_one v with h | h <;> simp [h]
theorem num_bN (v n : Nat) : num (bN v n) = v % 2 ^ n := by
  induction n generalizing v with
  | zero => simp [bN, num, Nat.mod_one]
  | succ n ih =>
    simp only [bN, num, ih, bit0]
    rw [Nat.pow_succ, Nat.mul_comm (2 ^ n) 2, Nat.mod_mul]
theorem num_bN_lt {v n : Nat} (h : v < 2 ^ n) : num (bN v n) = v := by rw [num_bN, Nat.mod_eq_of_lt h]
theorem num_low (b : Bool) (L : List Bool) : (num (b :: L)).testBit 0 = b := by
  have hb : b.toNat < 2 := Bool.toNat_lt b
  rw [Nat.testBit_zero]
  simp only [num]
  cases b <;> simp <;> omega
theorem num_half (b : Bool) (L : List Bool) : num (b :: L) / 2 = num L := by
  have hb : b.toNat < 2 := Bool.toNat_lt b
  simp only [num]
  omega
theorem bN_num (L : List Bool) : bN (num L) L.length = L := by
  induction L with
  | nil => rfl
  | cons b r ih => simp only [List.length_cons, bN, num_low, num_half, ih]
theorem bN_num' {L : List Bool} {n : Nat} (h : L.length = n) : bN (num L) n = L := by subst h; exact bN_num L
theorem num_inj {L M : List Bool} (hl : L.length = M.length) (h : num L = num M) : L = M := by rw [← bN_num L, ← bN_num M, hl, h]
theorem bN_add (v n m : Nat) : bN v (n + m) = bN v n ++ bN (v / 2 ^ n) m := by
  induction n generalizing v with
  | zero => simp [bN]
  | succ n ih =>
    rw [Nat.add_right_comm]
    simp only [bN, List.cons_append, ih]
    rw [Nat.div_div_eq_div_mul, Nat.pow_succ, Nat.mul_comm 2]
theorem bN_mod (v n : Nat) : bN (v % 2 ^ n) n = bN v n := by
  rw [← num_bN v n]
  exact bN_num' (bN_len v n)
theorem bN_get (v n i : Nat) (h : i < n) : (bN v n)[i]? = some (v.testBit i) := by
  induction n generalizing v i with
  | zero => omega
  | succ n ih =>
    cases i with
    | zero => simp [bN]
    | succ i =>
      simp only [bN, List.getElem?_cons_succ]
      rw [ih (v / 2) i (by omega), Nat.testBit_succ]
theorem bN_succ (v n : Nat) : bN v (n + 1) = bN v n ++ [v.testBit n] := by
  rw [bN_add]
  simp only [bN, Nat.testBit_div_two_pow, Nat.zero_add]
theorem bN_take (v n m : Nat) (h : m ≤ n) : (bN v n).take m = bN v m := by
  obtain ⟨k, rfl⟩ := Nat.exists_eq_add_of_le h
  rw [bN_add, List.take_left' (bN_len v m)]
theorem bN_drop (v n m : Nat) (h : m ≤ n) : (bN v n).drop m = bN (v / 2 ^ m) (n - m) := by
  obtain ⟨k, rfl⟩ := Nat.exists_eq_add_of_le h
  rw [bN_add, List.drop_left' (bN_len v m), Nat.add_sub_cancel_left]
theorem bN_take_num (L : List Bool) (n : Nat) (h : n ≤ L.length) : bN (num L) n = L.take n := by
  have := bN_take (num L) L.length n h
  rw [bN_num] at this
  exact this.symm
theorem num_take (L : List Bool) (n : Nat) (h : n ≤ L.length) : num (L.take n) = num L % 2 ^ n := by
  rw [← bN_take_num L n h, num_bN]
theorem num_drop (L : List Bool) (n : Nat) (h : n ≤ L.length) : num (L.drop n) = num L / 2 ^ n := by
  have := bN_drop (num L) L.length n h
  rw [bN_num] at this
  rw [this, num_bN, Nat.mod_eq_of_lt]
  have h2 := num_lt L
  rw [Nat.div_lt_iff_lt_mul (Nat.two_pow_pos n), ← Nat.pow_add]
  rwa [Nat.sub_add_cancel h]
theorem num_snoc (L : List Bool) (b : Bool) : num (L ++ [b]) = num L + 2 ^ L.length * b.toNat := by
  rw [num_append]; simp [num]
theorem num_replicate (n : Nat) : num (List.replicate n false) = 0 := by
  induction n with
  | zero => rfl
  | succ n ih => simp [List.replicate_succ, num, ih]
theorem bN_zero (n : Nat) : bN 0 n = List.replicate n false := by
  rw [← num_replicate n]
  exact bN_num' (by simp)

/-- The bits of bytes. -/
def bB : List Int → List Bool
  | [] => []
  | z :: r => bN z.toNat 8 ++ bB r
theorem bB_len (zs : List Int) : (bB zs).length = 8 * zs.length := by
  induction zs with
  | nil => rfl
  | cons z r ih => simp [bB, bN_len, ih]; omega
theorem bB_append (xs ys : List Int) : bB (xs ++ ys) = bB xs ++ bB ys := by
  induction xs with
  | nil => rfl
  | cons z r ih => simp [bB, ih]
theorem bB_one (z : Int) : bB [z] = bN z.toNat 8 := by simp [bB]

/-- Bits as bytes; noughts up to a byte's end. -/
def toB (L : List Bool) : List Int := (List.range ((L.length + 7) / 8)).map fun j => (num ((L.drop (8 * j)).take 8) : Int)

theorem toB_nil : toB [] = [] := rfl
theorem toB_eq {L : List Bool} (h : 0 < L.length) : toB L = (num (L.take 8) : Int) :: toB (L.drop 8) := by
  have e : (L.length + 7) / 8 = ((L.drop 8).length + 7) / 8 + 1 := by rw [List.length_drop]; omega
  unfold toB
  rw [e, List.range_succ_eq_map, List.map_cons, List.map_map]
  simp only [Nat.mul_zero, List.drop_zero, List.drop_drop]
  congr 1
  apply List.map_congr_left
  intro j _
  simp only [Function.comp_apply, Nat.mul_succ, Nat.add_comm]
theorem toB_len (L : List Bool) : (toB L).length = (L.length + 7) / 8 := by
  generalize hn : L.length = n
  induction n using Nat.strongRecOn generalizing L with
  | _ n ih =>
    by_cases h : 0 < L.length
    · rw [toB_eq h, List.length_cons, ih (L.length - 8) (by omega) (L.drop 8) (by simp)]
      omega
    · have : L = [] := List.eq_nil_of_length_eq_zero (by omega)
      subst this
      simp [toB_nil] at hn ⊢
      omega
theorem toB_bd (L : List Bool) : ∀ z ∈ toB L, 0 ≤ z ∧ z ≤ 255 := by
  generalize hn : L.length = n
  induction n using Nat.strongRecOn generalizing L with
  | _ n ih =>
    by_cases h : 0 < L.length
    · rw [toB_eq h]
      intro z hz
      rw [List.mem_cons] at hz
      rcases hz with rfl | hz
      · have h1 := num_lt (L.take 8)
        have h2 : (2 : Nat) ^ (L.take 8).length ≤ 2 ^ 8 := Nat.pow_le_pow_right (by decide) (by simp; omega)
        omega
      · exact ih (L.length - 8) (by omega) (L.drop 8) (by simp) z hz
    · have : L = [] := List.eq_nil_of_length_eq_zero (by omega)
      subst this
      simp [toB_nil]
theorem toB_head {L M : List Bool} (h : L.length = 8) : toB (L ++ M) = (num L : Int) :: toB M := by
  rw [toB_eq (by simp; omega), List.take_left' h, List.drop_left' h]
theorem toB_bB {zs : List Int} (h : ∀ z ∈ zs, 0 ≤ z ∧ z ≤ 255) (M : List Bool) : toB (bB zs ++ M) = zs ++ toB M := by
  induction zs with
  | nil => rfl
  | cons z r ih =>
    have hz := h z (by simp)
    simp only [bB, List.append_assoc, List.cons_append]
    rw [toB_head (bN_len _ _), ih (fun y hy => h y (by simp [hy])), num_bN_lt (by omega)]
    simp [Int.toNat_of_nonneg hz.1]
theorem bN_take_all {v n m : Nat} (h : n ≤ m) : (bN v n).take m = bN v n := List.take_of_length_le (by rw [bN_len]; exact h)
theorem toB_rest {r c : Nat} (h : r < 2 ^ c) (hc : c < 8) : toB (bN r c) = if 0 < c then [(r : Int)] else [] := by
  by_cases h0 : 0 < c
  · rw [if_pos h0, toB_eq (by rw [bN_len]; exact h0), bN_take_all (by omega), num_bN_lt h]
    rw [List.drop_of_length_le (by rw [bN_len]; omega), toB_nil]
  · rw [if_neg h0]
    obtain rfl : c = 0 := by omega
    exact toB_nil
theorem bB_toB {L : List Bool} : ∃ k, k < 8 ∧ bB (toB L) = L ++ List.replicate k false := by
  generalize hn : L.length = n
  induction n using Nat.strongRecOn generalizing L with
  | _ n ih =>
    by_cases h : 8 ≤ L.length
    · obtain ⟨k, hk, he⟩ := ih (L.length - 8) (by omega) (L := L.drop 8) (by simp)
      refine ⟨k, hk, ?_⟩
      rw [toB_eq (by omega)]
      simp only [bB, Int.toNat_natCast]
      rw [he, bN_num' (by simp; omega), ← List.append_assoc, List.take_append_drop]
    · by_cases h0 : 0 < L.length
      · refine ⟨8 - L.length, by omega, ?_⟩
        rw [toB_eq h0, List.take_of_length_le (by omega), List.drop_of_length_le (by omega), toB_nil]
        simp only [bB, Int.toNat_natCast, List.append_nil]
        have e : 8 = L.length + (8 - L.length) := by omega
        rw [show bN (num L) 8 = bN (num L) (L.length + (8 - L.length)) by rw [← e], bN_add, bN_num, Nat.div_eq_of_lt (num_lt L), bN_zero]
      · have : L = [] := List.eq_nil_of_length_eq_zero (by omega)
        subst this
        exact ⟨0, by decide, by simp [toB_nil, bB]⟩

/-- A byte of the bits. -/
theorem toB_get (L : List Bool) (j : Nat) (h : j < (toB L).length) : (toB L)[j]? = some (num ((L.drop (8 * j)).take 8) : Int) := by
  induction j generalizing L with
  | zero =>
    rw [toB_len] at h
    rw [toB_eq (by omega)]; simp
  | succ j ih =>
    rw [toB_len] at h
    rw [toB_eq (by omega), List.getElem?_cons_succ, ih (L.drop 8) (by rw [toB_len]; simp; omega), List.drop_drop]
    rw [show 8 + 8 * j = 8 * (j + 1) by omega]

theorem rev_len (v n : Nat) : (bN v n).reverse.length = n := by rw [List.length_reverse, bN_len]
theorem rev_get (v n i : Nat) (h : i < n) : (bN v n).reverse[i]? = some (v.testBit (n - 1 - i)) := by
  rw [List.getElem?_reverse (by rw [bN_len]; exact h), bN_len, bN_get _ _ _ (by omega)]
theorem rev_succ (v i : Nat) : num (bN v (i + 1)).reverse = (v / 2 ^ i) % 2 + 2 * num (bN v i).reverse := by
  rw [bN_succ, List.reverse_append]
  simp only [List.reverse_cons, List.reverse_nil, List.nil_append, List.singleton_append, num]
  rw [← bit0, Nat.testBit_div_two_pow, Nat.zero_add]
theorem num_take_succ (R : List Bool) (i : Nat) (h : i < R.length) : num (R.take (i + 1)) = num (R.take i) + 2 ^ i * R[i].toNat := by
  rw [List.take_succ_eq_append_getElem h, num_snoc]
  simp only [List.length_take]
  rw [Nat.min_eq_left (by omega)]
theorem num_take_lt (R : List Bool) (i : Nat) : num (R.take i) < 2 ^ i := by
  have h1 := num_lt (R.take i)
  have h2 : (2 : Nat) ^ (R.take i).length ≤ 2 ^ i := Nat.pow_le_pow_right (by decide) (by simp; omega)
  omega
end Go.Proofs.YtcifalelnfeggaaGreatDoor

namespace Go.Proofs.YtcifalelnfeggaaGreatDoor
open Go.RowKit
set_option linter.unusedVariables false

/-! Canonical codes as numbers: how many of each length, each length's first code, the space taken. -/
def cC (zs : List Int) (l : Nat) : Nat := if l = 0 then 0 else zs.count (l : Int)
def cF (zs : List Int) : Nat → Nat
  | 0 => 0
  | l + 1 => 2 * (cF zs l + cC zs l)
def cS (zs : List Int) : Nat → Nat
  | 0 => 0
  | l + 1 => cS zs l + cC zs l
def cP (zs : List Int) : Nat → Nat
  | 0 => 0
  | l + 1 => cP zs l + cC zs l * 2 ^ (15 - l)
def rk (zs : List Int) (s : Nat) : Nat := (zs.take s).count (zs.getD s 0)
def ln (zs : List Int) (s : Nat) : Nat := (zs.getD s 0).toNat
def cd (zs : List Int) (s : Nat) : Nat := if zs.getD s 0 = 0 then 0 else cF zs (ln zs s) + rk zs s
/-- Lengths that may stand in a list. -/
def LOk (zs : List Int) : Prop := ∀ z ∈ zs, 0 ≤ z ∧ z ≤ 15
theorem LOk.get {zs : List Int} (h : LOk zs) (s : Nat) : 0 ≤ zs.getD s 0 ∧ zs.getD s 0 ≤ 15 := by
  by_cases c : s < zs.length
  · have := h (zs.getD s 0) (by simp [List.getD, c])
    exact this
  · simp [List.getD, c]
theorem LOk.ln {zs : List Int} (h : LOk zs) (s : Nat) : zs.getD s 0 = (ln zs s : Int) ∧ ln zs s ≤ 15 := by
  have := h.get s
  unfold Go.Proofs.YtcifalelnfeggaaGreatDoor.ln
  omega
theorem cC_zero (zs : List Int) : cC zs 0 = 0 := rfl
theorem cC_pos (zs : List Int) {l : Nat} (h : 0 < l) : cC zs l = zs.count (l : Int) := by unfold cC; rw [if_neg (by omega)]
theorem cC_le (zs : List Int) (l : Nat) : cC zs l ≤ zs.length := by
  unfold cC
  split
  · omega
  · exact List.count_le_length
theorem cC_snoc (zs : List Int) (z : Int) (l : Nat) : cC (zs ++ [z]) l = cC zs l + (if l ≠ 0 ∧ z = (l : Int) then 1 else 0) := by
  unfold cC
  by_cases h : l = 0
  · simp [h]
  · rw [if_neg h, if_neg h, List.count_append]
    by_cases c : z = (l : Int)
    · subst c; simp [h]
    · rw [if_neg (fun h => c h.2)]
      simp [c]
theorem cF_succ (zs : List Int) (l : Nat) : cF zs (l + 1) = 2 * (cF zs l + cC zs l) := rfl
theorem cS_succ (zs : List Int) (l : Nat) : cS zs (l + 1) = cS zs l + cC zs l := rfl
theorem cP_succ (zs : List Int) (l : Nat) : cP zs (l + 1) = cP zs l + cC zs l * 2 ^ (15 - l) := rfl
theorem pick_eq {P l q r : Nat} {z : Int} (h0 : 0 ≤ z) (c : z ≠ (l : Int)) : P + (if z ≠ 0 ∧ z.toNat < l then q else 0) + (r + 0) = P + r + (if z ≠ 0 ∧ z.toNat < l + 1 then q else 0) := by
  by_cases c2 : z ≠ 0 ∧ z.toNat < l
  · rw [if_pos c2, if_pos (show z ≠ 0 ∧ z.toNat < l + 1 from ⟨c2.1, by omega⟩)]; omega
  · rw [if_neg c2, if_neg (show ¬ (z ≠ 0 ∧ z.toNat < l + 1) by omega)]; omega
theorem pick_new {P l q r : Nat} : P + (if ((l : Nat) : Int) ≠ 0 ∧ ((l : Nat) : Int).toNat < l then q else 0) + (r + (if l ≠ 0 ∧ ((l : Nat) : Int) = (l : Int) then 1 else 0) * q) = P + r + (if ((l : Nat) : Int) ≠ 0 ∧ ((l : Nat) : Int).toNat < l + 1 then q else 0) := by
  by_cases hl : l = 0
  · rw [if_neg (by omega), if_neg (by omega), if_neg (by omega)]; omega
  · rw [if_neg (by omega), if_pos ⟨hl, rfl⟩, if_pos ⟨by omega, by omega⟩]; omega
theorem cP_snoc (zs : List Int) (z : Int) (h0 : 0 ≤ z) (l : Nat) : cP (zs ++ [z]) l = cP zs l + (if z ≠ 0 ∧ z.toNat < l then 2 ^ (15 - z.toNat) else 0) := by
  induction l with
  | zero => rw [if_neg (by omega)]; rfl
  | succ l ih =>
    rw [cP_succ, cP_succ, ih, cC_snoc, Nat.add_mul]
    by_cases c : z = (l : Int)
    · subst c
      have h2 : 15 - ((l : Nat) : Int).toNat = 15 - l := by omega
      rw [h2]
      generalize 2 ^ (15 - l) = q
      exact pick_new
    · rw [if_neg (show ¬ (l ≠ 0 ∧ z = (l : Int)) from fun h => c h.2), Nat.zero_mul]
      generalize 2 ^ (15 - z.toNat) = q
      generalize cC zs l * 2 ^ (15 - l) = r
      exact pick_eq h0 c
theorem cS_snoc (zs : List Int) (z : Int) (h0 : 0 ≤ z) : ∀ l, cS (zs ++ [z]) l = cS zs l + (if z ≠ 0 ∧ z.toNat < l then 1 else 0)
  | 0 => by simp [cS]
  | l + 1 => by
    have ih := cS_snoc zs z h0 l
    rw [cS_succ, cS_succ, ih, cC_snoc]
    by_cases c : z = (l : Int)
    · subst c
      by_cases hl : l = 0
      · subst hl; simp
      · rw [if_neg (by omega), if_pos ⟨hl, rfl⟩, if_pos ⟨by omega, by omega⟩]
        omega
    · rw [if_neg (show ¬ (l ≠ 0 ∧ z = (l : Int)) from fun h => c h.2)]
      by_cases c2 : z ≠ 0 ∧ z.toNat < l
      · rw [if_pos c2, if_pos (show z ≠ 0 ∧ z.toNat < l + 1 from ⟨c2.1, by omega⟩)]; omega
      · rw [if_neg c2, if_neg (show ¬ (z ≠ 0 ∧ z.toNat < l + 1) by omega)]; omega
theorem cP_nil : ∀ l, cP [] l = 0
  | 0 => rfl
  | l + 1 => by rw [cP_succ, cP_nil l]; unfold cC; split <;> simp
theorem cS_nil : ∀ l, cS [] l = 0
  | 0 => rfl
  | l + 1 => by rw [cS_succ, cS_nil l]; unfold cC; split <;> simp
theorem cF_cP (zs : List Int) : ∀ l, l ≤ 15 → cF zs l * 2 ^ (15 - l) = cP zs l
  | 0, _ => by simp [cF, cP]
  | l + 1, h => by
    have ih := cF_cP zs l (by omega)
    rw [cF_succ, cP_succ, ← ih, ← Nat.add_mul, show 15 - l = (15 - (l + 1)) + 1 by omega, Nat.pow_succ]
    rw [Nat.mul_comm 2, Nat.mul_assoc, Nat.mul_comm 2]
theorem cP_mono (zs : List Int) {a : Nat} : ∀ {b : Nat}, a ≤ b → cP zs a ≤ cP zs b
  | 0, h => by have : a = 0 := by omega
               subst this; exact Nat.le_refl _
  | b + 1, h => by
    by_cases c : a = b + 1
    · subst c; exact Nat.le_refl _
    · have := cP_mono zs (a := a) (b := b) (by omega)
      rw [cP_succ]
      omega
theorem cS_mono (zs : List Int) {a : Nat} : ∀ {b : Nat}, a ≤ b → cS zs a ≤ cS zs b
  | 0, h => by have : a = 0 := by omega
               subst this; exact Nat.le_refl _
  | b + 1, h => by
    by_cases c : a = b + 1
    · subst c; exact Nat.le_refl _
    · have := cS_mono zs (a := a) (b := b) (by omega)
      rw [cS_succ]
      omega
/-- How much of the space they take; how many have a code. -/
def spc (zs : List Int) : Nat := cP zs 16
def tot (zs : List Int) : Nat := cS zs 16
theorem spc_snoc (zs : List Int) {z : Int} (h : 0 ≤ z ∧ z ≤ 15) : spc (zs ++ [z]) = spc zs + (if z = 0 then 0 else 2 ^ (15 - z.toNat)) := by
  unfold spc
  rw [cP_snoc zs z h.1]
  by_cases c : z = 0
  · simp [c]
  · rw [if_pos ⟨c, by omega⟩, if_neg c]
theorem tot_snoc (zs : List Int) {z : Int} (h : 0 ≤ z ∧ z ≤ 15) : tot (zs ++ [z]) = tot zs + (if z = 0 then 0 else 1) := by
  unfold tot
  rw [cS_snoc zs z h.1]
  by_cases c : z = 0
  · simp [c]
  · rw [if_pos ⟨c, by omega⟩, if_neg c]
theorem cP_le (zs : List Int) (l : Nat) : cP zs l ≤ cS zs l * 16384 := by
  induction l with
  | zero => exact Nat.zero_le _
  | succ l ih =>
    rw [cP_succ, cS_succ, Nat.add_mul]
    refine Nat.add_le_add ih ?_
    rcases Nat.eq_zero_or_pos l with rfl | h
    · rw [cC_zero, Nat.zero_mul]; exact Nat.zero_le _
    · exact Nat.mul_le_mul_left _ (Nat.pow_le_pow_right (by decide) (show 15 - l ≤ 14 by omega))
theorem cP_small {zs : List Int} (h : cC zs 1 = 0) (l : Nat) : cP zs (l + 2) ≤ cS zs (l + 2) * 8192 := by
  induction l with
  | zero => rw [cP_succ, cP_succ, cC_zero, h, Nat.zero_mul]; exact Nat.zero_le _
  | succ l ih =>
    rw [cP_succ, cS_succ, Nat.add_mul]
    exact Nat.add_le_add ih (Nat.mul_le_mul_left _ (Nat.pow_le_pow_right (by decide) (show 15 - (l + 2) ≤ 13 by omega)))
theorem cP_one {zs : List Int} (h : cC zs 1 = 1) (l : Nat) (hs : cS zs (l + 2) ≤ 1) : cP zs (l + 2) = 16384 := by
  induction l with
  | zero => rw [cP_succ, cP_succ, cC_zero, h, Nat.zero_mul, Nat.one_mul]; show 0 + 0 + 2 ^ 14 = 16384; decide
  | succ l ih =>
    rw [cS_succ] at hs
    have h1 := cS_mono zs (a := 2) (b := l + 2) (by omega)
    have h2 : cS zs 2 = 1 := by rw [cS_succ, cS_succ, cC_zero, h]; rfl
    have h3 : cC zs (l + 2) = 0 := by omega
    rw [cP_succ, h3, Nat.zero_mul, ih (by omega)]
theorem spc_tot (zs : List Int) : spc zs ≤ tot zs * 16384 := cP_le zs 16
/-- One symbol alone: half of the space is that of a length of 1. -/
theorem one_half {zs : List Int} (h : tot zs = 1) : spc zs = 16384 ↔ cC zs 1 = 1 := by
  have h1 : cS zs 2 ≤ cS zs 16 := cS_mono zs (by omega)
  have h2 : cS zs 2 = cC zs 1 := by rw [cS_succ, cS_succ, cC_zero]; simp [cS]
  have h3 : cS zs 16 = 1 := h
  constructor
  · intro e
    rcases Nat.eq_zero_or_pos (cC zs 1) with h4 | h4
    · exfalso
      have h5 : cP zs 16 ≤ cS zs 16 * 8192 := cP_small h4 14
      have h6 : cP zs 16 = 16384 := e
      rw [h3, h6] at h5
      exact absurd h5 (by decide)
    · omega
  · intro e
    exact cP_one e 14 (Nat.le_of_eq h3)
theorem tot_le : ∀ zs : List Int, LOk zs → tot zs ≤ zs.length := by
  intro zs h
  have key : ∀ k, k ≤ zs.length → tot (zs.take k) ≤ k := by
    intro k
    induction k with
    | zero => intro _; rw [List.take_zero]; exact Nat.le_of_eq (cS_nil 16)
    | succ k ih =>
      intro hk
      have h1 := ih (by omega)
      have e : zs.take (k + 1) = zs.take k ++ [zs.getD k 0] := by
        rw [List.take_add_one, List.getElem?_eq_getElem (by omega)]
        simp [List.getD, show k < zs.length by omega]
      rw [e, tot_snoc _ (h.get k)]
      split <;> omega
  have := key zs.length (Nat.le_refl _)
  rwa [List.take_length] at this
/-- A symbol's rank is below its length's number. -/
theorem rk_lt {zs : List Int} {s : Nat} (hs : s < zs.length) : rk zs s < zs.count (zs.getD s 0) := by
  unfold rk
  have h1 : zs = zs.take s ++ zs.drop s := (List.take_append_drop s zs).symm
  have h2 : zs.drop s = zs.getD s 0 :: zs.drop (s + 1) := by
    rw [List.drop_eq_getElem_cons hs]
    simp [List.getD, hs]
  have h3 : zs.count (zs.getD s 0) = (zs.take s).count (zs.getD s 0) + (zs.drop s).count (zs.getD s 0) := by
    conv => lhs; rw [h1]
    rw [List.count_append]
    simp
  rw [h3, h2, List.count_cons]
  simp
theorem rk_lt_c {zs : List Int} (h : LOk zs) {s : Nat} (hs : s < zs.length) (h0 : zs.getD s 0 ≠ 0) : rk zs s < cC zs (ln zs s) := by
  have := h.ln s
  rw [cC_pos zs (by omega), ← this.1]
  exact rk_lt hs
/-- Each rank is some symbol's. -/
theorem rk_has : ∀ (zs : List Int) (z : Int) (r : Nat), r < zs.count z → ∃ s, s < zs.length ∧ zs.getD s 0 = z ∧ rk zs s = r
  | [], z, r, h => by simp at h
  | y :: zs, z, r, h => by
    by_cases c : y = z
    · subst c
      by_cases hr : r = 0
      · exact ⟨0, by simp, by simp, by simp [rk, hr]⟩
      · obtain ⟨s, h1, h2, h3⟩ := rk_has zs y (r - 1) (by rw [List.count_cons] at h; simp at h; omega)
        refine ⟨s + 1, by simp; omega, by simpa [List.getD] using h2, ?_⟩
        unfold rk at h3 ⊢
        rw [h2] at h3
        have : (y :: zs).getD (s + 1) 0 = y := by simpa [List.getD] using h2
        rw [this, List.take_succ_cons, List.count_cons, h3]
        simp
        omega
    · obtain ⟨s, h1, h2, h3⟩ := rk_has zs z r (by rw [List.count_cons] at h; simpa [c] using h)
      refine ⟨s + 1, by simp; omega, by simpa [List.getD] using h2, ?_⟩
      unfold rk at h3 ⊢
      rw [h2] at h3
      have : (y :: zs).getD (s + 1) 0 = z := by simpa [List.getD] using h2
      rw [this, List.take_succ_cons, List.count_cons, h3]
      simp [c]
/-- Two symbols of one length have two ranks. -/
theorem rk_inj {zs : List Int} {s t : Nat} (hs : s < zs.length) (ht : t < zs.length) (he : zs.getD s 0 = zs.getD t 0) (hr : rk zs s = rk zs t) : s = t := by
  have key : ∀ a b, a < b → b < zs.length → zs.getD a 0 = zs.getD b 0 → rk zs a < rk zs b := by
    intro a b hab hb e
    unfold rk
    have h1 : (zs.take b).take a = zs.take a := by rw [List.take_take, Nat.min_eq_left (by omega)]
    have h2 := rk_lt (zs := zs.take b) (s := a) (by simp; omega)
    unfold rk at h2
    have h3 : (zs.take b).getD a 0 = zs.getD a 0 := by simp [List.getD, hab]
    rw [h1, h3, e] at h2
    rw [e]
    exact h2
  rcases Nat.lt_trichotomy s t with h | h | h
  · have := key s t h ht he; omega
  · exact h
  · have := key t s h hs he.symm; omega
/-- Where a code begins in the space, and where it ends. -/
theorem lo_eq {zs : List Int} (h : LOk zs) {s : Nat} (h0 : zs.getD s 0 ≠ 0) : cd zs s * 2 ^ (15 - ln zs s) = cP zs (ln zs s) + rk zs s * 2 ^ (15 - ln zs s) := by
  unfold cd
  rw [if_neg h0, Nat.add_mul, cF_cP zs _ (h.ln s).2]
theorem hi_le {zs : List Int} (h : LOk zs) {s : Nat} (hs : s < zs.length) (h0 : zs.getD s 0 ≠ 0) : (cd zs s + 1) * 2 ^ (15 - ln zs s) ≤ cP zs (ln zs s + 1) := by
  rw [Nat.add_mul, lo_eq h h0, cP_succ]
  have := Nat.mul_le_mul_right (2 ^ (15 - ln zs s)) (show rk zs s + 1 ≤ cC zs (ln zs s) from rk_lt_c h hs h0)
  rw [Nat.add_mul] at this
  omega
theorem hi_spc {zs : List Int} (h : LOk zs) {s : Nat} (hs : s < zs.length) (h0 : zs.getD s 0 ≠ 0) : (cd zs s + 1) * 2 ^ (15 - ln zs s) ≤ spc zs :=
  Nat.le_trans (hi_le h hs h0) (cP_mono zs (by have := (h.ln s).2; omega))
theorem ln_pos {zs : List Int} (h : LOk zs) {s : Nat} (h0 : zs.getD s 0 ≠ 0) : 0 < ln zs s := by have := h.ln s; omega
/-- A code has as many bits as its length says. -/
theorem cd_lt {zs : List Int} (h : LOk zs) (hp : spc zs ≤ 32768) {s : Nat} (hs : s < zs.length) : cd zs s < 2 ^ ln zs s := by
  by_cases h0 : zs.getD s 0 = 0
  · unfold cd; rw [if_pos h0]; exact Nat.two_pow_pos _
  · have h1 := hi_spc h hs h0
    have h2 : (2 : Nat) ^ ln zs s * 2 ^ (15 - ln zs s) = 32768 := by
      rw [← Nat.pow_add, show ln zs s + (15 - ln zs s) = 15 by have := (h.ln s).2; omega]
    rw [← h2] at hp
    have := Nat.le_of_mul_le_mul_right (Nat.le_trans h1 hp) (Nat.two_pow_pos _)
    omega
/-- No code begins another one. -/
theorem cd_apart {zs : List Int} (h : LOk zs) {s t : Nat} (hs : s < zs.length) (ht : t < zs.length) (h0 : zs.getD s 0 ≠ 0) (hle : ln zs s ≤ ln zs t) (hb : cd zs t / 2 ^ (ln zs t - ln zs s) = cd zs s) : s = t := by
  have t0 : zs.getD t 0 ≠ 0 := by have := ln_pos h h0; have := h.ln t; omega
  by_cases c : ln zs s = ln zs t
  · have e : zs.getD s 0 = zs.getD t 0 := by rw [(h.ln s).1, (h.ln t).1, c]
    rw [c, Nat.sub_self, Nat.pow_zero, Nat.div_one] at hb
    unfold cd at hb
    rw [if_neg h0, if_neg t0, c] at hb
    exact rk_inj hs ht e (by omega)
  · exfalso
    have h1 := hi_le h hs h0
    have h2 := cP_mono zs (a := ln zs s + 1) (b := ln zs t) (by omega)
    have h3 := lo_eq h t0
    have h4 : cd zs t < (cd zs s + 1) * 2 ^ (ln zs t - ln zs s) := by
      rw [← hb, Nat.mul_comm]
      exact Nat.lt_mul_div_succ _ (Nat.two_pow_pos _)
    have h5 : (cd zs s + 1) * 2 ^ (15 - ln zs s) = (cd zs s + 1) * 2 ^ (ln zs t - ln zs s) * 2 ^ (15 - ln zs t) := by
      rw [Nat.mul_assoc, ← Nat.pow_add, show ln zs t - ln zs s + (15 - ln zs t) = 15 - ln zs s by have := (h.ln t).2; omega]
    have h6 := Nat.mul_lt_mul_of_pos_right h4 (Nat.two_pow_pos (15 - ln zs t))
    omega
/-- Every place of the space that is taken lies in a code. -/
theorem cover {zs : List Int} (h : LOk zs) {p : Nat} (hp : p < spc zs) : ∃ s, s < zs.length ∧ zs.getD s 0 ≠ 0 ∧ cd zs s * 2 ^ (15 - ln zs s) ≤ p ∧ p < (cd zs s + 1) * 2 ^ (15 - ln zs s) := by
  have key : ∀ l, l ≤ 16 → p < cP zs l → ∃ j, j < l ∧ cP zs j ≤ p ∧ p < cP zs (j + 1) := by
    intro l
    induction l with
    | zero => intro _ h; simp [cP] at h
    | succ l ih =>
      intro hl hc
      by_cases c : p < cP zs l
      · obtain ⟨j, h1, h2, h3⟩ := ih (by omega) c
        exact ⟨j, by omega, h2, h3⟩
      · exact ⟨l, by omega, by omega, hc⟩
  obtain ⟨l, hl, h1, h2⟩ := key 16 (Nat.le_refl _) hp
  have hq : (p - cP zs l) / 2 ^ (15 - l) < cC zs l := by
    rw [Nat.div_lt_iff_lt_mul (Nat.two_pow_pos _)]
    rw [cP_succ] at h2
    omega
  have l0 : 0 < l := by
    rcases Nat.eq_zero_or_pos l with rfl | h
    · rw [cC_zero] at hq; omega
    · exact h
  rw [cC_pos zs l0] at hq
  obtain ⟨s, hs, e, er⟩ := rk_has zs (l : Int) _ hq
  have hln : ln zs s = l := by unfold ln; rw [e]; simp
  have s0 : zs.getD s 0 ≠ 0 := by rw [e]; omega
  refine ⟨s, hs, s0, ?_, ?_⟩
  · rw [lo_eq h s0, hln, er]
    have := Nat.div_mul_le_self (p - cP zs l) (2 ^ (15 - l))
    omega
  · rw [Nat.add_mul, lo_eq h s0, hln, er]
    have := Nat.lt_div_mul_add (a := p - cP zs l) (Nat.two_pow_pos (15 - l))
    omega
end Go.Proofs.YtcifalelnfeggaaGreatDoor

namespace Go.Proofs.YtcifalelnfeggaaGreatDoor
open Go.RowKit
set_option linter.unusedVariables false

/-- A count that may be. -/
def okF (z : Int) : Bool := decide (0 ≤ z ∧ z ≤ 1099511627776)
/-- The error that counts have. -/
def errOf (zs : List Int) : Int := if 288 < zs.length then 40 else if zs.all okF then 0 else 42
theorem errOf_many {zs : List Int} (h : 288 < zs.length) : errOf zs = 40 := by simp [errOf, h]
theorem errOf_bad {zs : List Int} (h : ¬ 288 < zs.length) {k : Nat} (hk : k < zs.length) (hb : ¬ (0 ≤ zs.getD k 0 ∧ zs.getD k 0 ≤ 1099511627776)) : errOf zs = 42 := by
  have : zs.all okF = false := by
    rw [List.all_eq_false]
    refine ⟨zs.getD k 0, ?_, by simp only [okF, hb]; decide⟩
    simp [List.getD, hk]
  simp [errOf, h, this]
theorem all_snoc {zs : List Int} {k : Nat} (hk : k < zs.length) (h : (zs.take k).all okF = true) (hb : 0 ≤ zs.getD k 0 ∧ zs.getD k 0 ≤ 1099511627776) : (zs.take (k + 1)).all okF = true := by
  rw [take_snocZ hk, List.all_append, h]
  simp only [List.all_cons, List.all_nil, okF, hb]
  simp
theorem errOf_ok {zs : List Int} (h : ¬ 288 < zs.length) (ha : (zs.take zs.length).all okF = true) : errOf zs = 0 := by
  rw [List.take_of_length_le (Nat.le_refl _)] at ha
  simp [errOf, h, ha]
theorem errOf_zero {zs : List Int} (h : errOf zs = 0) : zs.length ≤ 288 ∧ ∀ i, 0 ≤ zs.getD i 0 ∧ zs.getD i 0 ≤ 1099511627776 := by
  unfold errOf at h
  split at h
  · omega
  · rename_i h1
    split at h
    · rename_i h2
      refine ⟨by omega, fun i => ?_⟩
      by_cases hi : i < zs.length
      · have := List.all_eq_true.1 h2 zs[i] (List.getElem_mem hi)
        simpa [okF, List.getD, hi] using this
      · simp [List.getD, List.getElem?_eq_none (Nat.le_of_not_lt hi)]
    · omega
theorem errOf_range (zs : List Int) : errOf zs = 0 ∨ errOf zs = 40 ∨ errOf zs = 42 := by
  unfold errOf
  split
  · exact .inr (.inl rfl)
  · split
    · exact .inl rfl
    · exact .inr (.inr rfl)

set_option maxRecDepth 100000 in
theorem refusal_any (a : Option Addr) (zs : List Int) (cap : Nat) (w : World) (hs : SegZ w a zs) (hl : zs.length ≤ 9223372036854775807) :
    Calls Tryz.prog 92 #[.slice a zs.length cap] w fun e w' => e = .returned (.int .i64 (errOf zs)) ∧ w' = w := by
  by_cases hm : 288 < zs.length
  · have hmi : (288 : Int) < (zs.length : Int) := by omega
    have HE : Hid (errOf zs = 40) := errOf_many hm
    go_enter Tryz.func92, Tryz.ntmps92
    go_wp2
    go_ret
    exact ⟨by rw [HE.out] <;> rfl, rfl⟩
  · have hmi : ¬ (288 : Int) < (zs.length : Int) := by omega
    go_enter Tryz.func92, Tryz.ntmps92
    go_wp2
    go_loopw [10] (fun ti wr => ∃ k : Nat, k ≤ zs.length ∧ ti = .int .i64 k ∧ Hid ((zs.take k).all okF = true) ∧ wr = w) (fun ti _ => zs.length - (intOf ti).toNat)
    case atStart => exact ⟨0, Nat.zero_le _, rfl, (by simp : _ = _), rfl⟩
    case round =>
      obtain ⟨k, hk, rfl, HA, rfl⟩ := hrel
      by_cases h1 : k < zs.length
      · have h1i : (k : Int) < (zs.length : Int) := by omega
        obtain ⟨b1, o1, rfl, c1⟩ := hs.at_ k h1
        have b1 := hs.bd k
        have HB : Hid (¬ (0 ≤ zs.getD k 0 ∧ zs.getD k 0 ≤ 1099511627776) → errOf zs = 42) := errOf_bad hm h1
        have HC : Hid ((0 ≤ zs.getD k 0 ∧ zs.getD k 0 ≤ 1099511627776) → (zs.take (k + 1)).all okF = true) := all_snoc h1 HA.out
        generalize zs.getD k 0 = z at *
        by_cases h0 : z < 0
        · go_wp2
          go_ret
          exact ⟨by rw [HB.out (by omega)] <;> rfl, rfl⟩
        · by_cases h4 : 1099511627776 < z
          · go_wp2
            go_ret
            exact ⟨by rw [HB.out (by omega)] <;> rfl, rfl⟩
          · go_wp2
            go_roundw
            case rel => exact ⟨k + 1, by omega, by go_num, HC.out (by omega), trivial⟩
            case measure => simp [intOf]; omega
      · obtain rfl : k = zs.length := by omega
        have HE : Hid (errOf zs = 0) := errOf_ok hm HA.out
        clear h1
        go_wp2
        go_ret
        exact ⟨by rw [HE.out] <;> rfl, rfl⟩
end Go.Proofs.YtcifalelnfeggaaGreatDoor

namespace Go.Proofs.YtcifalelnfeggaaGreatDoor
open Go.RowKit
set_option linter.unusedVariables false

/-- An array of numbers. -/
def arr (A : List Int) : Array Value := (A.map (Value.int .i64)).toArray
theorem arr_size (A : List Int) : (arr A).size = A.length := by simp [arr]
theorem arr_cell {w : World} {b : Nat} {A : List Int} {t : TypeId} (h : w.heap[b]? = some (.cells (arr A) t (0, 0))) {i : Nat} (hi : i < A.length) : w.cell? ⟨b, i, none⟩ = some (.int .i64 (A.getD i 0)) := by
  rw [cell_of_row w b i (arr A) t (0, 0) h]
  simp [arr, List.getD, hi]
theorem arr_free {w : World} {b : Nat} {A : List Int} {t : TypeId} (h : w.heap[b]? = some (.cells (arr A) t (0, 0))) (i : Nat) : w.frozen? ⟨b, i, none⟩ = false := frozen_of_row w b i (arr A) t h
theorem arr_set {w : World} {b : Nat} {A : List Int} {t : TypeId} (h : w.heap[b]? = some (.cells (arr A) t (0, 0))) (i : Nat) (v : Int) : (w.setCell ⟨b, i, none⟩ (.int .i64 v)).heap[b]? = some (.cells (arr (A.set i v)) t (0, 0)) := by
  rw [heap_setCell_same w b i (arr A) t _ h]
  congr 2
  simp [arr, List.map_set]
theorem arr_one (A : List Int) : (arr A).all (·.oneCell') = true := by
  simp [arr, Value.oneCell']
theorem arr_info {A : List Int} (h : A.length = 16) : (Tryz.prog.info? 219).map (·.size) = some (arr A).size := by
  rw [arr_size, h]
  kernel_rfl
theorem grown_setRow (w : World) (g : Nat) (cs : Array Value) : w.grownBy (w.setRow g cs) (some g) := ⟨rfl, rfl, rfl, by simp [World.setRow], fun k _ hk => setRow_other w g k cs (fun e => hk (by rw [e]))⟩
theorem grown_drew {w w' : World} {r : Option Nat} (h : w.grownBy w' r) : w.grownBy w'.drew r := ⟨h.os, h.tape, h.output, h.size, h.block⟩
theorem grown_drewN {w w' : World} {r : Option Nat} (h : w.grownBy w' r) (n : Nat) : w.grownBy (w'.drewN n) r := ⟨h.os, h.tape, h.output, h.size, h.block⟩
theorem set_grown (w : World) (g i : Nat) (v : Value) : w.grownBy (w.setCell ⟨g, i, none⟩ v) (some g) := ⟨rfl, rfl, rfl, by simp, fun k _ hk => heap_setCell_other w ⟨g, i, none⟩ k v (fun e => hk (by simp [e]))⟩
theorem results_ct {P : Program} {fn : Func} {p u : Tmp} {ty : TypeId} (h : fn.results = #[.cell p ty, .tmp u]) (tmps : Array Value) (w : World) (g : Nat) (t : TypeId) (cs : Array Value) (fr : Nat × Nat) (d : TypeDesc)
    (hp : tmps.getD p undef = .pointer (some ⟨g, 0, none⟩)) (hg : w.heap[g]? = some (.cells cs t fr))
    (hu : P.underlying ty = some d) (hd : (match d with | .struct _ | .array _ _ => true | _ => false) = true) (hi : (P.info? ty).map (·.size) = some cs.size) :
    (results fn tmps).run P w = .ok (.tuple #[.agg cs, tmps.getD u undef]) w := by
  rw [results_cell_tmp h, hp]
  simp [asAddr, Result.andThen, run_loadVar_row w g t ty cs fr d hg hu hd hi]
def zero16 : Array Value := #[.int .i64 0, .int .i64 0, .int .i64 0, .int .i64 0, .int .i64 0, .int .i64 0, .int .i64 0, .int .i64 0, .int .i64 0, .int .i64 0, .int .i64 0, .int .i64 0, .int .i64 0, .int .i64 0, .int .i64 0, .int .i64 0]
theorem zero16_arr : zero16 = arr (List.replicate 16 0) := rfl
theorem zero16_one : zero16.all (·.oneCell') = true := by rw [zero16_arr]; exact arr_one _
theorem arr_range {w : World} {b : Nat} {A : List Int} {t : TypeId} (h : w.heap[b]? = some (.cells (arr A) t (0, 0))) : w.rangeAt b 0 (A.map (Value.int .i64)) := by
  intro j v hv
  rw [Nat.zero_add, cell_of_row w b j (arr A) t (0, 0) h]
  simpa [arr] using hv
theorem range_old {w w' : World} {b o : Nat} {cs : List Value} (h : w.rangeAt b o cs) (hb : Below w.heap.size w w') (hl : b < w.heap.size) : w'.rangeAt b o cs := fun j v hv => (hb.cell (p := ⟨b, o + j, none⟩) hl).trans (h j v hv)
/-- How many codes of each length there are, as the program has it. -/
def cnts (zs : List Int) : List Int := (List.range 16).map fun l => (cC zs l : Int)
theorem cnts_len (zs : List Int) : (cnts zs).length = 16 := by simp [cnts]
theorem cnts_get (zs : List Int) {l : Nat} (h : l < 16) : (cnts zs).getD l 0 = (cC zs l : Int) := by simp [cnts, List.getD, h]
def fsts (zs : List Int) : List Int := (List.range 16).map fun l => (cF zs l : Int)
theorem fsts_len (zs : List Int) : (fsts zs).length = 16 := by simp [fsts]
theorem fsts_get (zs : List Int) {l : Nat} (h : l < 16) : (fsts zs).getD l 0 = (cF zs l : Int) := by simp [fsts, List.getD, h]
theorem cS_le (zs : List Int) {m : Nat} (h : ∀ l, cC zs l ≤ m) : ∀ l, cS zs l ≤ l * m
  | 0 => Nat.zero_le _
  | l + 1 => by
    rw [cS_succ, Nat.succ_mul]
    exact Nat.add_le_add (cS_le zs h l) (h l)

set_option maxRecDepth 100000 in
set_option maxHeartbeats 400000 in
theorem total_any (zs : List Int) (hb : ∀ l, cC zs l ≤ 288) (w : World) :
    Calls Tryz.prog 169 #[.agg (arr (cnts zs))] w fun e w' => e = .returned (.int .i64 (tot zs : Int)) ∧ Below w.heap.size w w' := by
  go_enter Tryz.func169, Tryz.ntmps169
  go_wp2_with fail
  have h0 : (w.alloc (.cells (arr (cnts zs)) 219)).heap[w.heap.size]? = some (.cells (arr (cnts zs)) 219 (0, 0)) := heap_alloc_new w _
  have B0 : Below w.heap.size w (w.alloc (.cells (arr (cnts zs)) 219)) := (Below.refl _ _).alloc (Nat.le_refl _) _
  generalize w.alloc (.cells (arr (cnts zs)) 219) = W at *
  go_loopw [3, 5] (fun ts tj wr => ∃ j : Nat, j ≤ 16 ∧ tj = .int .i64 (j : Int) ∧ ts = .int .i64 (cS zs j : Int) ∧ wr = W) (fun _ tj _ => 16 - (intOf tj).toNat)
  case atStart => exact ⟨0, by omega, rfl, rfl, rfl⟩
  case round =>
    obtain ⟨j, hj, rfl, rfl, hwr⟩ := hrel
    subst hwr
    by_cases hj6 : j < 16
    · have hji : (j : Int) < 16 := by omega
      have c0 := arr_cell h0 (i := j) (by rw [cnts_len]; exact hj6)
      rw [cnts_get zs hj6] at c0
      have hs := cS_le zs hb j
      have hc := hb j
      have hs2 : j * 288 ≤ 16 * 288 := Nat.mul_le_mul_right _ hj
      have HS : Hid (cS zs (j + 1) = cS zs j + cC zs j) := cS_succ zs j
      generalize cS zs j = s at *
      generalize cC zs j = c at *
      obtain ⟨t, ht⟩ : ∃ t, t = s + c := ⟨_, rfl⟩
      have r1 : (s : Int) + (c : Int) = (t : Int) := by omega
      have HT : Hid (t = s + c) := ht
      have htb : t ≤ 100000 := by omega
      clear ht hs hc hs2
      go_wp2
      go_roundw
      case rel => exact ⟨j + 1, by omega, by go_num, by rw [HS.out, HT.out], trivial⟩
      case measure => simp [intOf]; omega
    · obtain rfl : j = 16 := by omega
      go_wp2
      go_ret
      exact ⟨rfl, B0⟩

set_option maxRecDepth 100000 in
set_option maxHeartbeats 400000 in
theorem pspace_any (zs : List Int) (hb : ∀ l, cC zs l ≤ 288) (w : World) :
    Calls Tryz.prog 172 #[.agg (arr (cnts zs))] w fun e w' => e = .returned (.int .i64 (spc zs : Int)) ∧ Below w.heap.size w w' := by
  go_enter Tryz.func172, Tryz.ntmps172
  go_wp2_with fail
  have h0 : (w.alloc (.cells (arr (cnts zs)) 219)).heap[w.heap.size]? = some (.cells (arr (cnts zs)) 219 (0, 0)) := heap_alloc_new w _
  have B0 : Below w.heap.size w (w.alloc (.cells (arr (cnts zs)) 219)) := (Below.refl _ _).alloc (Nat.le_refl _) _
  generalize w.alloc (.cells (arr (cnts zs)) 219) = W at *
  go_loopw [3, 5] (fun ts tj wr => ∃ j : Nat, j ≤ 16 ∧ tj = .int .i64 (j : Int) ∧ ts = .int .i64 (cP zs j : Int) ∧ wr = W) (fun _ tj _ => 16 - (intOf tj).toNat)
  case atStart => exact ⟨0, by omega, rfl, rfl, rfl⟩
  case round =>
    obtain ⟨j, hj, rfl, rfl, hwr⟩ := hrel
    subst hwr
    by_cases hj6 : j < 16
    · have hji : (j : Int) < 16 := by omega
      have c0 := arr_cell h0 (i := j) (by rw [cnts_len]; exact hj6)
      rw [cnts_get zs hj6] at c0
      have hs := cP_le zs j
      have hs1 := cS_le zs hb j
      have hc := hb j
      have hs2 : j * 288 ≤ 16 * 288 := Nat.mul_le_mul_right _ hj
      have HS : Hid (cP zs (j + 1) = cP zs j + cC zs j * 2 ^ (15 - j)) := cP_succ zs j
      have hpb : 2 ^ (15 - j) ≤ 2 ^ 15 := Nat.pow_le_pow_right (by decide) (by omega)
      have hcp : cC zs j * 2 ^ (15 - j) ≤ 288 * 2 ^ 15 := Nat.mul_le_mul hc hpb
      obtain ⟨q, hq⟩ : ∃ q, q = 15 - j := ⟨_, rfl⟩
      have rq : 15 - (j : Int) = (q : Int) := by omega
      rw [← hq] at HS hcp
      obtain ⟨x, hx⟩ : ∃ x, x = cC zs j * 2 ^ q := ⟨_, rfl⟩
      have hxb : x ≤ 10000000 := by rw [hx]; exact Nat.le_trans hcp (by decide)
      have hw : RowKit.wrap64 ((cC zs j : Int) * 2 ^ q) = (x : Int) := by
        rw [hx, show ((cC zs j : Int) * 2 ^ q) = ((cC zs j * 2 ^ q : Nat) : Int) by simp, ← IntWalk.i64_left]
        exact IntWalk.i64_in _ (by omega)
      rw [← hx] at HS
      have hq15 : q ≤ 15 := by omega
      generalize cP zs j = s at *
      generalize cC zs j = c at *
      obtain ⟨t, ht⟩ : ∃ t, t = s + x := ⟨_, rfl⟩
      have r1 : (s : Int) + (x : Int) = (t : Int) := by omega
      have HT : Hid (t = s + x) := ht
      have htb : t ≤ 1000000000 := by omega
      clear ht hs hc hs2 hx hcp hpb hs1 hq
      go_wp2
      go_roundw
      case rel => exact ⟨j + 1, by omega, by go_num, by rw [HS.out, HT.out], trivial⟩
      case measure => simp [intOf]; omega
    · obtain rfl : j = 16 := by omega
      go_wp2
      go_ret
      exact ⟨rfl, B0⟩
end Go.Proofs.YtcifalelnfeggaaGreatDoor

namespace Go.Proofs.YtcifalelnfeggaaGreatDoor
open Go.RowKit
set_option linter.unusedVariables false

/-! The landed block: the tables of spans. -/
def lnS9 : List Int := [3, 0, 4, 0, 5, 0, 6, 0, 7, 0, 8, 0, 9, 0, 10, 0, 11, 1, 13, 1, 15, 1, 17, 1, 19, 2, 23, 2, 27, 2, 31, 2, 35, 3, 43, 3, 51, 3, 59, 3, 67, 4, 83, 4, 99, 4, 115, 4, 131, 5, 163, 5, 195, 5, 227, 5, 258, 0]
def dsS9 : List Int := [1, 0, 2, 0, 3, 0, 4, 0, 5, 1, 7, 1, 9, 2, 13, 2, 17, 3, 25, 3, 33, 4, 49, 4, 65, 5, 97, 5, 129, 6, 193, 6, 257, 7, 385, 7, 513, 8, 769, 8, 1025, 9, 1537, 9, 2049, 10, 3073, 10, 4097, 11, 6145, 11, 8193, 12, 12289, 12, 16385, 13, 24577, 13]
theorem info_plnsp99 : (Tryz.prog.info? 89).map (·.size) = some (arr lnS9).size := by kernel_rfl
set_option maxRecDepth 100000 in
set_option maxHeartbeats 4000000 in
theorem plnsp9 (w : World) :
    Calls Tryz.prog 42 #[] w fun e w' => e = .returned (.agg (arr lnS9)) ∧ Below w.heap.size w w' := by
  go_enter Tryz.func42, Tryz.ntmps42
  go_wp2_with (first
    | (refine wpList_store_row rfl 89 (.tmp 0) (.tmp 30) rfl w.heap.size (arr lnS9) rfl (by kernel_rfl) _ _ (heap_alloc_new w _) (by kernel_rfl) (by kernel_rfl) (arr_one _) ?_)
    | (refine wpList_build rfl 89 _ rfl (by kernel_rfl) ?_))
  refine bodyPost_ret (v := .agg (arr lnS9)) (results_cell_row rfl _ _ w.heap.size _ _ _ _ rfl (setRow_heap _ _ _ _ _ _ (heap_alloc_new w _)) Tryz.underlying89 rfl info_plnsp99) rfl ⟨rfl, ?_⟩
  exact ((Below.refl w.heap.size w).alloc (Nat.le_refl _) _).grown (grown_setRow _ _ _) (by simp) (fun j e => by cases e; exact Nat.le_refl _)
theorem info_pdssp99 : (Tryz.prog.info? 94).map (·.size) = some (arr dsS9).size := by kernel_rfl
set_option maxRecDepth 100000 in
set_option maxHeartbeats 4000000 in
theorem pdssp9 (w : World) :
    Calls Tryz.prog 45 #[] w fun e w' => e = .returned (.agg (arr dsS9)) ∧ Below w.heap.size w w' := by
  go_enter Tryz.func45, Tryz.ntmps45
  go_wp2_with (first
    | (refine wpList_store_row rfl 94 (.tmp 0) (.tmp 31) rfl w.heap.size (arr dsS9) rfl (by kernel_rfl) _ _ (heap_alloc_new w _) (by kernel_rfl) (by kernel_rfl) (arr_one _) ?_)
    | (refine wpList_build rfl 94 _ rfl (by kernel_rfl) ?_))
  refine bodyPost_ret (v := .agg (arr dsS9)) (results_cell_row rfl _ _ w.heap.size _ _ _ _ rfl (setRow_heap _ _ _ _ _ _ (heap_alloc_new w _)) Tryz.underlying94 rfl info_pdssp99) rfl ⟨rfl, ?_⟩
  exact ((Below.refl w.heap.size w).alloc (Nat.le_refl _) _).grown (grown_setRow _ _ _) (by simp) (fun j e => by cases e; exact Nat.le_refl _)
end Go.Proofs.YtcifalelnfeggaaGreatDoor

namespace Go.Proofs.YtcifalelnfeggaaGreatDoor
open Go.RowKit
set_option linter.unusedVariables false

def fstk (zs : List Int) (j : Nat) : List Int := (List.range 16).map fun l => if l ≤ j then (cF zs l : Int) else 0
theorem fstk_len (zs : List Int) (j : Nat) : (fstk zs j).length = 16 := by simp [fstk]
theorem fstk_get (zs : List Int) {j l : Nat} (h : l < 16) : (fstk zs j).getD l 0 = if l ≤ j then (cF zs l : Int) else 0 := by simp [fstk, List.getD, h]
theorem fstk_set (zs : List Int) {j : Nat} (h : j + 1 < 16) : (fstk zs j).set (j + 1) (cF zs (j + 1) : Int) = fstk zs (j + 1) := by
  apply List.ext_getElem (by simp [fstk])
  intro i h1 h2
  simp only [List.getElem_set, fstk, List.getElem_map, List.getElem_range]
  by_cases e : j + 1 = i
  · subst e; simp
  · rw [if_neg e]
    by_cases c : i ≤ j
    · rw [if_pos c, if_pos (by omega)]
    · rw [if_neg c, if_neg (by omega)]
theorem fstk_zero (zs : List Int) : fstk zs 0 = List.replicate 16 0 := by
  simp [fstk, List.range, List.range.loop, cF]
theorem fstk_all (zs : List Int) : fstk zs 15 = fsts zs := by
  simp only [fstk, fsts]
  apply List.map_congr_left
  intro l hl
  rw [List.mem_range] at hl
  rw [if_pos (by omega)]

set_option maxRecDepth 100000 in
set_option maxHeartbeats 4000000 in
theorem firsts_any (zs : List Int) (hb : ∀ l, cC zs l ≤ 288) (HFB : Hid (∀ l, l ≤ 15 → cF zs l ≤ 100000000)) (w : World) :
    Calls Tryz.prog 159 #[.agg (arr (cnts zs))] w fun e w' => e = .returned (.agg (arr (fsts zs))) ∧ Below w.heap.size w w' := by
  go_enter Tryz.func159, Tryz.ntmps159
  go_wp2_with fail
  have e0 : (#[.int .i64 0, .int .i64 0, .int .i64 0, .int .i64 0, .int .i64 0, .int .i64 0, .int .i64 0, .int .i64 0, .int .i64 0, .int .i64 0, .int .i64 0, .int .i64 0, .int .i64 0, .int .i64 0, .int .i64 0, .int .i64 0] : Array Value) = arr (fstk zs 0) := by rw [fstk_zero]; rfl
  rw [e0]
  have h0 : (w.alloc (.cells (arr (cnts zs)) 219)).heap[w.heap.size]? = some (.cells (arr (cnts zs)) 219 (0, 0)) := heap_alloc_new w _
  have B0 : Below w.heap.size w (w.alloc (.cells (arr (cnts zs)) 219)) := (Below.refl _ _).alloc (Nat.le_refl _) _
  have z0 : (w.alloc (.cells (arr (cnts zs)) 219)).heap.size = w.heap.size + 1 := by simp
  generalize w.alloc (.cells (arr (cnts zs)) 219) = W0 at *
  have h1 : (W0.alloc (.cells (arr (fstk zs 0)) 219)).heap[W0.heap.size]? = some (.cells (arr (fstk zs 0)) 219 (0, 0)) := heap_alloc_new _ _
  have B1 : Below W0.heap.size W0 (W0.alloc (.cells (arr (fstk zs 0)) 219)) := (Below.refl _ _).alloc (Nat.le_refl _) _
  have z1 : (W0.alloc (.cells (arr (fstk zs 0)) 219)).heap.size = W0.heap.size + 1 := by simp
  generalize W0.alloc (.cells (arr (fstk zs 0)) 219) = W1 at *
  have h2 : (W1.alloc (.cells (arr (fstk zs 0)) 219)).heap[W1.heap.size]? = some (.cells (arr (fstk zs 0)) 219 (0, 0)) := heap_alloc_new _ _
  have B2 : Below W1.heap.size W1 (W1.alloc (.cells (arr (fstk zs 0)) 219)) := (Below.refl _ _).alloc (Nat.le_refl _) _
  have z2 : (W1.alloc (.cells (arr (fstk zs 0)) 219)).heap.size = W1.heap.size + 1 := by simp
  generalize W1.alloc (.cells (arr (fstk zs 0)) 219) = W2 at *
  rw [← z0, ← z1]
  have ha := (B2.block w.heap.size (by omega)).trans ((B1.block w.heap.size (by omega)).trans h0)
  have hr := (B2.block W0.heap.size (by omega)).trans h1
  have BB : Below w.heap.size w W2 := B0.trans ((B1.mono (by omega)).trans (B2.mono (by omega)))
  obtain ⟨a, ea⟩ : ∃ a, a = w.heap.size := ⟨_, rfl⟩
  obtain ⟨r, er⟩ : ∃ r, r = W0.heap.size := ⟨_, rfl⟩
  obtain ⟨o, eo⟩ : ∃ o, o = W1.heap.size := ⟨_, rfl⟩
  have HN : Hid (a < r ∧ r < o ∧ w.heap.size = a) := ⟨by omega, by omega, ea.symm⟩
  rw [← ea, ← er, ← eo]
  rw [← ea] at ha
  rw [← er] at hr
  rw [← eo] at h2
  clear h0 h1 B0 B1 B2 z0 z1 z2 ea er eo
  go_loopw [5] (fun tj wr => ∃ j : Nat, j ≤ 15 ∧ tj = .int .i64 (j : Int) ∧ wr.heap[o]? = some (.cells (arr (fstk zs j)) 219 (0, 0)) ∧ W2.grownBy wr (some o)) (fun tj _ => 15 - (intOf tj).toNat)
  case atStart => exact ⟨0, by omega, rfl, h2, World.grownBy.refl _ _⟩
  case round =>
    obtain ⟨j, hj, rfl, ho, hg⟩ := hrel
    have ha2 := (hg.block a (by have := BB.size; have := HN.out; have := (Array.getElem?_eq_some_iff.1 ha).1; omega) (by have := HN.out; simp; omega)).trans ha
    have hr2 := (hg.block r (Array.getElem?_eq_some_iff.1 hr).1 (by have := HN.out; simp; omega)).trans hr
    by_cases hj6 : j < 15
    · have hji : (j : Int) < 15 := by omega
      have c0 := arr_cell ha2 (i := j) (by rw [cnts_len]; omega)
      rw [cnts_get zs (by omega)] at c0
      have d0 := arr_cell ho (i := j) (by rw [fstk_len]; omega)
      rw [fstk_get zs (by omega), if_pos (Nat.le_refl _)] at d0
      have d1 := arr_cell ho (i := j + 1) (by rw [fstk_len]; omega)
      have f1 := arr_free ho (j + 1)
      have HSET : Hid _ := arr_set ho (j + 1) (cF zs (j + 1) : Int)
      have HF : Hid (cF zs (j + 1) = 2 * (cF zs j + cC zs j)) := cF_succ zs j
      have hfb : cF zs j ≤ 100000000 := HFB.out j (by omega)
      have hcb := hb j
      generalize (fstk zs j).getD (j + 1) 0 = old at *
      generalize cC zs j = c at *
      have HX : Hid (∃ x, x = cF zs (j + 1)) := ⟨_, rfl⟩
      obtain ⟨x, hx⟩ := HX.out
      rw [← hx] at HSET HF
      have HXX : Hid (x = cF zs (j + 1)) := hx
      clear hx HX
      generalize cF zs j = f at *
      obtain ⟨t, ht⟩ : ∃ t, t = f + c := ⟨_, rfl⟩
      have r1 : (f : Int) + (c : Int) = (t : Int) := by omega
      have hx : IntKind.i64.wrap ((t : Int) * 2) = (x : Int) := by
        have := HF.out
        rw [show ((t : Int) * 2) = (x : Int) by omega]
        exact IntWalk.i64_in _ (by omega)
      have ht64 : IntKind.i64.wrap (t : Int) = (t : Int) := IntWalk.i64_in _ (by omega)
      have htb : t ≤ 1000000000 := by omega
      have hji1 : (j : Int) + 1 < 16 := by omega
      have hj16 : (j : Int) < 16 := by omega
      have hz1 : (0 : Int) ≤ (j : Int) + 1 := by omega
      have hwj : IntKind.i64.wrap ((j : Int) + 1) = (j : Int) + 1 := IntWalk.i64_in _ (by omega)
      have HK : Hid (∀ (W : World) (v : Value), (W.cell? ⟨a, j, none⟩ = some (.int .i64 (c : Int)) ∧ W.cell? ⟨o, j, none⟩ = some (.int .i64 (f : Int))) → ((W.setCell ⟨o, j + 1, none⟩ v).cell? ⟨a, j, none⟩ = some (.int .i64 (c : Int)) ∧ (W.setCell ⟨o, j + 1, none⟩ v).cell? ⟨o, j, none⟩ = some (.int .i64 (f : Int)))) := fun W v h => by
        have hn := HN.out
        exact ⟨(World.cell?_setCell_other _ _ _ _ (by intro e; simp only [Addr.mk.injEq] at e; omega)).trans h.1, (World.cell?_setCell_other _ _ _ _ (by intro e; simp only [Addr.mk.injEq] at e; omega)).trans h.2⟩
      have HK2 := fun v => HK.out wr v ⟨c0, d0⟩
      have k1 : ∀ v, (wr.setCell ⟨o, j + 1, none⟩ v).drew.cell? ⟨a, j, none⟩ = some (.int .i64 (c : Int)) := fun v => (HK2 v).1
      have k2 : ∀ v, (wr.setCell ⟨o, j + 1, none⟩ v).drew.cell? ⟨o, j, none⟩ = some (.int .i64 (f : Int)) := fun v => (HK2 v).2
      clear ht HK2
      go_wp2_with fail
      go_region_held3 (fun w' => w'.cell? ⟨a, j, none⟩ = some (.int .i64 (c : Int)) ∧ w'.cell? ⟨o, j, none⟩ = some (.int .i64 (f : Int))) (first | go_keep | (exact ⟨k1 _, k2 _⟩) | (exact k1 _) | (exact k2 _)) (fail)
      all_goals
        go_wp2
        go_roundw
        case rel =>
          refine ⟨j + 1, by omega, by go_num, ?_, ?_⟩
          · rw [← fstk_set zs (by omega), ← HXX.out]
            exact HSET.out
          · exact grown_drew (grownBy_trans hg (set_grown _ _ _ _))
        case measure => simp [intOf]; omega
    · obtain rfl : j = 15 := by omega
      rw [fstk_all] at ho
      go_wp2_with (first
        | (refine wpList_load_row rfl 219 (.tmp 3) rfl o rfl _ _ _ _ ho Tryz.underlying219 rfl (arr_info (fsts_len zs)) ?_)
        | (refine wpList_store_row rfl 219 (.tmp 2) (.tmp 20) rfl r (arr (fsts zs)) rfl rfl _ _ hr2 (arr_info (fsts_len zs)) (by rw [arr_size, arr_size, fsts_len, fstk_len]) (arr_one _) ?_))
      have hR : (wr.setRow r (arr (fsts zs))).heap[r]? = some (.cells (arr (fsts zs)) 219 (0, 0)) := setRow_heap wr r _ _ _ _ hr2
      refine bodyPost_ret (v := .agg (arr (fsts zs))) (results_cell_row rfl _ _ r _ _ _ _ rfl hR Tryz.underlying219 rfl (arr_info (fsts_len zs))) rfl ⟨rfl, ?_⟩
      have hn := HN.out
      have B1 := BB.grown hg BB.size (fun k hk => by cases hk; omega)
      exact B1.grown (grown_setRow wr r _) B1.size (fun k hk => by cases hk; omega)
end Go.Proofs.YtcifalelnfeggaaGreatDoor
