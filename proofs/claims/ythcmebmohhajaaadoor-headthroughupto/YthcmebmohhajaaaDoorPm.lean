import Derived.Test.YthcmebmohhajaaaDoorPl
import Derived.Deep.RegionHeld3
import Derived.Test.YthcmebmohhajaaaDoorPb
import Derived.Test.YthcmebmohhajaaaDoorProg
import Derived.WalkKit
import Derived.WalkSpells
import Derived.BigQuiet
import Derived.BigRegion
import Derived.Deep.QuietTactic
import Derived.Deep.MidRow
namespace Go.Proofs.YthcmebmohhajaaaDoor
open Go.RowKit
set_option linter.unusedVariables false
set_option linter.unusedSimpArgs false

theorem sz_cell8 (s : S8) (szl : s.sz.length = 19) (j : Nat) (hj : j < 19) : (rpre8 s)[8 + j]? = some (.int .u8 (s.sz.getD j 0)) := by
  unfold rpre8
  rw [List.getElem?_append_right (by simp), List.getElem?_append_left (by simp [szl]; omega)]
  have e : 8 + j - 8 = j := by omega
  simp [e, List.getD, show j < s.sz.length by omega]
theorem sz_range8 {w : World} {b : Nat} {s : S8} {zs0 : List Int} (h : Rb8 w b (rpre8 s) zs0) (szl : s.sz.length = 19) : w.rangeAt b 8 (s.sz.map (Value.int .u8)) := by
  intro j v hv
  have hj : j < s.sz.length := by have := (List.getElem?_eq_some_iff.1 hv).1; simpa using this
  refine (h.cell (sz_cell8 s szl j (by omega))).trans ?_
  rw [← hv]
  simp [List.getD, hj]
theorem sz_seg8 {w : World} {b : Nat} {s : S8} {zs0 : List Int} (h : Rb8 w b (rpre8 s) zs0) (szl : s.sz.length = 19) (szb : ∀ z ∈ s.sz, 0 ≤ z ∧ z ≤ 7) : Seg w (some ⟨b, 8, none⟩) s.sz := by
  refine ⟨fun i hi => ⟨b, 8, rfl, h.cell (sz_cell8 s szl i (by omega))⟩, by omega, fun i => ?_⟩
  by_cases hi : i < s.sz.length
  · have hm : s.sz.getD i 0 ∈ s.sz := by simp only [List.getD, List.getElem?_eq_getElem hi, Option.getD_some]; exact List.getElem_mem hi
    have := szb _ hm
    omega
  · have : s.sz.getD i 0 = 0 := by simp only [List.getD, List.getElem?_eq_none (by omega : s.sz.length ≤ i), Option.getD_none]
    rw [this]; omega
def lnx8 (s : S8) : Nat := if (∀ z ∈ s.sz, z = 0) ∨ errC s.sz ≠ 0 then 5 else 2
theorem zero_iff8 {A : List Int} (h : A.length = 19) : A = List.replicate 19 0 ↔ ∀ z ∈ A, z = 0 := by
  rw [List.eq_replicate_iff]
  exact ⟨fun h => h.2, fun h2 => ⟨h, h2⟩⟩
theorem info70 : (Tryd.prog.info? 70).map (·.size) = some 19 := by kernel_rfl
theorem info5 : (Tryd.prog.info? 5).map (·.size) = some 1 := by kernel_rfl

set_option maxRecDepth 100000 in
set_option maxHeartbeats 4000000 in
theorem pload8 (b : Nat) (s : S8) (zs0 : List Int) (w : World) (h : Rb8 w b (rpre8 s) zs0) (szl : s.sz.length = 19) (szb : ∀ z ∈ s.sz, 0 ≤ z ∧ z ≤ 7) :
    Calls Tryd.prog 41 #[.pointer (some ⟨b, 0, none⟩)] w fun e w' => e = .returned (.tuple #[]) ∧ (∃ zs1, Rb8 w' b (rpre8 { s with nx := lnx8 s }) zs1 ∧ (lnx8 s = 2 → zs1 = s.sz)) ∧ Kp (fun k => k = b) w w' := by
  have c1 := h.cell (i := 1) rfl
  have f1 := h.free 1
  have h1 : Rb8 (w.setCell ⟨b, 1, none⟩ (.int .i64 2)) b (rpre8 { s with nx := 2 }) zs0 := h.set (i := 1) (by omega) (.int .i64 2)
  have k1 : Kp (fun k => k = b) w (w.setCell ⟨b, 1, none⟩ (.int .i64 2)) := (Kp.refl (fun k => k = b) w).set8 rfl 1 _
  have hu70 : Tryd.prog.underlying 70 = some (.array 19 5) := Tryd.underlying70
  have hi70 : (Tryd.prog.info? 70).map (·.size) = some (s.sz.map (Value.int .u8)).length := by rw [List.length_map, szl]; exact info70
  obtain ⟨A, hA⟩ : ∃ A, A = s.sz := ⟨_, rfl⟩
  have HA : Hid (A = s.sz) := hA
  have hE : ∀ W, (Op.equalIn 10000 70 (.agg (A.map (Value.int .u8)).toArray) (.agg ((List.replicate 19 0).map (Value.int .u8)).toArray)).run Tryd.prog W = .ok (decide (A = List.replicate 19 0)) W := fun W => run_equalIn_arr8 W 9998 70 5 19 .u8 A (List.replicate 19 0) (by rw [hA, szl]) (by simp) Tryd.underlying70 Tryd.underlying5 info5
  have hz := zero_iff8 szl
  rw [← hA] at hz hi70
  have HR : Hid (∀ W zs, Rb8 W b (rpre8 { s with nx := 2 }) zs → W.rangeAt b 8 (A.map (Value.int .u8))) := fun W zs hW => by rw [HA.out]; exact sz_range8 (s := { s with nx := 2 }) hW szl
  have R1 := HR.out _ _ h1
  have HN : Hid (∀ W zs, Rb8 W b (rpre8 { s with nx := 2 }) zs → Calls Tryd.prog 46 #[.slice (some ⟨b, 8, none⟩) 19 19] W fun e w' => e = .returned (.slice (some ⟨W.heap.size, 0, none⟩) 19 19) ∧ Rb8 w' b (rpre8 { s with nx := 2 }) zs ∧ SegZ w' (some ⟨W.heap.size, 0, none⟩) s.sz ∧ Below W.heap.size W w') := fun W zs hW => (pnum8 (some ⟨b, 8, none⟩) s.sz 19 19 szl W (sz_seg8 (s := { s with nx := 2 }) hW szl szb) (by omega)).mono (by
    rintro e w' ⟨rfl, o, bl⟩
    exact ⟨rfl, hW.keep (bl.block b hW.lt), own_segZ o (fun z hz => by have := szb z hz; omega), bl⟩)
  have HL : Hid (∀ W zs a, Rb8 W b (rpre8 { s with nx := 2 }) zs → SegZ W a s.sz → Calls Tryd.prog 62 #[.pointer (some ⟨b, 347, none⟩), .slice a 19 19] W fun e w' => e = .returned (.int .i64 (errC s.sz)) ∧ Rb8 w' b (rpre8 { s with nx := 2 }) (if errC s.sz = 0 then s.sz else zs) ∧ Kp (fun k => k = b) W w') := fun W zs a hW hs => by
    have := load8 b (rpre8 { s with nx := 2 }) zs a s.sz 19 19 szl W hW hs (by omega)
    unfold LdQ8 at this
    rw [show errD 19 s.sz = errC s.sz by unfold errD; rw [szl, if_neg (by omega)]] at this
    exact this
  have H1 : Hid (Rb8 (w.setCell ⟨b, 1, none⟩ (.int .i64 2)) b (rpre8 { s with nx := 2 }) zs0) := h1
  have K1 : Hid (Kp (fun k => k = b) w (w.setCell ⟨b, 1, none⟩ (.int .i64 2))) := k1
  have HX : Hid (lnx8 s = if A = List.replicate 19 0 ∨ errC s.sz ≠ 0 then 5 else 2) := by
    show _ = _
    unfold lnx8
    rw [hA] at hz
    rw [hA]
    by_cases hq : ∀ z ∈ s.sz, z = 0
    · rw [if_pos (.inl hq), if_pos (.inl (hz.2 hq))]
    · by_cases hq2 : errC s.sz ≠ 0
      · rw [if_pos (.inr hq2), if_pos (.inr hq2)]
      · rw [if_neg (by intro h; rcases h with h | h; exact hq h; exact hq2 h), if_neg (by intro h; rcases h with h | h; exact hq (hz.1 h); exact hq2 h)]
  clear h h1 k1 hA hz szl szb
  go_enter Tryd.func41, Tryd.ntmps41
  go_wp2_with fail
  generalize w.setCell ⟨b, 1, none⟩ (.int .i64 2) = w1 at *
  obtain ⟨v, hv⟩ : ∃ v, v = decide (A = List.replicate 19 0) := ⟨_, rfl⟩
  have HV : Hid (v = decide (A = List.replicate 19 0)) := hv
  rw [← hv] at hE
  have hE2 : ∀ W, (Op.equalIn 10000 70 (.agg (A.map (Value.int .u8)).toArray) (.agg #[Value.int .u8 0, Value.int .u8 0, Value.int .u8 0, Value.int .u8 0, Value.int .u8 0, Value.int .u8 0, Value.int .u8 0, Value.int .u8 0, Value.int .u8 0, Value.int .u8 0, Value.int .u8 0, Value.int .u8 0, Value.int .u8 0, Value.int .u8 0, Value.int .u8 0, Value.int .u8 0, Value.int .u8 0, Value.int .u8 0, Value.int .u8 0])).run Tryd.prog W = .ok v W := hE
  obtain ⟨C, hC⟩ : ∃ C, C = A.map (Value.int .u8) := ⟨_, rfl⟩
  rw [← hC] at hE2 hi70 R1
  have HC : Hid (C = A.map (Value.int .u8)) := hC
  rw [← hC] at HR
  clear hE hv hC
  cases v with
  | true =>
    have hz : A = List.replicate 19 0 := of_decide_eq_true HV.out.symm
    have HZ : Hid (A = List.replicate 19 0) := hz
    clear hz
    refine wp_region_held_drew (S := fun w' => w'.rangeAt b 8 C) (by kernel_rfl) (by simpa using R1) (fun hHeld => ?_)
    refine wpAnyH_take (i := 0) (v := .pointer (some ⟨b, 0, none⟩)) rfl (by kernel_rfl) (by kernel_rfl) (by kernel_rfl) (fun _ _ _ h => h) (Or.inl ⟨by rfl, fun w hSw => by go_simp⟩) hHeld ?_
    simp only [List.getElem_toArray, List.getElem_cons_zero, List.getElem_cons_succ, Act.put, List.setIfInBounds_toArray, List.set_cons_zero, List.set_cons_succ]
    refine wpAnyH_take (i := 1) (v := .pointer (some ⟨b, 0, none⟩)) rfl (by kernel_rfl) (by kernel_rfl) (by kernel_rfl) (fun _ _ _ h => h) (Or.inl ⟨by rfl, fun w hSw => by go_simp⟩) hHeld ?_
    simp only [List.getElem_toArray, List.getElem_cons_zero, List.getElem_cons_succ, Act.put, List.setIfInBounds_toArray, List.set_cons_zero, List.set_cons_succ]
    refine wpAnyH_take (i := 2) (v := .pointer (some ⟨b, 8, none⟩)) rfl (by kernel_rfl) (by kernel_rfl) (by kernel_rfl) (fun _ _ _ h => h) (Or.inl ⟨by rfl, fun w hSw => by go_simp⟩) hHeld ?_
    simp only [List.getElem_toArray, List.getElem_cons_zero, List.getElem_cons_succ, Act.put, List.setIfInBounds_toArray, List.set_cons_zero, List.set_cons_succ]
    refine wpAnyH_take (i := 3) (v := .agg C.toArray) rfl (by kernel_rfl) (by kernel_rfl) (by kernel_rfl) (fun _ _ _ h => h) (yieldsIf_load_mid (by rfl) _ _ rfl b 8 rfl C _ (fun w hw => hw) hu70 rfl hi70) hHeld ?_
    simp only [List.getElem_toArray, List.getElem_cons_zero, List.getElem_cons_succ, Act.put, List.setIfInBounds_toArray, List.set_cons_zero, List.set_cons_succ]
    refine wpAnyH_take (i := 4) (v := .agg #[Value.int .u8 0, Value.int .u8 0, Value.int .u8 0, Value.int .u8 0, Value.int .u8 0, Value.int .u8 0, Value.int .u8 0, Value.int .u8 0, Value.int .u8 0, Value.int .u8 0, Value.int .u8 0, Value.int .u8 0, Value.int .u8 0, Value.int .u8 0, Value.int .u8 0, Value.int .u8 0, Value.int .u8 0, Value.int .u8 0, Value.int .u8 0]) rfl (by kernel_rfl) (by kernel_rfl) (by kernel_rfl) (fun _ _ _ h => h) (Or.inl ⟨by rfl, fun w hSw => by go_simp⟩) hHeld ?_
    simp only [List.getElem_toArray, List.getElem_cons_zero, List.getElem_cons_succ, Act.put, List.setIfInBounds_toArray, List.set_cons_zero, List.set_cons_succ]
    refine wpAnyH_take (i := 5) (v := .bool true) rfl (by kernel_rfl) (by kernel_rfl) (by kernel_rfl) (fun _ _ _ h => h) (Or.inl ⟨by rfl, fun w hSw => by go_simp⟩) hHeld ?_
    simp only [List.getElem_toArray, List.getElem_cons_zero, List.getElem_cons_succ, Act.put, List.setIfInBounds_toArray, List.set_cons_zero, List.set_cons_succ]
    refine wpAnyH_take (i := 6) (v := .bool true) rfl (by kernel_rfl) (by kernel_rfl) (by kernel_rfl) (fun _ _ _ h => h) (Or.inl ⟨by rfl, fun w hSw => by go_simp⟩) hHeld ?_
    simp only [List.getElem_toArray, List.getElem_cons_zero, List.getElem_cons_succ, Act.put, List.setIfInBounds_toArray, List.set_cons_zero, List.set_cons_succ]
    refine wpAnyH_take (i := 7) (v := undef) rfl (by kernel_rfl) (by kernel_rfl) (by kernel_rfl) (fun _ _ _ h => h) (Or.inr ⟨by rfl, rfl⟩) hHeld ?_
    simp only [List.getElem_toArray, List.getElem_cons_zero, List.getElem_cons_succ, Act.put, List.setIfInBounds_toArray, List.set_cons_zero, List.set_cons_succ]
    refine wpAnyH_take (i := 8) (v := undef) rfl (by kernel_rfl) (by kernel_rfl) (by kernel_rfl) (fun _ _ _ h => h) (Or.inr ⟨by rfl, rfl⟩) hHeld ?_
    simp only [List.getElem_toArray, List.getElem_cons_zero, List.getElem_cons_succ, Act.put, List.setIfInBounds_toArray, List.set_cons_zero, List.set_cons_succ]
    refine wpAnyH_take (i := 9) (v := undef) rfl (by kernel_rfl) (by kernel_rfl) (by kernel_rfl) (fun _ _ _ h => h) (Or.inr ⟨by rfl, rfl⟩) hHeld ?_
    simp only [List.getElem_toArray, List.getElem_cons_zero, List.getElem_cons_succ, Act.put, List.setIfInBounds_toArray, List.set_cons_zero, List.set_cons_succ]
    refine wpAnyH_take (i := 10) (v := undef) rfl (by kernel_rfl) (by kernel_rfl) (by kernel_rfl) (fun _ _ _ h => h) (Or.inr ⟨by rfl, rfl⟩) hHeld ?_
    simp only [List.getElem_toArray, List.getElem_cons_zero, List.getElem_cons_succ, Act.put, List.setIfInBounds_toArray, List.set_cons_zero, List.set_cons_succ]
    refine wpAnyH_take (i := 11) (v := undef) rfl (by kernel_rfl) (by kernel_rfl) (by kernel_rfl) (fun _ _ _ h => h) (Or.inr ⟨by rfl, rfl⟩) hHeld ?_
    simp only [List.getElem_toArray, List.getElem_cons_zero, List.getElem_cons_succ, Act.put, List.setIfInBounds_toArray, List.set_cons_zero, List.set_cons_succ]
    refine wpAnyH_take (i := 12) (v := undef) rfl (by kernel_rfl) (by kernel_rfl) (by kernel_rfl) (fun _ _ _ h => h) (Or.inr ⟨by rfl, rfl⟩) hHeld ?_
    simp only [List.getElem_toArray, List.getElem_cons_zero, List.getElem_cons_succ, Act.put, List.setIfInBounds_toArray, List.set_cons_zero, List.set_cons_succ]
    refine wpAnyH_take (i := 13) (v := undef) rfl (by kernel_rfl) (by kernel_rfl) (by kernel_rfl) (fun _ _ _ h => h) (Or.inr ⟨by rfl, rfl⟩) hHeld ?_
    simp only [List.getElem_toArray, List.getElem_cons_zero, List.getElem_cons_succ, Act.put, List.setIfInBounds_toArray, List.set_cons_zero, List.set_cons_succ]
    refine wpAnyH_take (i := 14) (v := undef) rfl (by kernel_rfl) (by kernel_rfl) (by kernel_rfl) (fun _ _ _ h => h) (Or.inr ⟨by rfl, rfl⟩) hHeld ?_
    simp only [List.getElem_toArray, List.getElem_cons_zero, List.getElem_cons_succ, Act.put, List.setIfInBounds_toArray, List.set_cons_zero, List.set_cons_succ]
    refine wpAnyH_take (i := 15) (v := undef) rfl (by kernel_rfl) (by kernel_rfl) (by kernel_rfl) (fun _ _ _ h => h) (Or.inr ⟨by rfl, rfl⟩) hHeld ?_
    simp only [List.getElem_toArray, List.getElem_cons_zero, List.getElem_cons_succ, Act.put, List.setIfInBounds_toArray, List.set_cons_zero, List.set_cons_succ]
    refine wpAnyH_take (i := 16) (v := undef) rfl (by kernel_rfl) (by kernel_rfl) (by kernel_rfl) (fun _ _ _ h => h) (Or.inr ⟨by rfl, rfl⟩) hHeld ?_
    simp only [List.getElem_toArray, List.getElem_cons_zero, List.getElem_cons_succ, Act.put, List.setIfInBounds_toArray, List.set_cons_zero, List.set_cons_succ]
    refine wpAnyH_take (i := 17) (v := .bool true) rfl (by kernel_rfl) (by kernel_rfl) (by kernel_rfl) (fun _ _ _ h => h) (Or.inl ⟨by rfl, fun w hSw => by go_simp⟩) hHeld ?_
    simp only [List.getElem_toArray, List.getElem_cons_zero, List.getElem_cons_succ, Act.put, List.setIfInBounds_toArray, List.set_cons_zero, List.set_cons_succ]
    refine wpAnyH_done (by kernel_rfl) ?_ _
    have H1d : Rb8 w1.drew b (rpre8 { s with nx := 2 }) zs0 := H1.out.keep rfl
    have d1 := H1d.cell (i := 1) rfl
    have d2 := H1d.free 1
    have HD : Hid (Rb8 w1.drew b (rpre8 { s with nx := 2 }) zs0) := H1d
    clear H1d
    go_wp2_with fail
    refine bodyPost_end (results_none rfl _ _ _) rfl ?_
    refine ⟨rfl, ⟨zs0, ?_, ?_⟩, ?_⟩
    · rw [HX.out, if_pos (.inl HZ.out)]
      exact HD.out.set (i := 1) (by omega) (.int .i64 5)
    · intro e
      rw [HX.out, if_pos (.inl HZ.out)] at e
      cases e
    · exact (K1.out.trans (Kp.of_below (S := fun _ => False) ((Below.refl w1.heap.size w1).drew)) (fun _ _ e => e.elim)).set8 rfl 1 _
  | false =>
    have hz : A ≠ List.replicate 19 0 := of_decide_eq_false HV.out.symm
    have HZ : Hid (A ≠ List.replicate 19 0) := hz
    clear hz
    have H1d : Rb8 w1.drew b (rpre8 { s with nx := 2 }) zs0 := H1.out.keep rfl
    have HK1 : Hid (Kp (fun k => k = b) w w1.drew) := K1.out.trans (Kp.of_below (S := fun _ => False) ((Below.refl w1.heap.size w1).drew)) (fun _ _ e => e.elim)
    by_cases hE0 : errC s.sz = 0
    · simp only [hE0, if_true] at HL
      have HX2 : Hid (lnx8 s = 2) := by show _ = _; rw [HX.out, if_neg (by intro h; rcases h with h | h; exact HZ.out h; exact h hE0)]
      clear hE0 HX
      go_region_held3 (fun w' => w'.rangeAt b 8 C) (first | assumption | (simpa using R1) | (exact HR.out _ _ (by assumption)))
        (first
          | (go_at_call 46; refine (HN.out _ _ (by assumption)).mono ?_; rintro e wn ⟨rfl, rn, sn, bn⟩)
          | (go_at_call 62; refine (HL.out _ _ _ (by assumption) (by assumption)).mono ?_; rintro e wl ⟨rfl, rl, kl⟩))
      all_goals
        have KK : Hid (Kp (fun k => k = b) w wl) := (HK1.out.trans (Kp.of_below (S := fun _ => False) bn) (fun _ _ e => e.elim)).trans kl (fun _ _ e => e)
        have RL : Hid (Rb8 wl b (rpre8 { s with nx := 2 }) s.sz) := rl
        clear kl bn rl rn
        go_wp2_with fail
        refine bodyPost_end (results_none rfl _ _ _) rfl ?_
        refine ⟨rfl, ⟨s.sz, ?_, fun _ => rfl⟩, KK.out⟩
        rw [HX2.out]
        exact RL.out
    · simp only [hE0, if_false] at HL
      have HX2 : Hid (lnx8 s = 5) := by show _ = _; rw [HX.out, if_pos (.inr hE0)]
      obtain ⟨E, hE'⟩ : ∃ E, E = errC s.sz := ⟨_, rfl⟩
      rw [← hE'] at HL hE0
      clear hE' HX
      go_region_held3 (fun w' => w'.rangeAt b 8 C) (first | assumption | (simpa using R1) | (exact HR.out _ _ (by assumption)))
        (first
          | (go_at_call 46; refine (HN.out _ _ (by assumption)).mono ?_; rintro e wn ⟨rfl, rn, sn, bn⟩)
          | (go_at_call 62; refine (HL.out _ _ _ (by assumption) (by assumption)).mono ?_; rintro e wl ⟨rfl, rl, kl⟩))
      all_goals
        have KK : Hid (Kp (fun k => k = b) w wl) := (HK1.out.trans (Kp.of_below (S := fun _ => False) bn) (fun _ _ e => e.elim)).trans kl (fun _ _ e => e)
        have cl := rl.cell (i := 1) rfl
        have fl := rl.free 1
        have RL : Hid (Rb8 wl b (rpre8 { s with nx := 2 }) zs0) := rl
        clear kl bn rl rn
        go_wp2_with fail
        refine bodyPost_end (results_none rfl _ _ _) rfl ?_
        refine ⟨rfl, ⟨zs0, ?_, ?_⟩, KK.out.set8 rfl 1 _⟩
        · rw [HX2.out]
          exact RL.out.set (i := 1) (by omega) (.int .i64 5)
        · intro e
          rw [HX2.out] at e
          cases e
end Go.Proofs.YthcmebmohhajaaaDoor

namespace Go.Proofs.YthcmebmohhajaaaDoor
open Go.RowKit
set_option linter.unusedVariables false

theorem ord_bd8 : ∀ k : Fin 19, 0 ≤ ordL.getD k.val 0 ∧ ordL.getD k.val 0 < 19 := by decide
/-- A size more, ahead of what comes next. -/
def ssd8 (s : S8) (v : Nat) : S8 := { s with sz := ssz8 s v, sized := s.sized + 1 }
theorem ssz_len8 (s : S8) (v : Nat) : (ssz8 s v).length = s.sz.length := by unfold ssz8; rw [List.length_set]
theorem ssz_bd8 {s : S8} {v : Nat} (szb : ∀ z ∈ s.sz, 0 ≤ z ∧ z ≤ 7) (hv : v < 8) : ∀ z ∈ ssz8 s v, 0 ≤ z ∧ z ≤ 7 := by
  intro z hz
  unfold ssz8 at hz
  rcases List.mem_or_eq_of_mem_set hz with h | rfl
  · exact szb z h
  · omega
theorem siz_pre8 (s : S8) (v p : Nat) (szl : s.sz.length = 19) (hp : (p : Int) = ordL.getD s.sized 0) (hp9 : p < 19) : ((rpre8 s).set (8 + p) (.int .u8 (v : Int))).set 5 (.int .i64 ((s.sized + 1 : Nat) : Int)) = rpre8 (ssd8 s v) := by
  have e : (ordL.getD s.sized 0).toNat = p := by omega
  unfold rpre8 ssd8 ssz8
  have e2 : 8 + p - 8 = p := by omega
  rw [e, List.set_append_right _ _ (by simp)]
  simp only [List.length_cons, List.length_nil, Nat.zero_add, Nat.reduceAdd, e2]
  rw [List.set_append_left 5 _ (by simp), List.set_append_left p _ (by rw [List.length_map]; omega), ← List.map_set]
  rfl
theorem siz_eq8 {s : S8} {v : Nat} (h : s.sized + 1 = s.told) : siz8 s v = { ssd8 s v with nx := lnx8 (ssd8 s v) } := by unfold siz8; rw [if_pos h]; rfl
theorem siz_ne8 {s : S8} {v : Nat} (h : ¬ s.sized + 1 = s.told) : siz8 s v = ssd8 s v := by unfold siz8; rw [if_neg h]; rfl
theorem lnx_or8 (s : S8) : lnx8 s = 5 ∨ lnx8 s = 2 := by unfold lnx8; split <;> simp

set_option maxRecDepth 100000 in
set_option maxHeartbeats 2000000 in
theorem tsize8 (b br : Nat) (s : S8) (H : List Bool) (t : Nat) (w : World) (T : TabO w) (hne : b ≠ br) (hb0 : b ≠ 1) (hr0 : br ≠ 1) (h0 : s.nx = 1) (ok : Ok8 s) (hR : RdH w b s) (hr : Rd w br H t) (ht : t ≤ 4611686018427387000) :
    Calls Tryd.prog 26 #[.pointer (some ⟨b, 0, none⟩), .pointer (some ⟨br, 0, none⟩)] w (TkQ w b br s H t) := by
  have CT := take_any br H t ((3 : Nat) : Int) w hr (by omega)
  have hbl := hR.lt
  by_cases hl : 3 ≤ H.length
  · have hth : there H ((3 : Nat) : Int) = true := there_of (by omega) hl
    unfold takeV takeL takeT at CT
    simp only [hth, if_true, Int.toNat_natCast] at CT
    have HO : Hid (One8 s H (siz8 s (num (H.take 3))) 3) := One8.siz h0 hl
    have hv := num_lt8 H 3
    generalize num (H.take 3) = v at *
    have hv8 : v < 8 := hv
    have a1 := ok.at1 h0
    have a2 := ok.td
    obtain ⟨p, hp⟩ : ∃ p : Nat, (p : Int) = ordL.getD s.sized 0 := ⟨(ordL.getD s.sized 0).toNat, Int.toNat_of_nonneg (ord_bd8 ⟨s.sized, by omega⟩).1⟩
    have hp9 : p < 19 := by have := (ord_bd8 ⟨s.sized, by omega⟩).2; simp only at this; omega
    have HP : Hid (((rpre8 s).set (8 + p) (.int .u8 (v : Int))).set 5 (.int .i64 ((s.sized + 1 : Nat) : Int)) = rpre8 (ssd8 s v)) := siz_pre8 s v p ok.szl hp hp9
    have HOK : Hid (Ok8 s) := ok
    obtain ⟨N, hN⟩ : ∃ N, N = s.sized := ⟨_, rfl⟩
    obtain ⟨M, hM⟩ : ∃ M, M = s.told := ⟨_, rfl⟩
    have HN : Hid (N = s.sized ∧ M = s.told) := ⟨hN, hM⟩
    have hN1 : (N : Int) < 19 := by omega
    have hN2 : N < 19 := by omega
    have hM1 : M ≤ 19 := by omega
    have hpi : (p : Int) < 19 := by omega
    have hwv : IntKind.u8.wrap (v : Int) = (v : Int) := IntWalk.u8_in _ (by omega)
    have HPO : Hid ((p : Int) = ordL.getD s.sized 0) := hp
    go_enter Tryd.func26, Tryd.ntmps26
    go_wp2_with fail
    refine CT.mono ?_
    rintro e w1 ⟨rfl, r1, g1⟩
    have hR1 := hR.keep (g1.block b hbl (fun e => hne (by cases e; rfl)))
    obtain ⟨zs0, hB, hz⟩ := hR1.row
    have c4 := hB.cell (i := 4) rfl
    have c5 := hB.cell (i := 5) rfl
    rw [← hM] at c4
    rw [← hN] at c5
    have f5 := hB.free 5
    have f8 := hB.free (8 + p)
    have z8 := hB.cell (sz_cell8 s ok.szl p hp9)
    generalize s.sz.getD p 0 = z0 at z8
    have T1 : TabO w1 := SegZ.kp T (Kp.grown (S := fun k => k = br) g1 (fun j e => by cases e; rfl)) (fun g o e _ => by cases e; exact fun e => hr0 e.symm)
    have o1 := T1.at8 s.sized (by omega)
    rw [← hp, ← hN] at o1
    have HB : Hid (Rb8 w1 b (rpre8 s) zs0) := hB
    have HK1 : Hid (Kp (fun k => k = b ∨ k = br) w w1) := Kp.grown g1 (fun j e => by cases e; exact .inr rfl)
    have HR1 : Hid (Rd w1 br (H.drop 3) (t + 3)) := r1
    have RS : Rb8 (w1.setCell ⟨b, 8 + p, none⟩ (.int .u8 (v : Int))).drew b ((rpre8 s).set (8 + p) (.int .u8 (v : Int))) zs0 := (hB.set (i := 8 + p) (by omega) (.int .u8 (v : Int))).keep rfl
    have s5 : (w1.setCell ⟨b, 8 + p, none⟩ (.int .u8 (v : Int))).drew.cell? ⟨b, 5, none⟩ = some (.int .i64 (N : Int)) := RS.cell (by rw [List.getElem?_set_ne (by omega), hN]; rfl)
    have s4 : (w1.setCell ⟨b, 8 + p, none⟩ (.int .u8 (v : Int))).drew.cell? ⟨b, 4, none⟩ = some (.int .i64 (M : Int)) := RS.cell (by rw [List.getElem?_set_ne (by omega), hM]; rfl)
    have sf5 := RS.free 5
    have T2 : TabO (w1.setCell ⟨b, 8 + p, none⟩ (.int .u8 (v : Int))) := SegZ.kp T1 (Kp.set (S := fun k => k = b) rfl _) (fun g o e _ => by cases e; exact fun e => hb0 e.symm)
    have so : (w1.setCell ⟨b, 8 + p, none⟩ (.int .u8 (v : Int))).drew.cell? ⟨1, N, none⟩ = some (.int .i64 (p : Int)) := by
      have := T2.at8 s.sized (by omega)
      rw [← hp, ← hN] at this
      exact this
    clear RS T2
    clear hB hz CT hR hR1 T T1 g1 r1 hp hN hM ok a1 a2 hr
    go_wp2_with fail
    go_region_held3 (fun w' => w'.cell? ⟨b, 5, none⟩ = some (.int .i64 (N : Int)) ∧ w'.cell? ⟨1, N, none⟩ = some (.int .i64 (p : Int))) (first | (exact ⟨c5, o1⟩) | (exact ⟨s5, so⟩) | (rw [hwv]; exact ⟨s5, so⟩)) (fail)
    go_wp2_with fail
    have RW : Rb8 ((w1.setCell ⟨b, 8 + p, none⟩ (.int .u8 (v : Int))).setCell ⟨b, 5, none⟩ (.int .i64 ((N : Int) + 1))).drew b (rpre8 (ssd8 s v)) zs0 := by
      rw [← HP.out]
      have e : (((s.sized + 1 : Nat)) : Int) = (N : Int) + 1 := by rw [HN.out.1]; rfl
      rw [e]
      exact ((HB.out.set (i := 8 + p) (by omega) _).set (i := 5) (by omega) _).keep rfl
    have KW : Hid (Kp (fun k => k = b ∨ k = br) w ((w1.setCell ⟨b, 8 + p, none⟩ (.int .u8 (v : Int))).setCell ⟨b, 5, none⟩ (.int .i64 ((N : Int) + 1))).drew) := ((HK1.out.set8 (.inl rfl) (8 + p) _).set8 (.inl rfl) 5 _).drew
    have RR : Hid (Rd ((w1.setCell ⟨b, 8 + p, none⟩ (.int .u8 (v : Int))).setCell ⟨b, 5, none⟩ (.int .i64 ((N : Int) + 1))).drew br (H.drop 3) (t + 3)) := HR1.out.kp (((Kp.refl (fun k => k = b) w1).set8 rfl (8 + p) _).set8 rfl 5 _).drew (fun e => hne e.symm)
    clear HB HK1 HR1 c4 c5 f5 f8 z8 o1 s5 s4 sf5 so HP HPO
    have e5 : (((ssd8 s v).sized : Nat) : Int) = (N : Int) + 1 := by show ((s.sized + 1 : Nat) : Int) = _; rw [HN.out.1]; rfl
    have w5 := RW.cell (i := 5) rfl
    rw [e5] at w5
    have w4 : ((w1.setCell ⟨b, 8 + p, none⟩ (.int .u8 (v : Int))).setCell ⟨b, 5, none⟩ (.int .i64 ((N : Int) + 1))).drew.cell? ⟨b, 4, none⟩ = some (Value.int .i64 (M : Int)) := by
      have := RW.cell (i := 4) rfl
      rw [show (ssd8 s v).told = M from HN.out.2.symm] at this
      exact this
    have HRW : Hid (Rb8 ((w1.setCell ⟨b, 8 + p, none⟩ (.int .u8 (v : Int))).setCell ⟨b, 5, none⟩ (.int .i64 ((N : Int) + 1))).drew b (rpre8 (ssd8 s v)) zs0) := RW
    clear RW e5
    generalize ((w1.setCell ⟨b, 8 + p, none⟩ (.int .u8 (v : Int))).setCell ⟨b, 5, none⟩ (.int .i64 ((N : Int) + 1))).drew = W at *
    go_region_held3 (fun w' => w'.cell? ⟨b, 5, none⟩ = some (.int .i64 ((N : Int) + 1)) ∧ w'.cell? ⟨b, 4, none⟩ = some (.int .i64 (M : Int))) (exact ⟨w5, w4⟩) (fail)
    have RD : Hid (Rb8 W.drew b (rpre8 (ssd8 s v)) zs0) := HRW.out.keep rfl
    have KD : Hid (Kp (fun k => k = b ∨ k = br) w W.drew) := KW.out.drew
    have RRD : Hid (Rd W.drew br (H.drop 3) (t + 3)) := RR.out.kp (Kp.refl (fun _ => False) W).drew (fun e => e)
    clear HRW KW RR w5 w4
    by_cases hNM : N + 1 = M
    · have hNMi : (N : Int) + 1 = (M : Int) := by omega
      have HE : Hid (siz8 s v = { ssd8 s v with nx := lnx8 (ssd8 s v) }) := siz_eq8 (by have := HN.out; omega)
      have CL := pload8 b (ssd8 s v) zs0 W.drew RD.out (by show (ssz8 s v).length = 19; rw [ssz_len8]; exact HOK.out.szl) (ssz_bd8 HOK.out.szb hv8)
      clear hNM
      go_wp2_with fail
      refine CL.mono ?_
      rintro e w3 ⟨rfl, ⟨zs1, r3, z3⟩, k3⟩
      have R3 : Hid (RdH w3 b (siz8 s v)) := by
        show RdH w3 b (siz8 s v)
        rw [HE.out]
        exact ⟨zs1, r3, fun e => by
          rcases e with e | e
          · exact z3 e
          · rcases lnx_or8 (ssd8 s v) with h | h
            · have e : lnx8 (ssd8 s v) = 3 := e
              omega
            · have e : lnx8 (ssd8 s v) = 3 := e
              omega⟩
      have K3 : Hid (Kp (fun k => k = b ∨ k = br) w w3) := KD.out.trans k3 (fun _ _ e => .inl e)
      have R4 : Hid (Rd w3 br (H.drop 3) (t + 3)) := RRD.out.kp k3 (fun e => hne e.symm)
      clear CL r3 z3 k3
      go_wp2_with fail
      go_ret
      exact ⟨K3.out, .inl ⟨rfl, _, _, HO.out, R3.out, R4.out⟩⟩
    · have hNMi : ¬ (N : Int) + 1 = (M : Int) := by omega
      have HE : Hid (siz8 s v = ssd8 s v) := siz_ne8 (by have := HN.out; omega)
      clear hNM
      go_wp2_with fail
      go_ret
      refine ⟨KD.out, .inl ⟨rfl, _, _, HO.out, ?_, RRD.out⟩⟩
      rw [HE.out]
      refine ⟨zs0, RD.out, fun e => ?_⟩
      have e : s.nx = 2 ∨ s.nx = 3 := e
      omega
  · have hth : there H ((3 : Nat) : Int) = false := there_lt (by omega)
    unfold takeV takeL takeT at CT
    simp only [hth, Bool.false_eq_true, if_false] at CT
    have HW : Hid (Wait8 s H) := .inr (.inl ⟨h0, by omega⟩)
    go_enter Tryd.func26, Tryd.ntmps26
    go_wp2_with fail
    refine CT.mono ?_
    rintro e w1 ⟨rfl, r1, g1⟩
    have hR1 := hR.keep (g1.block b hbl (fun e => hne (by cases e; rfl)))
    go_wp2_with fail
    go_ret
    exact ⟨Kp.grown g1 (fun j e => by cases e; exact .inr rfl), .inr ⟨rfl, HW.out, hR1, r1⟩⟩
end Go.Proofs.YthcmebmohhajaaaDoor

namespace Go.Proofs.YthcmebmohhajaaaDoor
open Go.RowKit
set_option linter.unusedVariables false

theorem built_rd8 : (Tryd.prog.built 73 [(0, Value.bool true), (10, Value.agg (arr (dl 19 [] Z288)))]).getD #[] = (rpre8 ini8 ++ (dl 19 [] Z288).map (Value.int .i64)).toArray := by kernel_rfl
theorem info_dec8 : (Tryd.prog.info? 68).map (·.size) = some (arr (dl 19 [] Z288)).size := by kernel_rfl

set_option maxRecDepth 100000 in
set_option maxHeartbeats 1000000 in
theorem pnew8 (w : World) :
    Calls Tryd.prog 6 #[] w fun e w' => ∃ b, w.heap.size ≤ b ∧ e = .returned (.pointer (some ⟨b, 0, none⟩)) ∧ Rb8 w' b (rpre8 ini8) [] ∧ Below w.heap.size w w' := by
  go_enter Tryd.func6, Tryd.ntmps6
  go_wp2_with fail
  refine (newDec_any 19 (by omega) (by omega) w).mono ?_
  rintro e w1 ⟨rfl, hw⟩
  have hd : w1.heap[w.heap.size]? = some (.cells (arr (dl 19 [] Z288)) 68 (0, 0)) := by rw [hw]; exact heap_alloc_new w _
  have B1 : Below w.heap.size w w1 := by rw [hw]; exact (Below.refl _ _).alloc (Nat.le_refl _) _
  clear hw
  go_wp2_with (first
    | (refine wpList_load_row rfl 68 _ rfl w.heap.size rfl _ _ _ _ hd Tryd.underlying68 rfl info_dec8 ?_)
    | (refine wpList_build rfl _ _ rfl (by kernel_rfl) ?_))
  go_ret
  refine ⟨w1.heap.size, B1.size, rfl, ?_, B1.alloc B1.size _⟩
  rw [built_rd8]
  exact ⟨errC_nil, by simp [rpre8, ini8], Z288, Z288_len, fun s hs => by simp at hs, heap_alloc_new w1 _⟩
theorem pnew_rd8 {w : World} {b : Nat} (h : Rb8 w b (rpre8 ini8) []) : RdH w b ini8 := ⟨[], h, fun e => by rcases e with e | e <;> cases e⟩
end Go.Proofs.YthcmebmohhajaaaDoor

namespace Go.Proofs.YthcmebmohhajaaaDoor
open Go.RowKit
set_option linter.unusedVariables false

theorem run_makeFunc8 (P : Program) (fn : Fn) (first cap : Array Value) (w : World) : (Instr.makeFunc fn first cap).run P w = .ok (.func fn first cap) w := rfl
theorem One8.go {s s' : S8} {H : List Bool} {n : Nat} (ok : Ok8 s) (h : One8 s H s' n) : s.nx < 4 ∧ (1 ≤ n ∨ 4 ≤ s'.nx) := by
  cases h with
  | cts h _ => exact ⟨by omega, .inl (by omega)⟩
  | siz h _ => exact ⟨by omega, .inl (by omega)⟩
  | sym h hx =>
    refine ⟨by omega, .inl ?_⟩
    rename_i x
    have hm : s.sz.getD x 0 ∈ s.sz := by simp only [List.getD, List.getElem?_eq_getElem hx.1, Option.getD_some]; exact List.getElem_mem hx.1
    have h1 := ok.szb _ hm
    have h2 := hx.2.1
    unfold ln
    omega
  | bad h _ _ => exact ⟨by omega, .inr (by show 4 ≤ 5; omega)⟩
  | mor h _ =>
    refine ⟨by omega, .inl ?_⟩
    have := ok.at3 h
    unfold mor8
    split <;> (try split) <;> (try split) <;> omega
def cell8 (w : World) (b i : Nat) : Nat := (intOf ((w.cell? ⟨b, i, none⟩).getD (.int .i64 0))).toNat
theorem cell8_of {w : World} {b i : Nat} {n : Nat} (h : w.cell? ⟨b, i, none⟩ = some (.int .i64 (n : Int))) : cell8 w b i = n := by unfold cell8; rw [h]; simp [intOf]
/-- The parts' functions, in a row. -/
def fns8 (b : Nat) : Array Value := #[Value.func (.func 25) #[.pointer (some ⟨b, 0, none⟩)] #[], Value.func (.func 26) #[.pointer (some ⟨b, 0, none⟩)] #[], Value.func (.func 27) #[.pointer (some ⟨b, 0, none⟩)] #[], Value.func (.func 28) #[.pointer (some ⟨b, 0, none⟩)] #[]]
theorem RdH.nx {w : World} {b : Nat} {s : S8} (h : RdH w b s) : w.cell? ⟨b, 1, none⟩ = some (.int .i64 (s.nx : Int)) := by
  obtain ⟨z, h, _⟩ := h.row
  exact h.cell (i := 1) rfl
theorem mes8 {w : World} {b br : Nat} {s : S8} {H : List Bool} {t : Nat} (hR : RdH w b s) (hr : Rd w br H t) : 2 * cell8 w br 1 + (if cell8 w b 1 < 4 then 1 else 0) = 2 * H.length + (if s.nx < 4 then 1 else 0) := by
  rw [cell8_of hR.nx, cell8_of (three_cell1 hr.hp)]
theorem rel8 {w wr w2 : World} {b br P n m : Nat} {s0 s s' : S8} {H : List Bool} {t : Nat} {T : TypeId} (hrun : Run8 s0 H s n) (one : One8 s (H.drop n) s' m) (R : RdH w2 b s') (r : Rd w2 br ((H.drop n).drop m) (t + n + m)) (TS : TabS wr) (TO : TabO wr) (hq : wr.heap[P]? = some (.cells (fns8 b) T (0, 0))) (K1 : Kp (fun k => k = b ∨ k = br) w wr) (k2 : Kp (fun k => k = b ∨ k = br) wr w2) (hb : 2 ≤ b) (hr : 2 ≤ br) (hbP : b ≠ P) (hrP : br ≠ P) :
    ∃ s n, Run8 s0 H s n ∧ RdH w2 b s ∧ Rd w2 br (H.drop n) (t + n) ∧ TabS w2 ∧ TabO w2 ∧ w2.heap[P]? = some (.cells (fns8 b) T (0, 0)) ∧ Kp (fun k => k = b ∨ k = br) w w2 := by
  refine ⟨s', n + m, ?_, R, ?_, SegZ.kp TS k2 (fun g o e _ => by cases e; rintro (e | e) <;> omega), SegZ.kp TO k2 (fun g o e _ => by cases e; rintro (e | e) <;> omega), k2.heap hq (by rintro (e | e); exact hbP e.symm; exact hrP e.symm), K1.trans k2 (fun _ _ e => e)⟩
  · have := hrun.trans (.cons one .nil)
    simpa using this
  · rw [List.drop_drop] at r
    rw [← Nat.add_assoc]
    exact r
theorem dec8 {wr w2 : World} {b br : Nat} {s s' : S8} {H : List Bool} {t t2 m : Nat} (ok : Ok8 s) (hR : RdH wr b s) (hr : Rd wr br H t) (one : One8 s H s' m) (R : RdH w2 b s') (r : Rd w2 br (H.drop m) t2) : 2 * cell8 w2 br 1 + (if cell8 w2 b 1 < 4 then 1 else 0) < 2 * cell8 wr br 1 + (if cell8 wr b 1 < 4 then 1 else 0) := by
  rw [mes8 R r, mes8 hR hr, List.length_drop]
  obtain ⟨g1, g2⟩ := one.go ok
  have := one.le
  rw [if_pos g1]
  split <;> omega


def StQ (w : World) (b br : Nat) (s0 : S8) (H : List Bool) (t : Nat) (e : Ending) (w' : World) : Prop := ∃ s n, Run8 s0 H s n ∧ Wait8 s (H.drop n) ∧ e = .returned (.tuple #[.bool (decide (s.nx = 4)), .int .i64 (if s.nx = 5 then 81 else 0)]) ∧ RdH w' b s ∧ Rd w' br (H.drop n) (t + n) ∧ Kp (fun k => k = b ∨ k = br) w w'

set_option maxRecDepth 100000 in
set_option maxHeartbeats 2000000 in
theorem pstep8 (b br : Nat) (s0 : S8) (H : List Bool) (t : Nat) (w : World) (TS : TabS w) (TO : TabO w) (hne : b ≠ br) (hb2 : 2 ≤ b) (hr2 : 2 ≤ br) (ok0 : Ok8 s0) (hR : RdH w b s0) (hr : Rd w br H t) (ht : t + 64 ≤ 4611686018427387000) :
    Calls Tryd.prog 9 #[.pointer (some ⟨b, 0, none⟩), .pointer (some ⟨br, 0, none⟩)] w (StQ w b br s0 H t) := by
  obtain ⟨z0, hB0, _⟩ := hR.row
  have c0 := hB0.cell (i := 0) rfl
  have hbl := hR.lt
  have hrl := hr.b_lt
  have hmf := run_makeFunc8 Tryd.prog
  have hst : ∀ (W : World) (a : Addr) (f : Fn) (x y : Array Value), (store a (.func f x y)).run Tryd.prog W = stored Tryd.prog W a (.func f x y) .plain := fun W a f x y => run_store Tryd.prog W a _ _ rfl
  clear hB0
  go_enter Tryd.func9, Tryd.ntmps9
  go_wp2_with fail
  obtain ⟨P, hP⟩ : ∃ P, P = w.heap.size := ⟨_, rfl⟩
  have q0 : (w.alloc (.cells #[Value.func (.func 25) #[.pointer (some ⟨b, 0, none⟩)] #[], Value.func (.func 26) #[.pointer (some ⟨b, 0, none⟩)] #[], Value.func (.func 27) #[.pointer (some ⟨b, 0, none⟩)] #[], Value.func (.func 28) #[.pointer (some ⟨b, 0, none⟩)] #[]] 80)).heap[w.heap.size]? = some (.cells (fns8 b) 80 (0, 0)) := heap_alloc_new w _
  have K0 : Kp (fun _ => False) w (w.alloc (.cells #[Value.func (.func 25) #[.pointer (some ⟨b, 0, none⟩)] #[], Value.func (.func 26) #[.pointer (some ⟨b, 0, none⟩)] #[], Value.func (.func 27) #[.pointer (some ⟨b, 0, none⟩)] #[], Value.func (.func 28) #[.pointer (some ⟨b, 0, none⟩)] #[]] 80)) := Kp.alloc w _
  generalize (w.alloc (.cells #[Value.func (.func 25) #[.pointer (some ⟨b, 0, none⟩)] #[], Value.func (.func 26) #[.pointer (some ⟨b, 0, none⟩)] #[], Value.func (.func 27) #[.pointer (some ⟨b, 0, none⟩)] #[], Value.func (.func 28) #[.pointer (some ⟨b, 0, none⟩)] #[]] 80)) = W0 at *
  rw [← hP] at q0 ⊢
  have HP : Hid (P = w.heap.size) := hP
  have hbP : b ≠ P := by omega
  have hrP : br ≠ P := by omega
  have HI0 : Hid (RdH W0 b s0 ∧ Rd W0 br H t ∧ TabS W0 ∧ TabO W0) := ⟨hR.keep (K0.block b hbl (fun e => e)), hr.kp K0 (fun e => e), SegZ.kp TS K0 (fun g o e _ => by cases e; exact fun e => e), SegZ.kp TO K0 (fun g o e _ => by cases e; exact fun e => e)⟩
  have KK : Kp (fun k => k = b ∨ k = br) w W0 := K0.mono (fun _ _ e => e.elim)
  have HLE : Hid (H.length ≤ 64) := hr.le
  clear K0 hP hR hr TS TO c0 hmf hst
  go_loopw [] (fun wr => ∃ s n, Run8 s0 H s n ∧ RdH wr b s ∧ Rd wr br (H.drop n) (t + n) ∧ TabS wr ∧ TabO wr ∧ wr.heap[P]? = some (.cells (fns8 b) 80 (0, 0)) ∧ Kp (fun k => k = b ∨ k = br) w wr) (fun wr => 2 * cell8 wr br 1 + (if cell8 wr b 1 < 4 then 1 else 0))
  case atStart => exact ⟨s0, 0, .nil, HI0.out.1, by simpa using HI0.out.2.1, HI0.out.2.2.1, HI0.out.2.2.2, q0, KK⟩
  case round =>
    obtain ⟨s, n, hrun, hR, hr, TS, TO, hq, K1⟩ := hrel
    clear HI0 q0 KK
    have ok := hrun.ok ok0
    have hn := hrun.le
    have hHl : H.length ≤ 64 := HLE.out
    have d1 := hR.nx
    have HRUN : Hid (Run8 s0 H s n) := hrun
    have HOK : Hid (Ok8 s) := ok
    have HR : Hid (RdH wr b s) := hR
    have Hr : Hid (Rd wr br (H.drop n) (t + n)) := hr
    have HTS : Hid (TabS wr) := TS
    have HTO : Hid (TabO wr) := TO
    have HQ : Hid (wr.heap[P]? = some (.cells (fns8 b) 80 (0, 0))) := hq
    have HK1 : Hid (Kp (fun k => k = b ∨ k = br) w wr) := K1
    have htn : t + n ≤ 4611686018427387000 := by omega
    have top := ok.top
    have hbr : b < wr.heap.size := hR.lt
    clear hrun ok hR hr TS TO K1
    obtain ⟨x, hx⟩ : ∃ x, x = s.nx := ⟨_, rfl⟩
    rw [← hx] at d1 top
    have HX : Hid (x = s.nx) := hx
    clear hx
    obtain rfl | rfl | rfl | rfl | h4 : x = 0 ∨ x = 1 ∨ x = 2 ∨ x = 3 ∨ 4 ≤ x := by omega
    · have p1 : wr.cell? ⟨P, 0, none⟩ = some (.func (.func 25) #[.pointer (some ⟨b, 0, none⟩)] #[]) := (cell_of_row wr P 0 _ _ _ hq).trans rfl
      have CT := tcounts8 b br s (H.drop n) (t + n) wr hne HX.out.symm HR.out Hr.out htn
      clear hq
      go_wp2_with fail
      refine CT.mono ?_
      rintro e w2 ⟨k2, hc⟩
      rcases hc with ⟨rfl, s', m, one, R2, r2⟩ | ⟨rfl, hw, R2, r2⟩
      · have HREL := rel8 HRUN.out one R2 r2 HTS.out HTO.out HQ.out HK1.out k2 hb2 hr2 hbP hrP
        have HDEC := dec8 HOK.out HR.out Hr.out one R2 r2
        clear CT k2 one R2 r2
        go_wp2_with fail
        go_roundw
        case rel => exact HREL
        case measure => exact HDEC
      · have e1 := R2.nx
        rw [← HX.out] at e1
        have HE : Hid (StQ w b br s0 H t (.returned (.tuple #[.bool false, .int .i64 0])) w2) := ⟨s, n, HRUN.out, hw, by rw [← HX.out]; rfl, R2, r2, HK1.out.trans k2 (fun _ _ e => e)⟩
        clear CT k2 hw R2 r2
        go_wp2_with fail
        go_ret2
        exact HE.out
    · have p1 : wr.cell? ⟨P, 1, none⟩ = some (.func (.func 26) #[.pointer (some ⟨b, 0, none⟩)] #[]) := (cell_of_row wr P 1 _ _ _ hq).trans rfl
      have CT := tsize8 b br s (H.drop n) (t + n) wr HTO.out hne (by omega) (by omega) HX.out.symm HOK.out HR.out Hr.out htn
      clear hq
      go_wp2_with fail
      refine CT.mono ?_
      rintro e w2 ⟨k2, hc⟩
      rcases hc with ⟨rfl, s', m, one, R2, r2⟩ | ⟨rfl, hw, R2, r2⟩
      · have HREL := rel8 HRUN.out one R2 r2 HTS.out HTO.out HQ.out HK1.out k2 hb2 hr2 hbP hrP
        have HDEC := dec8 HOK.out HR.out Hr.out one R2 r2
        clear CT k2 one R2 r2
        go_wp2_with fail
        go_roundw
        case rel => exact HREL
        case measure => exact HDEC
      · have e1 := R2.nx
        rw [← HX.out] at e1
        have HE : Hid (StQ w b br s0 H t (.returned (.tuple #[.bool false, .int .i64 0])) w2) := ⟨s, n, HRUN.out, hw, by rw [← HX.out]; rfl, R2, r2, HK1.out.trans k2 (fun _ _ e => e)⟩
        clear CT k2 hw R2 r2
        go_wp2_with fail
        go_ret2
        exact HE.out
    · have p1 : wr.cell? ⟨P, 2, none⟩ = some (.func (.func 27) #[.pointer (some ⟨b, 0, none⟩)] #[]) := (cell_of_row wr P 2 _ _ _ hq).trans rfl
      have CT := tsym8 b br s (H.drop n) (t + n) wr HTS.out hne (by omega) (by omega) HX.out.symm HOK.out HR.out Hr.out htn
      clear hq
      go_wp2_with fail
      refine CT.mono ?_
      rintro e w2 ⟨k2, hc⟩
      rcases hc with ⟨rfl, s', m, one, R2, r2⟩ | ⟨rfl, hw, R2, r2⟩
      · have HREL := rel8 HRUN.out one R2 r2 HTS.out HTO.out HQ.out HK1.out k2 hb2 hr2 hbP hrP
        have HDEC := dec8 HOK.out HR.out Hr.out one R2 r2
        clear CT k2 one R2 r2
        go_wp2_with fail
        go_roundw
        case rel => exact HREL
        case measure => exact HDEC
      · have e1 := R2.nx
        rw [← HX.out] at e1
        have HE : Hid (StQ w b br s0 H t (.returned (.tuple #[.bool false, .int .i64 0])) w2) := ⟨s, n, HRUN.out, hw, by rw [← HX.out]; rfl, R2, r2, HK1.out.trans k2 (fun _ _ e => e)⟩
        clear CT k2 hw R2 r2
        go_wp2_with fail
        go_ret2
        exact HE.out
    · have p1 : wr.cell? ⟨P, 3, none⟩ = some (.func (.func 28) #[.pointer (some ⟨b, 0, none⟩)] #[]) := (cell_of_row wr P 3 _ _ _ hq).trans rfl
      have CT := tmore8 b br s (H.drop n) (t + n) wr HTS.out hne (by omega) (by omega) HX.out.symm HOK.out HR.out Hr.out htn
      clear hq
      go_wp2_with fail
      refine CT.mono ?_
      rintro e w2 ⟨k2, hc⟩
      rcases hc with ⟨rfl, s', m, one, R2, r2⟩ | ⟨rfl, hw, R2, r2⟩
      · have HREL := rel8 HRUN.out one R2 r2 HTS.out HTO.out HQ.out HK1.out k2 hb2 hr2 hbP hrP
        have HDEC := dec8 HOK.out HR.out Hr.out one R2 r2
        clear CT k2 one R2 r2
        go_wp2_with fail
        go_roundw
        case rel => exact HREL
        case measure => exact HDEC
      · have e1 := R2.nx
        rw [← HX.out] at e1
        have HE : Hid (StQ w b br s0 H t (.returned (.tuple #[.bool false, .int .i64 0])) w2) := ⟨s, n, HRUN.out, hw, by rw [← HX.out]; rfl, R2, r2, HK1.out.trans k2 (fun _ _ e => e)⟩
        clear CT k2 hw R2 r2
        go_wp2_with fail
        go_ret2
        exact HE.out
    · have HW : Hid (Wait8 s (H.drop n)) := .inr (.inr (.inr (.inr (by have := HX.out; omega))))
      have HE : Hid (StQ w b br s0 H t (.returned (.tuple #[.bool (decide (x = 4)), .int .i64 (if x = 5 then 81 else 0)])) wr) := ⟨s, n, HRUN.out, HW.out, by rw [HX.out], HR.out, Hr.out, HK1.out⟩
      clear hq HRUN HOK HR Hr HTS HTO HQ HK1
      obtain rfl | rfl : x = 4 ∨ x = 5 := by omega
      · go_wp2_with fail
        go_ret2
        exact HE.out
      · go_wp2_with fail
        go_ret2
        exact HE.out
end Go.Proofs.YthcmebmohhajaaaDoor

namespace Go.Proofs.YthcmebmohhajaaaDoor
open Go.RowKit
set_option linter.unusedVariables false

/-- Where it waits, there are few bits. -/
theorem Wait8.short {s : S8} {H : List Bool} (ok : Ok8 s) (h : Wait8 s H) (h4 : s.nx < 4) : H.length ≤ 13 := by
  rcases h with ⟨_, h⟩ | ⟨_, h⟩ | ⟨_, _, x, h1, h2, h3, _⟩ | ⟨h0, h⟩ | h
  · omega
  · omega
  · have hm : s.sz.getD x 0 ∈ s.sz := by simp only [List.getD, List.getElem?_eq_getElem h1, Option.getD_some]; exact List.getElem_mem h1
    have := ok.szb _ hm
    unfold ln at h3
    omega
  · have : mor8 s.sym ≤ 7 := by unfold mor8; split <;> (try split) <;> (try split) <;> omega
    omega
  · omega

set_option maxRecDepth 100000 in
set_option maxHeartbeats 1000000 in
theorem plens8n (b : Nat) (s : S8) (w : World) (hR : RdH w b s) (h4 : s.nx ≠ 4) :
    Calls Tryd.prog 12 #[.pointer (some ⟨b, 0, none⟩)] w fun e w' => e = .returned (.tuple #[.slice none 0 0, .slice none 0 0]) ∧ w' = w := by
  have c1 := hR.nx
  have h4i : ¬ (s.nx : Int) = 4 := by omega
  generalize s.nx = x at *
  go_enter Tryd.func12, Tryd.ntmps12
  go_wp2_with fail
  go_ret2
  exact ⟨rfl, rfl⟩
set_option maxRecDepth 100000 in
set_option maxHeartbeats 1000000 in
theorem plens84 (b : Nat) (s : S8) (w : World) (hR : RdH w b s) (ok : Ok8 s) (h4 : s.nx = 4) :
    Calls Tryd.prog 12 #[.pointer (some ⟨b, 0, none⟩)] w fun e w' => ∃ g1 g2, e = .returned (.tuple #[.slice (some ⟨g1, 0, none⟩) s.lit s.lit, .slice (some ⟨g2, 0, none⟩) s.dist s.dist]) ∧ Ro8 w w' g1 (s.out.take s.lit) s.lit ∧ Ro8 w w' g2 (s.out.drop s.lit) s.dist ∧ g1 < g2 ∧ Below w.heap.size w w' := by
  have c1 := hR.nx
  rw [h4] at c1
  obtain ⟨zs0, h1, _⟩ := hR.row
  obtain ⟨ho, ht⟩ := ok.at4 h4
  have hol := ok.ol
  have hl1 : s.lit ≤ 286 := by have := ht.2.1; rw [List.length_take] at this; omega
  have hs1 : Seg w (some ⟨b, 27, none⟩) (s.out.take s.lit) := by
    have := row_seg8 h1 ok.szl ok.ob 0 s.lit (by omega)
    simpa using this
  have hs2 : Seg w (some ⟨b, 27 + s.lit, none⟩) (s.out.drop s.lit) := by
    have := row_seg8 h1 ok.szl ok.ob s.lit s.dist (by omega)
    rwa [List.take_of_length_le (by rw [List.length_drop]; omega)] at this
  have CH := phalves8 b (s.out.take s.lit) (s.out.drop s.lit) s.lit s.dist w (h1.cell (i := 2) rfl) (h1.cell (i := 3) rfl) ⟨by rw [List.length_take]; omega, hs1, by omega⟩ ⟨by rw [List.length_drop]; omega, hs2, by omega⟩ (by omega) (by omega)
  clear h1 hs1 hs2 ht
  go_enter Tryd.func12, Tryd.ntmps12
  go_wp2_with fail
  refine CH.mono ?_
  rintro e w2 ⟨g1, g2, rfl, o1, o2, hg, b2⟩
  clear CH
  go_wp2_with fail
  go_ret2
  exact ⟨g1, g2, rfl, o1, o2, hg, b2⟩
set_option maxRecDepth 100000 in
set_option maxHeartbeats 1000000 in
theorem told8 (L D : List Int) (a1 a2 : Option Addr) (l d c1 c2 : Nat) (hl : Hid (L.length = l)) (hd : Hid (D.length = d)) (w : World) (s1 : SegZ w a1 L) (s2 : SegZ w a2 D) (ht : tld8 errC L D) :
    Calls Tryd.prog 15 #[.slice a1 l c1, .slice a2 d c2] w fun e w' => e = .returned (.bool true) ∧ Below w.heap.size w w' := by
  obtain ⟨t1, t2, t3, t4, t5, t6⟩ := ht
  have hl' := hl.out
  have hd' := hd.out
  rw [hl'] at t1 t2
  rw [hd'] at t3
  have i1 : (257 : Int) ≤ (l : Int) := by omega
  have i2 : (l : Int) ≤ 286 := by omega
  have i3 : (d : Int) ≤ 30 := by omega
  have C1 := check_any a1 L l c1 hl w s1 (by omega)
  rw [t4] at C1
  go_enter Tryd.func15, Tryd.ntmps15
  go_wp2_with fail
  refine C1.mono ?_
  rintro e w1 ⟨rfl, b1⟩
  have C2 := check_any a2 D d c2 hd w1 (s2.old b1) (by omega)
  rw [t5] at C2
  clear C1
  go_wp2_with fail
  refine C2.mono ?_
  rintro e w2 ⟨rfl, b2⟩
  have b12 := b1.trans (b2.mono b1.size)
  obtain ⟨g, o, rfl, c0⟩ := (s1.old b12).at_ 256 (by omega)
  have hz := t6
  generalize L.getD 256 0 = z at c0 hz
  have hz1 : (z != 0) = true := by simpa using hz
  clear C2 t4 t5 t6 s1 s2
  go_wp2_with fail
  go_ret
  exact ⟨rfl, b12⟩
end Go.Proofs.YthcmebmohhajaaaDoor

namespace Go.Proofs.YthcmebmohhajaaaDoor
open Go.RowKit
set_option linter.unusedVariables false

/-! Items: four cells. -/
structure Im where
  wt : Int
  sy : Int
  fs : Option Addr
  sn : Option Addr
def Im.val (x : Im) : Value := .agg #[.int .i64 x.wt, .int .i64 x.sy, .pointer x.fs, .pointer x.sn]
structure ItAt (w : World) (g o : Nat) (x : Im) : Prop where
  c0 : w.cell? ⟨g, o, none⟩ = some (.int .i64 x.wt)
  c1 : w.cell? ⟨g, o + 1, none⟩ = some (.int .i64 x.sy)
  c2 : w.cell? ⟨g, o + 2, none⟩ = some (.pointer x.fs)
  c3 : w.cell? ⟨g, o + 3, none⟩ = some (.pointer x.sn)
theorem ItAt.of_block {w w' : World} {g o : Nat} {x : Im} (h : ItAt w g o x) (hb : w'.heap[g]? = w.heap[g]?) : ItAt w' g o x :=
  ⟨(World.cell?_of_block (a := ⟨g, o, none⟩) hb).trans h.c0, (World.cell?_of_block (a := ⟨g, o + 1, none⟩) hb).trans h.c1, (World.cell?_of_block (a := ⟨g, o + 2, none⟩) hb).trans h.c2, (World.cell?_of_block (a := ⟨g, o + 3, none⟩) hb).trans h.c3⟩
theorem ItAt.lt {w : World} {g o : Nat} {x : Im} (h : ItAt w g o x) : g < w.heap.size := World.block_lt_of_cell? w _ h.c0
/-- A row of items. -/
structure RowAt (w : World) (g off n : Nat) (X : Nat → Im) : Prop where
  at_ : ∀ k, k < n → ItAt w g (off + k * 4) (X k)
theorem RowAt.of_block {w w' : World} {g off n : Nat} {X : Nat → Im} (h : RowAt w g off n X) (hb : w'.heap[g]? = w.heap[g]?) : RowAt w' g off n X := ⟨fun k hk => (h.at_ k hk).of_block hb⟩
theorem RowAt.drewN {w : World} {g off n : Nat} {X : Nat → Im} (h : RowAt w g off n X) (q : Nat) : RowAt (w.drewN q) g off n X := h.of_block rfl
/-- Four cells set. -/
def setIt (w : World) (g o : Nat) (x : Im) : World := (((w.setCell ⟨g, o, none⟩ (.int .i64 x.wt)).setCell ⟨g, o + 1, none⟩ (.int .i64 x.sy)).setCell ⟨g, o + 2, none⟩ (.pointer x.fs)).setCell ⟨g, o + 3, none⟩ (.pointer x.sn)

theorem sc_same {w : World} {g o : Nat} {v : Value} {u : Value} (h : w.cell? ⟨g, o, none⟩ = some u) : (w.setCell ⟨g, o, none⟩ v).cell? ⟨g, o, none⟩ = some v := World.cell?_setCell_same _ _ _ h
theorem sc_other {w : World} {g o p : Nat} {v : Value} (h : o ≠ p) : (w.setCell ⟨g, o, none⟩ v).cell? ⟨g, p, none⟩ = w.cell? ⟨g, p, none⟩ := World.cell?_setCell_other _ _ _ _ (by intro e; cases e; exact h rfl)
theorem setIt_same {w : World} {g o : Nat} {x y : Im} (h : ItAt w g o y) : ItAt (setIt w g o x) g o x := by
  unfold setIt
  refine ⟨?_, ?_, ?_, ?_⟩
  · rw [sc_other (by omega), sc_other (by omega), sc_other (by omega)]; exact sc_same h.c0
  · rw [sc_other (by omega), sc_other (by omega)]; exact sc_same (by rw [sc_other (by omega)]; exact h.c1)
  · rw [sc_other (by omega)]; exact sc_same (by rw [sc_other (by omega), sc_other (by omega)]; exact h.c2)
  · exact sc_same (by rw [sc_other (by omega), sc_other (by omega), sc_other (by omega)]; exact h.c3)
theorem setIt_cell {w : World} {g o p : Nat} {x : Im} (h : p < o ∨ o + 4 ≤ p) : (setIt w g o x).cell? ⟨g, p, none⟩ = w.cell? ⟨g, p, none⟩ := by
  unfold setIt
  rw [sc_other (by omega), sc_other (by omega), sc_other (by omega), sc_other (by omega)]
theorem setIt_other {w : World} {g o p : Nat} {x y : Im} (h : p + 4 ≤ o ∨ o + 4 ≤ p) (hy : ItAt w g p y) : ItAt (setIt w g o x) g p y :=
  ⟨by rw [setIt_cell (by omega)]; exact hy.c0, by rw [setIt_cell (by omega)]; exact hy.c1, by rw [setIt_cell (by omega)]; exact hy.c2, by rw [setIt_cell (by omega)]; exact hy.c3⟩
theorem setIt_grown (w : World) (g o : Nat) (x : Im) : w.grownBy (setIt w g o x) (some g) := grownBy_set (grownBy_set (grownBy_set (grownBy_set (World.grownBy.refl _ _) _) _) _) _
def upd (X : Nat → Im) (i : Nat) (x : Im) : Nat → Im := fun k => if k = i then x else X k
theorem RowAt.set {w : World} {g off n i : Nat} {X : Nat → Im} (h : RowAt w g off n X) (hi : i < n) (x : Im) : RowAt (setIt w g (off + i * 4) x) g off n (upd X i x) := by
  refine ⟨fun k hk => ?_⟩
  unfold upd
  by_cases e : k = i
  · subst e; rw [if_pos rfl]; exact setIt_same (h.at_ k hk)
  · rw [if_neg e]; exact setIt_other (by omega) (h.at_ k hk)
def swI (X : Nat → Im) (i j : Nat) : Nat → Im := upd (upd X i (X j)) j (X i)
theorem swI_at (X : Nat → Im) (i j k : Nat) : swI X i j k = if k = j then X i else if k = i then X j else X k := rfl
theorem RowAt.swap {w : World} {g off n i j : Nat} {X : Nat → Im} (h : RowAt w g off n X) (hi : i < n) (hj : j < n) : RowAt (setIt (setIt w g (off + i * 4) (X j)) g (off + j * 4) (X i)) g off n (swI X i j) := (h.set hi _).set hj _
theorem free_set {w : World} {g : Nat} (hf : ∀ k, w.frozen? ⟨g, k, none⟩ = false) (o : Nat) (v : Value) : ∀ k, (w.setCell ⟨g, o, none⟩ v).frozen? ⟨g, k, none⟩ = false := by
  intro k
  rw [← hf k]
  simp
theorem free_setIt {w : World} {g : Nat} (hf : ∀ k, w.frozen? ⟨g, k, none⟩ = false) (o : Nat) (x : Im) : ∀ k, (setIt w g o x).frozen? ⟨g, k, none⟩ = false := free_set (free_set (free_set (free_set hf _ _) _ _) _ _) _ _

end Go.Proofs.YthcmebmohhajaaaDoor
