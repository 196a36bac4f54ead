import Derived.Test.YtmddnmpldmdllaaDoorPj
namespace Go.Proofs.YtmddnmpldmdllaaDoor
open Go.RowKit
set_option linter.unusedVariables false
set_option linter.unusedSimpArgs false

theorem ext_getD6 {A B : List Int} (h : A.length = B.length) (hi : ∀ i, i < A.length → A.getD i 0 = B.getD i 0) : A = B := by
  apply List.ext_getElem h
  intro i h1 h2
  have := hi i h1
  simpa [List.getD, h1, h2] using this
/-- Bytes that are told: those from D back on, round the row's end. -/
theorem Rnd.fill {S D k N r m : Nat} {L K Z : List Int} (h : Rnd S L K) (hS : 1 ≤ S) (hD : D ≤ heldN S L) (hk : k ≤ D) (hr : r = (L.length - D) % S) (hm : m = min k (S - r)) (hZ : Z.length = N) (hN : k ≤ N) :
    splice (splice Z 0 ((K.drop r).take m)) m (K.take (k - m)) = (L.drop (L.length - D)).take k ++ Z.drop k := by
  have hl := h.len
  have e1 : heldN S L ≤ L.length := by unfold heldN; omega
  have e2 : heldN S L ≤ S := by unfold heldN; omega
  have hrS : r < S := by rw [hr]; exact Nat.mod_lt _ hS
  have l1 : ((K.drop r).take m).length = m := by rw [List.length_take, List.length_drop]; omega
  have l2 : (K.take (k - m)).length = k - m := by rw [List.length_take]; omega
  have f1 : 0 + ((K.drop r).take m).length ≤ Z.length := by omega
  have l3 : (splice Z 0 ((K.drop r).take m)).length = N := by rw [length_splice _ _ _ f1, hZ]
  have f2 : m + (K.take (k - m)).length ≤ (splice Z 0 ((K.drop r).take m)).length := by omega
  have l4 : ((L.drop (L.length - D)).take k).length = k := by rw [List.length_take, List.length_drop]; omega
  apply ext_getD6
  · rw [length_splice _ _ _ f2, l3, List.length_append, l4, List.length_drop]; omega
  · intro i hi
    rw [length_splice _ _ _ f2, l3] at hi
    rw [splice_getD _ _ _ f2, splice_getD _ _ _ f1, l1, l2, getD_app6, l4]
    by_cases h1 : i < k
    · have hmod : (L.length - D + i) % S = (r + i) % S := by rw [hr, Nat.mod_add_mod]
      have hat := h.at_ (L.length - D + i) (by omega) (by omega)
      rw [if_pos h1, getD_take6 _ _ _ h1, getD_drop6, ← hat, hmod]
      by_cases h2 : i < m
      · rw [if_neg (by omega), if_pos (by omega), getD_take6 _ _ _ (by omega), getD_drop6, Nat.mod_eq_of_lt (by omega)]
        congr 1
      · rw [if_pos (by omega), getD_take6 _ _ _ (by omega), Nat.mod_eq_sub_mod (by omega), Nat.mod_eq_of_lt (by omega)]
        congr 1
        omega
    · rw [if_neg h1, if_neg (by omega), if_neg (by omega), getD_drop6]
      congr 1
      omega
/-- What fill has done. -/
def FillQ (w : World) (og k : Nat) (R : List Int) (e : Ending) (w' : World) : Prop := e = .returned (.int .i64 (k : Int)) ∧ w'.heap[og]? = some (.cells (R.map (Value.int .u8)).toArray 5 (0, 0)) ∧ Kp (fun x => x = og) w w'
set_option maxRecDepth 100000 in
set_option maxHeartbeats 4000000 in
theorem pfill {w : World} {b g S : Nat} {L K : List Int} (og N D : Nat) (Z : List Int) (h : RPk w b g S L K) (hZ : w.heap[og]? = some (.cells (Z.map (Value.int .u8)).toArray 5 (0, 0))) (hN : Hid (Z.length = N)) (hob : b ≠ og) (hog : g ≠ og) (hD : D ≤ heldN S L) (hl : L.length ≤ 140737488355328) (hNl : N ≤ 32768) :
    Calls Tryd.prog 73 #[.pointer (some ⟨b, 0, none⟩), .slice (some ⟨og, 0, none⟩) N N, .int .i64 (D : Int)] w (FillQ w og (min N D) ((L.drop (L.length - D)).take (min N D) ++ Z.drop (min N D))) := by
  have c0 := h.c0
  have c1 := h.c1
  have h1 := h.s1
  have h2 := h.s2
  have e1 : heldN S L ≤ L.length := by unfold heldN; omega
  have e2 : heldN S L ≤ S := by unfold heldN; omega
  have hbl := h.b_lt
  have hgl := h.g_lt
  have hol : og < w.heap.size := (Array.getElem?_eq_some_iff.1 hZ).1
  obtain ⟨k, hk⟩ : ∃ k, k = min N D := ⟨_, rfl⟩
  rw [← hk]
  obtain ⟨r, hr⟩ : ∃ r, r = (L.length - D) % S := ⟨_, rfl⟩
  have hrS : r < S := by rw [hr]; exact Nat.mod_lt _ h1
  obtain ⟨m, hm⟩ : ∃ m, m = min k (S - r) := ⟨_, rfl⟩
  have HR := h.rd.fill h1 hD (show k ≤ D by omega) hr hm hN.out (by omega)
  obtain ⟨q1, hq1⟩ : ∃ q1, q1 = (K.drop r).take m := ⟨_, rfl⟩
  obtain ⟨q2, hq2⟩ : ∃ q2, q2 = K.take (k - m) := ⟨_, rfl⟩
  rw [← hq1, ← hq2] at HR
  rw [← HR]
  have hlK := h.rd.len
  have HQ1 : Hid (q1.length = m) := by show _ = _; rw [hq1, List.length_take, List.length_drop]; omega
  have HQ2 : Hid (q2.length = k - m) := by show _ = _; rw [hq2, List.length_take]; omega
  have HM : Hid (m = Nat.min (S - r) k) := by show _ = _; rw [hm]; exact Nat.min_comm _ _
  have HM2 : Hid (k - m = Nat.min S (k - m)) := (Nat.min_eq_right (by omega)).symm
  have HFIT1 : Hid (0 + m ≤ Z.length) := by show _ ≤ _; rw [hN.out]; omega
  have HFIT2 : Hid (m + (k - m) ≤ (splice Z 0 q1).length) := by
    show _ ≤ _
    rw [length_splice _ _ _ (by rw [HQ1.out, hN.out]; omega), hN.out]; omega
  have sK := h.seg
  have HS1 : Hid (∀ W, Seg W (some ⟨g, 0, none⟩) K → Seg W (some ⟨g, r, none⟩) q1) := fun W hW => by
    rw [hq1]
    have := SegK.drop hW r
    rw [Nat.zero_add] at this
    exact SegK.take this m
  have HS2 : Hid (∀ W, Seg W (some ⟨g, 0, none⟩) K → Seg W (some ⟨g, 0, none⟩) q2) := fun W hW => by rw [hq2]; exact SegK.take hW _
  have HFR : Hid (∀ b' off', (some ⟨g, 0, none⟩ : Option Addr) = some ⟨b', off', none⟩ → 0 < K.length → ¬ b' = og) := by
    intro b' off' e _
    cases e
    exact hog
  have HP : Hid (∀ W, Below w.heap.size w W → Calls Tryd.prog 76 #[.pointer (some ⟨b, 0, none⟩), .int .i64 (D : Int)] W fun e w' => e = .returned (.int .i64 (r : Int)) ∧ Below w.heap.size w w') := fun W hW => by
    refine (pplace L.length D ((hW.cell (p := ⟨b, 0, none⟩) hbl).trans c0) ((hW.cell (p := ⟨b, 1, none⟩) hbl).trans c1) h1 h2 (by omega) hl).mono ?_
    rintro e w' ⟨rfl, hb⟩
    exact ⟨by rw [hr], hW.trans (hb.mono hW.size)⟩
  have HBD : Hid (Below w.heap.size w w.drew) := (Below.refl _ _).drew
  have HHP : Hid _ := h.hp
  have hri : (r : Int) < (S : Int) := by omega
  have hri0 : (0 : Int) ≤ (r : Int) := by omega
  have hri1 : (r : Int) ≤ (S : Int) := by omega
  have hSr : ¬ (S : Int) = (r : Int) := by omega
  have hSrN : ¬ S = r := by omega
  have hmi0 : (0 : Int) ≤ (m : Int) := by omega
  have hmi : (m : Int) ≤ (k : Int) := by omega
  have hmk : m ≤ k := by omega
  have hki : (k : Int) ≤ (N : Int) := by omega
  have hkN : k ≤ N := by omega
  have hk0 : (0 : Int) ≤ (k : Int) := by omega
  have hwk : IntKind.i64.wrap ((m : Int) + ((k - m : Nat) : Int)) = (k : Int) := by rw [IntWalk.i64_in _ (by omega)]; omega
  obtain ⟨j, hj⟩ : ∃ j, j = k - m := ⟨_, rfl⟩
  have HJ : Hid (k - m = j) := hj.symm
  rw [← hj] at hwk HQ2 HM2 HFIT2
  clear HR hq1 hq2 hr hlK e1 e2 hl hD c1 h
  by_cases hDN : D < N
  · obtain rfl : k = D := by omega
    have hDNi : (k : Int) < (N : Int) := by omega
    have hmN : ¬ N = m := by omega
    have hmNi : ¬ (N : Int) = (m : Int) := by omega
    clear hk hm hj
    go_enter Tryd.func73, Tryd.ntmps73
    go_wp2_with fail
    go_region_held3 (fun w' => w'.cell? ⟨b, 0, none⟩ = some (.slice (some ⟨g, 0, none⟩) S S))
      (first | go_keep | exact (bP.cell (p := ⟨b, 0, none⟩) hbl).trans c0 | exact c02)
      (first
        | (go_at_call 76; refine (HP.out _ (by exact HBD.out)).mono ?_; rintro e wP ⟨rfl, bP⟩; have hoP := (bP.block og hol).trans hZ; have sP := HS1.out _ (sK.old bP))
        | (refine step_copy6 rfl (.tmp 14) (.tmp 22) 22 22 rfl 5 Tryd.underlying22 size_u8r rfl rfl og 0 Z 5 hoP q1 _ HQ1.out HM.out (by first | exact fun _ => ⟨rfl, sP⟩ | exact fun _ => ⟨rfl, by rw [if_neg hSrN]; exact sP⟩) HFIT1.out ?_; intro w2 hg2 k2; have hp2 := k2.heap ((bP.block b hbl).trans HHP.out) hob; have c02 := two_cell0 hp2; have s2 := HS2.out _ ((sK.old bP).kp k2 HFR.out)))
    go_wp2_with fail
    go_region_held3 (fun w' => w'.cell? ⟨b, 0, none⟩ = some (.slice (some ⟨g, 0, none⟩) S S))
      (first | go_keep | exact c02 | exact c04)
      (first
        | (refine step_copy6 rfl (.tmp 27) (.tmp 31) 22 22 rfl 5 Tryd.underlying22 size_u8r rfl rfl og _ (splice Z 0 q1) 5 (by exact hg2.out) q2 _ HQ2.out (by first | exact HM2.out | (rw [HJ.out]; exact HM2.out)) (by first | exact fun hp => (HZ2.out hp).elim | exact fun _ => ⟨rfl, s2.drew⟩ | exact fun _ => ⟨if_neg hmN, s2.drew⟩ | exact fun _ => ⟨by simp [hmN], s2.drew⟩) HFIT2.out ?_; intro w4 hg4 k4; have hp4 := k4.heap (show w2.drew.heap[b]? = _ from hp2) hob; have c04 := two_cell0 hp4))
    all_goals
      go_wp2_with fail
      go_ret
      have a2 : Kp (fun x => x = og) w wP := Kp.of_below bP
      have a4 : Kp (fun x => x = og) w2 w4 := ⟨k4.os, k4.tape, k4.output, k4.size, k4.block⟩
      exact ⟨rfl, hg4.out, (a2.trans k2 (fun _ _ e => e)).trans a4 (fun _ _ e => e)⟩
  · obtain rfl : k = N := by omega
    have hDNi : ¬ (D : Int) < (k : Int) := by omega
    by_cases hmN : k = m
    · have HZ2 : Hid (0 < q2.length → False) := by show _ → _; rw [HQ2.out]; omega
      obtain rfl : j = 0 := by omega
      have hwk0 : IntKind.i64.wrap (k : Int) = (k : Int) := IntWalk.i64_in _ (by omega)
      subst hmN
      clear hk hm hj hwk
      go_enter Tryd.func73, Tryd.ntmps73
      go_wp2_with fail
      go_region_held3 (fun w' => w'.cell? ⟨b, 0, none⟩ = some (.slice (some ⟨g, 0, none⟩) S S))
        (first | go_keep | exact (bP.cell (p := ⟨b, 0, none⟩) hbl).trans c0 | exact c02)
        (first
          | (go_at_call 76; refine (HP.out _ (by exact HBD.out)).mono ?_; rintro e wP ⟨rfl, bP⟩; have hoP := (bP.block og hol).trans hZ; have sP := HS1.out _ (sK.old bP))
          | (refine step_copy6 rfl (.tmp 14) (.tmp 22) 22 22 rfl 5 Tryd.underlying22 size_u8r rfl rfl og 0 Z 5 hoP q1 _ HQ1.out HM.out (by first | exact fun _ => ⟨rfl, sP⟩ | exact fun _ => ⟨rfl, by rw [if_neg hSrN]; exact sP⟩) HFIT1.out ?_; intro w2 hg2 k2; have hp2 := k2.heap ((bP.block b hbl).trans HHP.out) hob; have c02 := two_cell0 hp2; have s2 := HS2.out _ ((sK.old bP).kp k2 HFR.out)))
      go_wp2_with fail
      go_region_held3 (fun w' => w'.cell? ⟨b, 0, none⟩ = some (.slice (some ⟨g, 0, none⟩) S S))
        (first | go_keep | exact c02 | exact c04)
        (first
          | (refine step_copy6 rfl (.tmp 27) (.tmp 31) 22 22 rfl 5 Tryd.underlying22 size_u8r rfl rfl og _ (splice Z 0 q1) 5 (by exact hg2.out) q2 _ HQ2.out (by first | exact HM2.out | (rw [HJ.out]; exact HM2.out)) (by first | exact fun hp => (HZ2.out hp).elim | exact fun _ => ⟨rfl, s2.drew⟩ | exact fun _ => ⟨if_neg hmN, s2.drew⟩ | exact fun _ => ⟨by simp [hmN], s2.drew⟩) HFIT2.out ?_; intro w4 hg4 k4; have hp4 := k4.heap (show w2.drew.heap[b]? = _ from hp2) hob; have c04 := two_cell0 hp4))
      all_goals
        go_wp2_with fail
        go_ret
        have a2 : Kp (fun x => x = og) w wP := Kp.of_below bP
        have a4 : Kp (fun x => x = og) w2 w4 := ⟨k4.os, k4.tape, k4.output, k4.size, k4.block⟩
        exact ⟨rfl, hg4.out, (a2.trans k2 (fun _ _ e => e)).trans a4 (fun _ _ e => e)⟩
    · have hmNi : ¬ (k : Int) = (m : Int) := by omega
      clear hk hm hj
      go_enter Tryd.func73, Tryd.ntmps73
      go_wp2_with fail
      go_region_held3 (fun w' => w'.cell? ⟨b, 0, none⟩ = some (.slice (some ⟨g, 0, none⟩) S S))
        (first | go_keep | exact (bP.cell (p := ⟨b, 0, none⟩) hbl).trans c0 | exact c02)
        (first
          | (go_at_call 76; refine (HP.out _ (by exact HBD.out)).mono ?_; rintro e wP ⟨rfl, bP⟩; have hoP := (bP.block og hol).trans hZ; have sP := HS1.out _ (sK.old bP))
          | (refine step_copy6 rfl (.tmp 14) (.tmp 22) 22 22 rfl 5 Tryd.underlying22 size_u8r rfl rfl og 0 Z 5 hoP q1 _ HQ1.out HM.out (by first | exact fun _ => ⟨rfl, sP⟩ | exact fun _ => ⟨rfl, by rw [if_neg hSrN]; exact sP⟩) HFIT1.out ?_; intro w2 hg2 k2; have hp2 := k2.heap ((bP.block b hbl).trans HHP.out) hob; have c02 := two_cell0 hp2; have s2 := HS2.out _ ((sK.old bP).kp k2 HFR.out)))
      go_wp2_with fail
      go_region_held3 (fun w' => w'.cell? ⟨b, 0, none⟩ = some (.slice (some ⟨g, 0, none⟩) S S))
        (first | go_keep | exact c02 | exact c04)
        (first
          | (refine step_copy6 rfl (.tmp 27) (.tmp 31) 22 22 rfl 5 Tryd.underlying22 size_u8r rfl rfl og _ (splice Z 0 q1) 5 (by exact hg2.out) q2 _ HQ2.out (by first | exact HM2.out | (rw [HJ.out]; exact HM2.out)) (by first | exact fun hp => (HZ2.out hp).elim | exact fun _ => ⟨rfl, s2.drew⟩ | exact fun _ => ⟨if_neg hmN, s2.drew⟩ | exact fun _ => ⟨by simp [hmN], s2.drew⟩) HFIT2.out ?_; intro w4 hg4 k4; have hp4 := k4.heap (show w2.drew.heap[b]? = _ from hp2) hob; have c04 := two_cell0 hp4))
      all_goals
        go_wp2_with fail
        go_ret
        have a2 : Kp (fun x => x = og) w wP := Kp.of_below bP
        have a4 : Kp (fun x => x = og) w2 w4 := ⟨k4.os, k4.tape, k4.output, k4.size, k4.block⟩
        exact ⟨rfl, hg4.out, (a2.trans k2 (fun _ _ e => e)).trans a4 (fun _ _ e => e)⟩
end Go.Proofs.YtmddnmpldmdllaaDoor

namespace Go.Proofs.YtmddnmpldmdllaaDoor
open Go.RowKit
set_option linter.unusedVariables false
set_option linter.unusedSimpArgs false
set_option maxRecDepth 100000
variable {w w' : World} {b g S : Nat} {F Q : Nat → Prop} {L K : List Int}

theorem own_heap6 {w : World} {base o N : Nat} {R : List Int} (hg : w.heap[o]? = some (.cells (R.map (Value.int .u8)).toArray 5 (0, 0))) (hR : R.length = N) (hb : base ≤ o) (hN : N ≤ 140737488355328) :
    w.ownsRow base 5 1 (.slice (some ⟨o, 0, none⟩) N N) N (R.map (Value.int .u8)) := by
  refine ⟨by simp [hR], .inr ⟨o, N, _, rfl, hb, hg, Nat.le_refl _, by unfold maxLen; omega, by simp [hR], ?_⟩⟩
  simp only [List.toList_toArray]
  exact List.take_of_length_le (by simp [hR])
theorem seg_heap6 {w : World} {o : Nat} {R : List Int} {t : TypeId} (hg : w.heap[o]? = some (.cells (R.map (Value.int .u8)).toArray t (0, 0))) (hb : ∀ z ∈ R, 0 ≤ z ∧ z ≤ 255) : Seg w (some ⟨o, 0, none⟩) R := by
  refine ⟨fun i hi => ⟨o, 0, rfl, ?_⟩, by decide, getD_bd (by decide) hb⟩
  rw [Nat.zero_add]
  simp [World.cell?, hg, List.getD, hi]
/-! Last. -/
/-- What Last has done. -/
def LastQ (w : World) (N : Nat) (R : List Int) (e : Ending) (w' : World) : Prop := e = .returned (.tuple #[.slice (some ⟨w.heap.size, 0, none⟩) N N, .int .i64 0]) ∧ w'.ownsRow w.heap.size 5 1 (.slice (some ⟨w.heap.size, 0, none⟩) N N) N (R.map (Value.int .u8)) ∧ Below w.heap.size w w'
theorem run_clear6 {w : World} (ty : TypeId) (X : List Int) (n : Nat) (hX : X.length = n) (hn : 0 < n) (hg : w.heap[g]? = some (.cells (X.map (Value.int .u8)).toArray 5 (0, 0))) :
    (Builtin.clear_ #[22] ty #[.slice (some ⟨g, 0, none⟩) n n]).run Tryd.prog w = .ok (.tuple #[]) (w.setRow g ((List.replicate n (0 : Int)).map (Value.int .u8)).toArray) := by
  obtain ⟨i0, hi, hz0, hz1, hz2⟩ := info_parts info_u8r
  have hv : ∀ w, (zeroValue 5).run Tryd.prog w = .ok (.int .u8 0) w := fun w => by simp [zeroValue, typeInfo, hi, hz0]
  have hc : ∀ j, j < n → (w.cell? ⟨g, 0 + j, none⟩).isSome = true := fun j hj => by
    rw [Nat.zero_add]
    simp [World.cell?, hg, show j < X.length by omega]
  have hf : ∀ j, j < n → w.frozen? ⟨g, 0 + j, none⟩ = false := fun j _ => two_free6 hg _
  have e1 := Lib.run_clear_slice (P := Tryd.prog) w 22 5 ty (.int .u8 0) Tryd.underlying22 hv rfl rfl g 0 n n hn hc hf
  rw [e1]
  have e2 := run_storeCells_cells (P := Tryd.prog) g 0 (List.replicate n (Value.int .u8 0)) 0 w (by simpa using hc) (by simpa using hf) (by intro v hv'; rw [List.eq_of_mem_replicate hv']; rfl)
  have e3 := run_storeCells_at Tryd.prog g 0 5 (List.replicate n (Value.int .u8 0)) 0 _ w hg (by simp [hX]) (by intro v hv'; rw [List.eq_of_mem_replicate hv']; rfl)
  rw [e2] at e3
  simp only [Result.ok.injEq, true_and] at e3
  rw [e3]
  congr 2
  have hd : List.drop n (List.map (Value.int IntKind.u8) X) = [] := List.drop_of_length_le (by simp [hX])
  simp [hd]
set_option maxRecDepth 100000 in
set_option maxHeartbeats 1000000 in
theorem preset_k (h : RPk w b g S L K) : Calls Tryd.prog 21 #[.pointer (some ⟨b, 0, none⟩)] w fun e w' => e = .returned (.tuple #[]) ∧ RPk w' b g S [] (List.replicate S 0) ∧ Kp (FP b g) w w' := by
  have CM := pmade h
  have c0 := h.c0
  have hne := h.ne
  have h1 := h.s1
  have h2 := h.s2
  have hcl := fun ty => run_clear6 (g := g) ty K S h.rd.len h1 h.hk
  obtain ⟨wC, hwC⟩ : ∃ wC, wC = w.setRow g ((List.replicate S (0 : Int)).map (Value.int .u8)).toArray := ⟨_, rfl⟩
  rw [← hwC] at hcl
  have kC : Kp (fun x => x = g) w wC := by rw [hwC]; exact Kp.setRow (Q := fun x => x = g) rfl _ _
  have hgC : wC.heap[g]? = some (.cells ((List.replicate S (0 : Int)).map (Value.int .u8)).toArray 5 (0, 0)) := by rw [hwC]; exact setRow_heap w g _ _ _ _ h.hk
  have hbC := kC.heap h.hp hne
  have c1C := two_cell1 hbC
  have f1C := two_free hbC 1
  have HB : Hid _ := hbC
  have HG : Hid _ := hgC
  clear hwC h hbC hgC
  go_enter Tryd.func21, Tryd.ntmps21
  go_wp2_with fail
  refine CM.mono ?_
  rintro e w1 ⟨rfl, rfl⟩
  go_wp2_with fail
  go_end0
  have k5 : Kp (fun x => x = b) wC (wC.setCell ⟨b, 1, none⟩ (.int .i64 0)) := Kp.set (S := fun x => x = b) rfl _
  refine ⟨rfl, ⟨two_set1 HB.out _, k5.heap HG.out (fun e => hne e.symm), ⟨by simp, noughts_bd6 S, by simp⟩, hne, by simp, h1, h2⟩, (kC.mono (S' := FP b g) (fun _ _ e => .inr e)).trans k5 (fun _ _ e => .inl e)⟩
end Go.Proofs.YtmddnmpldmdllaaDoor
