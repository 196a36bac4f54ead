import Derived.Test.YtmddnmpldmdllaaDoorPi
namespace Go.Proofs.YtmddnmpldmdllaaDoor
open Go.RowKit
set_option linter.unusedVariables false
set_option linter.unusedSimpArgs false
theorem size_u8r : (Tryd.prog.info? 5).map (·.size) = some 1 := by kernel_rfl
theorem two_free6 {w : World} {b : Nat} {cs : Array Value} {t : TypeId} (h : w.heap[b]? = some (.cells cs t (0, 0))) (i : Nat) : w.frozen? ⟨b, i, none⟩ = false := by simp [World.frozen?, h]
/-- What Put has done. -/
def PutQ (w : World) (b g S : Nat) (L p : List Int) (e : Ending) (w' : World) : Prop := e = .returned (.int .i64 0) ∧ ∃ K', RPk w' b g S (L ++ p) K' ∧ Kp (FP b g) w w'
set_option maxRecDepth 100000 in
set_option maxHeartbeats 4000000 in
theorem pput_k {w : World} {b g S : Nat} {L K : List Int} (pa : Option Addr) (p : List Int) (np pc : Nat) (hnp : Hid (p.length = np)) (h : RPk w b g S L K) (hs : Seg w pa p) (hcap : np ≤ pc) (hnil : pa = none → pc = 0) (hfar : ∀ x off, pa = some ⟨x, off, none⟩ → 0 < p.length → x ≠ b ∧ x ≠ g) (hl : L.length + np ≤ 140737488355328) :
    Calls Tryd.prog 63 #[.pointer (some ⟨b, 0, none⟩), .slice pa np pc] w (PutQ w b g S L p) := by
  have CM := pmade h
  have c0 := h.c0
  have c1 := h.c1
  have f1 := two_free6 h.hp 1
  have h1 := h.s1
  have h2 := h.s2
  have hne := h.ne
  obtain ⟨n, hn⟩ : ∃ n, n = L.length := ⟨_, rfl⟩
  have HN : Hid (L.length = n) := hn.symm
  rw [← hn] at c1 hl
  clear hn
  obtain ⟨tt, htt⟩ : ∃ tt, tt = n + np := ⟨_, rfl⟩
  have HTT : Hid (tt = n + np) := htt
  -- the world in which the total is told
  obtain ⟨wS, hwS⟩ : ∃ wS, wS = w.setCell ⟨b, 1, none⟩ (.int .i64 (tt : Int)) := ⟨_, rfl⟩
  have HWS : Hid (wS = w.setCell ⟨b, 1, none⟩ (.int .i64 (tt : Int))) := hwS
  have kS : Kp (fun k => k = b) w wS := by rw [hwS]; exact Kp.set (S := fun k => k = b) rfl _
  have hbS : wS.heap[b]? = some (.cells #[.slice (some ⟨g, 0, none⟩) S S, .int .i64 (tt : Int)] 39 (0, 0)) := by rw [hwS]; exact two_set1 h.hp _
  have hgS : wS.heap[g]? = some (.cells (K.map (Value.int .u8)).toArray 5 (0, 0)) := kS.heap h.hk (fun e => hne e.symm)
  have c0S : wS.cell? ⟨b, 0, none⟩ = some (.slice (some ⟨g, 0, none⟩) S S) := two_cell0 hbS
  have c1S : wS.cell? ⟨b, 1, none⟩ = some (.int .i64 (tt : Int)) := two_cell1 hbS
  have hbl : b < wS.heap.size := (Array.getElem?_eq_some_iff.1 hbS).1
  have hgl : g < wS.heap.size := (Array.getElem?_eq_some_iff.1 hgS).1
  have sS : Seg wS pa p := hs.kp kS (fun x off e hl => (hfar x off e hl).1)
  have HK : Hid (RPk w b g S L K) := h
  have HPb : Hid (∀ z ∈ p, 0 ≤ z ∧ z ≤ 255) := hs.mem
  have hwt : IntKind.i64.wrap ((n : Int) + (np : Int)) = (tt : Int) := by rw [IntWalk.i64_in _ (by omega)]; omega
  have hwd : IntKind.i64.wrap ((np : Int) - (S : Int)) = (np : Int) - (S : Int) := IntWalk.i64_in _ (by omega)
  have HKL : Hid (K.length = S) := h.rd.len
  clear hwS h hs
  -- what is left of the bytes
  obtain ⟨q, hq⟩ : ∃ q, q = p.drop (np - S) := ⟨_, rfl⟩
  obtain ⟨nq, hnq⟩ : ∃ nq, nq = min np S := ⟨_, rfl⟩
  have HQL : Hid (q.length = nq) := by show _ = _; rw [hq, List.length_drop, hnp.out]; omega
  obtain ⟨r, hr⟩ : ∃ r, r = (tt - nq) % S := ⟨_, rfl⟩
  have hrS : r < S := by rw [hr]; exact Nat.mod_lt _ h1
  obtain ⟨m, hm⟩ : ∃ m, m = min nq (S - r) := ⟨_, rfl⟩
  have HR : Hid (Rnd S (L ++ p) (splice (splice K r (q.take m)) 0 (q.drop m))) := by
    refine (show RPk w b g S L K from HK.out).rd.put h1 HPb.out ?_ ?_ ?_
    · rw [hnp.out]; exact hq
    · rw [HN.out, hnp.out, HQL.out, ← htt]; exact hr
    · rw [HQL.out]; exact hm
  obtain ⟨q1, hq1⟩ : ∃ q1, q1 = q.take m := ⟨_, rfl⟩
  obtain ⟨q2, hq2⟩ : ∃ q2, q2 = q.drop m := ⟨_, rfl⟩
  rw [← hq1, ← hq2] at HR
  have HQ1 : Hid (q1.length = m) := by show _ = _; rw [hq1, List.length_take, HQL.out]; omega
  have HQ2 : Hid (q2.length = nq - m) := by show _ = _; rw [hq2, List.length_drop, HQL.out]
  have HM : Hid (m = min nq (S - r)) := hm
  have HP : Hid (∀ W, Below wS.heap.size wS W → Calls Tryd.prog 76 #[.pointer (some ⟨b, 0, none⟩), .int .i64 (nq : Int)] W fun e w' => e = .returned (.int .i64 (r : Int)) ∧ Below wS.heap.size wS w') := fun W hW => by
    refine (pplace tt nq ((hW.cell (p := ⟨b, 0, none⟩) hbl).trans c0S) ((hW.cell (p := ⟨b, 1, none⟩) hbl).trans c1S) h1 h2 (by omega) (by omega)).mono ?_
    rintro e w' ⟨rfl, hb⟩
    exact ⟨by rw [hr], hW.trans (hb.mono hW.size)⟩
  have HBD : Hid (Below wS.heap.size wS wS.drew) := (Below.refl _ _).drew
  have hri : (r : Int) < (S : Int) := by omega
  have hri0 : (0 : Int) ≤ (r : Int) := by omega
  have hri1 : (r : Int) ≤ (S : Int) := by omega
  have hmi0 : (0 : Int) ≤ (m : Int) := by omega
  have hmi : (m : Int) ≤ (nq : Int) := by omega
  have hSr : ¬ (S : Int) = (r : Int) := by omega
  have hSrN : ¬ S = r := by omega
  have hnqS : nq ≤ S := by omega
  have hmn : m ≤ nq := by omega
  have hmS : r + m ≤ S := by omega
  have HEND : Hid (∀ w4, w4.heap[b]? = some (.cells #[.slice (some ⟨g, 0, none⟩) S S, .int .i64 (tt : Int)] 39 (0, 0)) → w4.heap[g]? = some (.cells ((splice (splice K r q1) 0 q2).map (Value.int .u8)).toArray 5 (0, 0)) → RPk w4 b g S (L ++ p) (splice (splice K r q1) 0 q2)) := fun w4 ha hb => by
    refine ⟨?_, hb, HR.out, hne, ?_, h1, h2⟩
    · rw [List.length_append, HN.out, hnp.out, ← htt]; exact ha
    · intro z hz
      rcases List.mem_append.1 hz with hz | hz
      · exact (show RPk w b g S L K from HK.out).bd z hz
      · exact HPb.out z hz
  have HFIT1 : Hid (r + m ≤ K.length) := by show _ ≤ _; rw [HKL.out]; exact hmS
  have HFIT2 : Hid (0 + (nq - m) ≤ (splice K r q1).length) := by
    show _ ≤ _
    rw [length_splice _ _ _ (by rw [HQ1.out, HKL.out]; exact hmS), HKL.out]; omega
  clear HK HKL HPb HR
  by_cases hp0 : np = 0
  · have hnq0 : nq = 0 := by omega
    have hm0 : m = 0 := by omega
    have HZ1 : Hid (0 < q1.length → False) := by show _ → _; rw [HQ1.out, hm0]; omega
    have HZ2 : Hid (0 < q2.length → False) := by show _ → _; rw [HQ2.out, hnq0]; omega
    subst hp0 hnq0 hm0
    obtain rfl : tt = n := by omega
    have HM2 : Hid (0 - 0 = Nat.min 0 S) := by show _ = _; simp
    clear sS hq1 hq2 hq hnq hr hm hfar hwd hwt htt
    by_cases hpc : pc = 0
    · subst hpc
      clear hnil
      cases pa with
      | none =>
        go_enter Tryd.func63, Tryd.ntmps63
        go_wp2_with fail
        refine CM.mono ?_
        rintro e w1 ⟨rfl, rfl⟩
        go_wp2_with fail
        rw [← HWS.out]
        go_region_held3 (fun w' => w'.cell? ⟨b, 0, none⟩ = some (.slice (some ⟨g, 0, none⟩) S S))
          (first | go_keep | exact (bP.cell (p := ⟨b, 0, none⟩) hbl).trans c0S | exact c02)
          (first
            | (go_at_call 76; refine (HP.out _ (by exact HBD.out)).mono ?_; rintro e wP ⟨rfl, bP⟩; have hgP := (bP.block g hgl).trans hgS; first | (have sP := HS1.out _ (sQ.old bP)) | skip)
            | (refine step_copy6 rfl (.tmp 37) (.tmp 38) 22 22 rfl 5 Tryd.underlying22 size_u8r rfl rfl g r K 5 hgP q1 _ HQ1.out HM.out (by first | exact fun hp => (HZ1.out hp).elim | exact fun _ => ⟨rfl, sP⟩ | exact fun _ => ⟨if_neg hSrN, sP⟩) HFIT1.out ?_; intro w2 hg2 k2; have hp2 := k2.heap ((bP.block b hbl).trans hbS) hne; have c02 := two_cell0 hp2; first | (have s2 := HS2.out _ ((sQ.old bP).kp k2 HFR.out)) | skip))
        go_wp2_with fail
        go_region_held3 (fun w' => w'.cell? ⟨b, 0, none⟩ = some (.slice (some ⟨g, 0, none⟩) S S))
          (first | go_keep | exact c02 | exact c04)
          (first
            | (refine step_copy6 rfl (.tmp 43) (.tmp 46) 22 22 rfl 5 Tryd.underlying22 size_u8r rfl rfl g 0 (splice K r q1) 5 (by exact hg2.out) q2 _ HQ2.out HM2.out (by first | exact fun hp => (HZ2.out hp).elim | exact fun _ => ⟨rfl, s2.drew⟩ | exact fun _ => ⟨rfl, by rw [if_neg hmq]; exact s2.drew⟩) HFIT2.out ?_; intro w4 hg4 k4; have hp4 := k4.heap (show w2.drew.heap[b]? = _ from hp2) hne; have c04 := two_cell0 hp4))
        all_goals
          go_wp2_with fail
          go_ret
          have a1 : Kp (FP b g) w1 wS := kS.mono (fun i _ e => .inl e)
          have a2 : Kp (FP b g) wS wP := Kp.of_below bP
          have a3 : Kp (FP b g) wP w2 := k2.mono (fun i _ e => .inr e)
          have a4 : Kp (FP b g) w2 w4 := by
            have := k4.mono (S' := FP b g) (fun i _ e => .inr e)
            exact ⟨this.os, this.tape, this.output, this.size, this.block⟩
          exact ⟨rfl, _, HEND.out w4 hp4 hg4.out, ((a1.trans a2 (fun _ _ e => e)).trans a3 (fun _ _ e => e)).trans a4 (fun _ _ e => e)⟩
      | some ad =>
        go_enter Tryd.func63, Tryd.ntmps63
        go_wp2_with fail
        refine CM.mono ?_
        rintro e w1 ⟨rfl, rfl⟩
        go_wp2_with fail
        rw [← HWS.out]
        go_region_held3 (fun w' => w'.cell? ⟨b, 0, none⟩ = some (.slice (some ⟨g, 0, none⟩) S S))
          (first | go_keep | exact (bP.cell (p := ⟨b, 0, none⟩) hbl).trans c0S | exact c02)
          (first
            | (go_at_call 76; refine (HP.out _ (by exact HBD.out)).mono ?_; rintro e wP ⟨rfl, bP⟩; have hgP := (bP.block g hgl).trans hgS; first | (have sP := HS1.out _ (sQ.old bP)) | skip)
            | (refine step_copy6 rfl (.tmp 37) (.tmp 38) 22 22 rfl 5 Tryd.underlying22 size_u8r rfl rfl g r K 5 hgP q1 _ HQ1.out HM.out (by first | exact fun hp => (HZ1.out hp).elim | exact fun _ => ⟨rfl, sP⟩ | exact fun _ => ⟨if_neg hSrN, sP⟩) HFIT1.out ?_; intro w2 hg2 k2; have hp2 := k2.heap ((bP.block b hbl).trans hbS) hne; have c02 := two_cell0 hp2; first | (have s2 := HS2.out _ ((sQ.old bP).kp k2 HFR.out)) | skip))
        go_wp2_with fail
        go_region_held3 (fun w' => w'.cell? ⟨b, 0, none⟩ = some (.slice (some ⟨g, 0, none⟩) S S))
          (first | go_keep | exact c02 | exact c04)
          (first
            | (refine step_copy6 rfl (.tmp 43) (.tmp 46) 22 22 rfl 5 Tryd.underlying22 size_u8r rfl rfl g 0 (splice K r q1) 5 (by exact hg2.out) q2 _ HQ2.out HM2.out (by first | exact fun hp => (HZ2.out hp).elim | exact fun _ => ⟨rfl, s2.drew⟩ | exact fun _ => ⟨rfl, by rw [if_neg hmq]; exact s2.drew⟩) HFIT2.out ?_; intro w4 hg4 k4; have hp4 := k4.heap (show w2.drew.heap[b]? = _ from hp2) hne; have c04 := two_cell0 hp4))
        all_goals
          go_wp2_with fail
          go_ret
          have a1 : Kp (FP b g) w1 wS := kS.mono (fun i _ e => .inl e)
          have a2 : Kp (FP b g) wS wP := Kp.of_below bP
          have a3 : Kp (FP b g) wP w2 := k2.mono (fun i _ e => .inr e)
          have a4 : Kp (FP b g) w2 w4 := by
            have := k4.mono (S' := FP b g) (fun i _ e => .inr e)
            exact ⟨this.os, this.tape, this.output, this.size, this.block⟩
          exact ⟨rfl, _, HEND.out w4 hp4 hg4.out, ((a1.trans a2 (fun _ _ e => e)).trans a3 (fun _ _ e => e)).trans a4 (fun _ _ e => e)⟩
    · have hpci : ¬ (pc : Int) = 0 := by omega
      cases pa with
      | none => exact absurd (hnil rfl) hpc
      | some ad =>
        clear hnil
        go_enter Tryd.func63, Tryd.ntmps63
        go_wp2_with fail
        refine CM.mono ?_
        rintro e w1 ⟨rfl, rfl⟩
        go_wp2_with fail
        rw [← HWS.out]
        go_region_held3 (fun w' => w'.cell? ⟨b, 0, none⟩ = some (.slice (some ⟨g, 0, none⟩) S S))
          (first | go_keep | exact (bP.cell (p := ⟨b, 0, none⟩) hbl).trans c0S | exact c02)
          (first
            | (go_at_call 76; refine (HP.out _ (by exact HBD.out)).mono ?_; rintro e wP ⟨rfl, bP⟩; have hgP := (bP.block g hgl).trans hgS; first | (have sP := HS1.out _ (sQ.old bP)) | skip)
            | (refine step_copy6 rfl (.tmp 37) (.tmp 38) 22 22 rfl 5 Tryd.underlying22 size_u8r rfl rfl g r K 5 hgP q1 _ HQ1.out HM.out (by first | exact fun hp => (HZ1.out hp).elim | exact fun _ => ⟨rfl, sP⟩ | exact fun _ => ⟨if_neg hSrN, sP⟩) HFIT1.out ?_; intro w2 hg2 k2; have hp2 := k2.heap ((bP.block b hbl).trans hbS) hne; have c02 := two_cell0 hp2; first | (have s2 := HS2.out _ ((sQ.old bP).kp k2 HFR.out)) | skip))
        go_wp2_with fail
        go_region_held3 (fun w' => w'.cell? ⟨b, 0, none⟩ = some (.slice (some ⟨g, 0, none⟩) S S))
          (first | go_keep | exact c02 | exact c04)
          (first
            | (refine step_copy6 rfl (.tmp 43) (.tmp 46) 22 22 rfl 5 Tryd.underlying22 size_u8r rfl rfl g 0 (splice K r q1) 5 (by exact hg2.out) q2 _ HQ2.out HM2.out (by first | exact fun hp => (HZ2.out hp).elim | exact fun _ => ⟨rfl, s2.drew⟩ | exact fun _ => ⟨rfl, by rw [if_neg hmq]; exact s2.drew⟩) HFIT2.out ?_; intro w4 hg4 k4; have hp4 := k4.heap (show w2.drew.heap[b]? = _ from hp2) hne; have c04 := two_cell0 hp4))
        all_goals
          go_wp2_with fail
          go_ret
          have a1 : Kp (FP b g) w1 wS := kS.mono (fun i _ e => .inl e)
          have a2 : Kp (FP b g) wS wP := Kp.of_below bP
          have a3 : Kp (FP b g) wP w2 := k2.mono (fun i _ e => .inr e)
          have a4 : Kp (FP b g) w2 w4 := by
            have := k4.mono (S' := FP b g) (fun i _ e => .inr e)
            exact ⟨this.os, this.tape, this.output, this.size, this.block⟩
          exact ⟨rfl, _, HEND.out w4 hp4 hg4.out, ((a1.trans a2 (fun _ _ e => e)).trans a3 (fun _ _ e => e)).trans a4 (fun _ _ e => e)⟩
  · obtain ⟨x, off, rfl, _⟩ := sS.at_ 0 (by rw [hnp.out]; omega)
    obtain ⟨hx1, hx2⟩ := hfar x off rfl (by rw [hnp.out]; omega)
    have hxf : ∀ o1 : Nat, ∀ b' off', (some ⟨x, o1, none⟩ : Option Addr) = some ⟨b', off', none⟩ → 0 < q.length → ¬ b' = g := by
      intro o1 b' off' e _
      cases e
      exact hx2
    clear hfar hnil
    by_cases hle : np ≤ S
    · have hnqp : nq = np := by omega
      have hqp : q = p := by rw [hq, show np - S = 0 by omega]; rfl
      subst hnqp
      have sQ : Seg wS (some ⟨x, off, none⟩) q := by rw [hqp]; exact sS
      have HS1 : Hid (∀ W, Seg W (some ⟨x, off, none⟩) q → Seg W (some ⟨x, off, none⟩) q1) := fun W hW => by rw [hq1]; exact SegK.take hW _
      have HS2 : Hid (∀ W, Seg W (some ⟨x, off, none⟩) q → Seg W (some ⟨x, off + m, none⟩) q2) := fun W hW => by rw [hq2]; exact SegK.drop hW _
      have HFR : Hid _ := hxf off
      have hgt : ¬ (nq : Int) - (S : Int) > 0 := by omega
      have hcapi : (nq : Int) ≤ (pc : Int) := by omega
      have hpci : ¬ (pc : Int) = 0 := by omega
      have HM2 : Hid (nq - m = Nat.min (nq - m) S) := (Nat.min_eq_left (by omega)).symm
      clear sS hq1 hq2 hq hnq hr hm hxf hle hx2 hp0 hqp htt
      by_cases hmq : pc = m
      · have HZ2 : Hid (0 < q2.length → False) := by show _ → _; rw [HQ2.out]; omega
        have hmqi : (pc : Int) = (m : Int) := by omega
        go_enter Tryd.func63, Tryd.ntmps63
        go_wp2_with fail
        refine CM.mono ?_
        rintro e w1 ⟨rfl, rfl⟩
        go_wp2_with fail
        rw [← HWS.out]
        go_region_held3 (fun w' => w'.cell? ⟨b, 0, none⟩ = some (.slice (some ⟨g, 0, none⟩) S S))
          (first | go_keep | exact (bP.cell (p := ⟨b, 0, none⟩) hbl).trans c0S | exact c02)
          (first
            | (go_at_call 76; refine (HP.out _ (by exact HBD.out)).mono ?_; rintro e wP ⟨rfl, bP⟩; have hgP := (bP.block g hgl).trans hgS; first | (have sP := HS1.out _ (sQ.old bP)) | skip)
            | (refine step_copy6 rfl (.tmp 37) (.tmp 38) 22 22 rfl 5 Tryd.underlying22 size_u8r rfl rfl g r K 5 hgP q1 _ HQ1.out HM.out (by first | exact fun hp => (HZ1.out hp).elim | exact fun _ => ⟨rfl, sP⟩ | exact fun _ => ⟨if_neg hSrN, sP⟩) HFIT1.out ?_; intro w2 hg2 k2; have hp2 := k2.heap ((bP.block b hbl).trans hbS) hne; have c02 := two_cell0 hp2; first | (have s2 := HS2.out _ ((sQ.old bP).kp k2 HFR.out)) | skip))
        go_wp2_with fail
        go_region_held3 (fun w' => w'.cell? ⟨b, 0, none⟩ = some (.slice (some ⟨g, 0, none⟩) S S))
          (first | go_keep | exact c02 | exact c04)
          (first
            | (refine step_copy6 rfl (.tmp 43) (.tmp 46) 22 22 rfl 5 Tryd.underlying22 size_u8r rfl rfl g 0 (splice K r q1) 5 (by exact hg2.out) q2 _ HQ2.out HM2.out (by first | exact fun hp => (HZ2.out hp).elim | exact fun _ => ⟨rfl, s2.drew⟩ | exact fun _ => ⟨rfl, by rw [if_neg hmq]; exact s2.drew⟩) HFIT2.out ?_; intro w4 hg4 k4; have hp4 := k4.heap (show w2.drew.heap[b]? = _ from hp2) hne; have c04 := two_cell0 hp4))
        all_goals
          go_wp2_with fail
          go_ret
          have a1 : Kp (FP b g) w1 wS := kS.mono (fun i _ e => .inl e)
          have a2 : Kp (FP b g) wS wP := Kp.of_below bP
          have a3 : Kp (FP b g) wP w2 := k2.mono (fun i _ e => .inr e)
          have a4 : Kp (FP b g) w2 w4 := by
            have := k4.mono (S' := FP b g) (fun i _ e => .inr e)
            exact ⟨this.os, this.tape, this.output, this.size, this.block⟩
          exact ⟨rfl, _, HEND.out w4 hp4 hg4.out, ((a1.trans a2 (fun _ _ e => e)).trans a3 (fun _ _ e => e)).trans a4 (fun _ _ e => e)⟩
      · have hmqi : ¬ (pc : Int) = (m : Int) := by omega
        go_enter Tryd.func63, Tryd.ntmps63
        go_wp2_with fail
        refine CM.mono ?_
        rintro e w1 ⟨rfl, rfl⟩
        go_wp2_with fail
        rw [← HWS.out]
        go_region_held3 (fun w' => w'.cell? ⟨b, 0, none⟩ = some (.slice (some ⟨g, 0, none⟩) S S))
          (first | go_keep | exact (bP.cell (p := ⟨b, 0, none⟩) hbl).trans c0S | exact c02)
          (first
            | (go_at_call 76; refine (HP.out _ (by exact HBD.out)).mono ?_; rintro e wP ⟨rfl, bP⟩; have hgP := (bP.block g hgl).trans hgS; first | (have sP := HS1.out _ (sQ.old bP)) | skip)
            | (refine step_copy6 rfl (.tmp 37) (.tmp 38) 22 22 rfl 5 Tryd.underlying22 size_u8r rfl rfl g r K 5 hgP q1 _ HQ1.out HM.out (by first | exact fun hp => (HZ1.out hp).elim | exact fun _ => ⟨rfl, sP⟩ | exact fun _ => ⟨if_neg hSrN, sP⟩) HFIT1.out ?_; intro w2 hg2 k2; have hp2 := k2.heap ((bP.block b hbl).trans hbS) hne; have c02 := two_cell0 hp2; first | (have s2 := HS2.out _ ((sQ.old bP).kp k2 HFR.out)) | skip))
        go_wp2_with fail
        go_region_held3 (fun w' => w'.cell? ⟨b, 0, none⟩ = some (.slice (some ⟨g, 0, none⟩) S S))
          (first | go_keep | exact c02 | exact c04)
          (first
            | (refine step_copy6 rfl (.tmp 43) (.tmp 46) 22 22 rfl 5 Tryd.underlying22 size_u8r rfl rfl g 0 (splice K r q1) 5 (by exact hg2.out) q2 _ HQ2.out HM2.out (by first | exact fun hp => (HZ2.out hp).elim | exact fun _ => ⟨rfl, s2.drew⟩ | exact fun _ => ⟨rfl, by rw [if_neg hmq]; exact s2.drew⟩) HFIT2.out ?_; intro w4 hg4 k4; have hp4 := k4.heap (show w2.drew.heap[b]? = _ from hp2) hne; have c04 := two_cell0 hp4))
        all_goals
          go_wp2_with fail
          go_ret
          have a1 : Kp (FP b g) w1 wS := kS.mono (fun i _ e => .inl e)
          have a2 : Kp (FP b g) wS wP := Kp.of_below bP
          have a3 : Kp (FP b g) wP w2 := k2.mono (fun i _ e => .inr e)
          have a4 : Kp (FP b g) w2 w4 := by
            have := k4.mono (S' := FP b g) (fun i _ e => .inr e)
            exact ⟨this.os, this.tape, this.output, this.size, this.block⟩
          exact ⟨rfl, _, HEND.out w4 hp4 hg4.out, ((a1.trans a2 (fun _ _ e => e)).trans a3 (fun _ _ e => e)).trans a4 (fun _ _ e => e)⟩
    · obtain ⟨lo, hlo⟩ : ∃ lo, lo = np - S := ⟨_, rfl⟩
      have hwl : IntKind.i64.wrap ((np : Int) - (S : Int)) = (lo : Int) := by rw [hwd]; omega
      have HNL : Hid (np - lo = nq) := by show _ = _; omega
      obtain ⟨qc, hqc⟩ : ∃ qc, qc = pc - lo := ⟨_, rfl⟩
      have HQC : Hid (pc - lo = qc) := hqc.symm
      rw [← hlo] at hq
      have sQ : Seg wS (some ⟨x, off + lo, none⟩) q := by rw [hq]; exact SegK.drop sS _
      have HS1 : Hid (∀ W, Seg W (some ⟨x, off + lo, none⟩) q → Seg W (some ⟨x, off + lo, none⟩) q1) := fun W hW => by rw [hq1]; exact SegK.take hW _
      have HS2 : Hid (∀ W, Seg W (some ⟨x, off + lo, none⟩) q → Seg W (some ⟨x, off + lo + m, none⟩) q2) := fun W hW => by rw [hq2]; exact SegK.drop hW _
      have HFR : Hid _ := hxf (off + lo)
      have hgt : (lo : Int) > 0 := by omega
      have hloi : (lo : Int) ≤ (np : Int) := by omega
      have hnpi : (np : Int) ≤ (pc : Int) := by omega
      have hcapi : (nq : Int) ≤ (qc : Int) := by omega
      have hpci : ¬ (pc : Int) = (lo : Int) := by omega
      have hpcn : ¬ pc = lo := by omega
      have HM2 : Hid (nq - m = Nat.min (nq - m) S) := (Nat.min_eq_left (by omega)).symm
      have hcq : nq ≤ qc := by omega
      clear sS hq1 hq2 hq hnq hr hm hxf hle hx2 hp0 htt hwd hlo hqc
      by_cases hmq : qc = m
      · have HZ2 : Hid (0 < q2.length → False) := by show _ → _; rw [HQ2.out]; omega
        have hmqi : (qc : Int) = (m : Int) := by omega
        go_enter Tryd.func63, Tryd.ntmps63
        go_wp2_with fail
        refine CM.mono ?_
        rintro e w1 ⟨rfl, rfl⟩
        go_wp2_with fail
        rw [HNL.out, HQC.out]
        rw [← HWS.out]
        go_region_held3 (fun w' => w'.cell? ⟨b, 0, none⟩ = some (.slice (some ⟨g, 0, none⟩) S S))
          (first | go_keep | exact (bP.cell (p := ⟨b, 0, none⟩) hbl).trans c0S | exact c02)
          (first
            | (go_at_call 76; refine (HP.out _ (by exact HBD.out)).mono ?_; rintro e wP ⟨rfl, bP⟩; have hgP := (bP.block g hgl).trans hgS; first | (have sP := HS1.out _ (sQ.old bP)) | skip)
            | (refine step_copy6 rfl (.tmp 37) (.tmp 38) 22 22 rfl 5 Tryd.underlying22 size_u8r rfl rfl g r K 5 hgP q1 _ HQ1.out HM.out (by first | exact fun hp => (HZ1.out hp).elim | exact fun _ => ⟨rfl, sP⟩ | exact fun _ => ⟨if_neg hSrN, sP⟩) HFIT1.out ?_; intro w2 hg2 k2; have hp2 := k2.heap ((bP.block b hbl).trans hbS) hne; have c02 := two_cell0 hp2; first | (have s2 := HS2.out _ ((sQ.old bP).kp k2 HFR.out)) | skip))
        go_wp2_with fail
        go_region_held3 (fun w' => w'.cell? ⟨b, 0, none⟩ = some (.slice (some ⟨g, 0, none⟩) S S))
          (first | go_keep | exact c02 | exact c04)
          (first
            | (refine step_copy6 rfl (.tmp 43) (.tmp 46) 22 22 rfl 5 Tryd.underlying22 size_u8r rfl rfl g 0 (splice K r q1) 5 (by exact hg2.out) q2 _ HQ2.out HM2.out (by first | exact fun hp => (HZ2.out hp).elim | exact fun _ => ⟨rfl, s2.drew⟩ | exact fun _ => ⟨rfl, by rw [if_neg hmq]; exact s2.drew⟩) HFIT2.out ?_; intro w4 hg4 k4; have hp4 := k4.heap (show w2.drew.heap[b]? = _ from hp2) hne; have c04 := two_cell0 hp4))
        all_goals
          go_wp2_with fail
          go_ret
          have a1 : Kp (FP b g) w1 wS := kS.mono (fun i _ e => .inl e)
          have a2 : Kp (FP b g) wS wP := Kp.of_below bP
          have a3 : Kp (FP b g) wP w2 := k2.mono (fun i _ e => .inr e)
          have a4 : Kp (FP b g) w2 w4 := by
            have := k4.mono (S' := FP b g) (fun i _ e => .inr e)
            exact ⟨this.os, this.tape, this.output, this.size, this.block⟩
          exact ⟨rfl, _, HEND.out w4 hp4 hg4.out, ((a1.trans a2 (fun _ _ e => e)).trans a3 (fun _ _ e => e)).trans a4 (fun _ _ e => e)⟩
      · have hmqi : ¬ (qc : Int) = (m : Int) := by omega
        go_enter Tryd.func63, Tryd.ntmps63
        go_wp2_with fail
        refine CM.mono ?_
        rintro e w1 ⟨rfl, rfl⟩
        go_wp2_with fail
        rw [HNL.out, HQC.out]
        rw [← HWS.out]
        go_region_held3 (fun w' => w'.cell? ⟨b, 0, none⟩ = some (.slice (some ⟨g, 0, none⟩) S S))
          (first | go_keep | exact (bP.cell (p := ⟨b, 0, none⟩) hbl).trans c0S | exact c02)
          (first
            | (go_at_call 76; refine (HP.out _ (by exact HBD.out)).mono ?_; rintro e wP ⟨rfl, bP⟩; have hgP := (bP.block g hgl).trans hgS; first | (have sP := HS1.out _ (sQ.old bP)) | skip)
            | (refine step_copy6 rfl (.tmp 37) (.tmp 38) 22 22 rfl 5 Tryd.underlying22 size_u8r rfl rfl g r K 5 hgP q1 _ HQ1.out HM.out (by first | exact fun hp => (HZ1.out hp).elim | exact fun _ => ⟨rfl, sP⟩ | exact fun _ => ⟨if_neg hSrN, sP⟩) HFIT1.out ?_; intro w2 hg2 k2; have hp2 := k2.heap ((bP.block b hbl).trans hbS) hne; have c02 := two_cell0 hp2; first | (have s2 := HS2.out _ ((sQ.old bP).kp k2 HFR.out)) | skip))
        go_wp2_with fail
        go_region_held3 (fun w' => w'.cell? ⟨b, 0, none⟩ = some (.slice (some ⟨g, 0, none⟩) S S))
          (first | go_keep | exact c02 | exact c04)
          (first
            | (refine step_copy6 rfl (.tmp 43) (.tmp 46) 22 22 rfl 5 Tryd.underlying22 size_u8r rfl rfl g 0 (splice K r q1) 5 (by exact hg2.out) q2 _ HQ2.out HM2.out (by first | exact fun hp => (HZ2.out hp).elim | exact fun _ => ⟨rfl, s2.drew⟩ | exact fun _ => ⟨rfl, by rw [if_neg hmq]; exact s2.drew⟩) HFIT2.out ?_; intro w4 hg4 k4; have hp4 := k4.heap (show w2.drew.heap[b]? = _ from hp2) hne; have c04 := two_cell0 hp4))
        all_goals
          go_wp2_with fail
          go_ret
          have a1 : Kp (FP b g) w1 wS := kS.mono (fun i _ e => .inl e)
          have a2 : Kp (FP b g) wS wP := Kp.of_below bP
          have a3 : Kp (FP b g) wP w2 := k2.mono (fun i _ e => .inr e)
          have a4 : Kp (FP b g) w2 w4 := by
            have := k4.mono (S' := FP b g) (fun i _ e => .inr e)
            exact ⟨this.os, this.tape, this.output, this.size, this.block⟩
          exact ⟨rfl, _, HEND.out w4 hp4 hg4.out, ((a1.trans a2 (fun _ _ e => e)).trans a3 (fun _ _ e => e)).trans a4 (fun _ _ e => e)⟩
end Go.Proofs.YtmddnmpldmdllaaDoor
