import Derived.Test.YtiocdhkompekpaaPr
namespace Go.Proofs.Ytiocdhkompekpaa
open Go.RowKit Go.Shelf
set_option linter.unusedVariables false
set_option linter.unusedSimpArgs false

/-! The landed page: take, walked. -/
theorem Pn22.more {w w1 w2 : World} {v s g b : Nat} {F : Nat → Prop} {S : Fs21} {P : Pw22} (h : Pn22 w w1 v s g b F S P) (hb : Below w1.heap.size w1 w2) : Pn22 w w2 v s g b F S P := by
  obtain ⟨F1, q, f, k⟩ := h
  exact Pn22.cons f k (q.stay hb)
set_option maxRecDepth 100000 in
set_option maxHeartbeats 16000000 in
theorem ptk22 {w : World} {v s g b : Nat} {F : Nat → Prop} {S : Fs21} {P : Pw22} (h : Pe22 w v s g b F S P) (hO : Ok21 S) (ha : In21 P.ar) (hp : P.pn ≤ 549755813888) (hw : P.wn ≤ 16777216) (hlg : S.lg.length ≤ 2199023255552) (hbf : P.bf.length < S.pg)
    (a : Option Addr) (L : List Int) (n cap : Nat) (hs : Seg w a L) (hn : Hid (L.length = n)) (hcap : n ≤ cap) (hl : n ≤ 16777216) (hap : ∀ x off, a = some ⟨x, off, none⟩ → 0 < n → ¬ F x ∧ x ≠ s ∧ x ≠ g) :
    Calls Try.prog 40 #[.pointer (some ⟨s, 0, none⟩), .slice a n cap] w fun e w' => e = .returned (.int .i64 (tkE22 S P L)) ∧ Pn22 w w' v s g b F (tkS22 S P L) (tkP22 S P L) := by
  have HI0 : Hid (Ti22 w w v s g b F S P L 0 F S P) := ⟨h, fun _ e => .inl e, Kp.refl _ _, hO, rfl, by simp, hbf, rfl, rfl, by omega, by omega⟩
  have HB0 : Hid (Seg w a L ∧ n ≤ cap ∧ ∀ x off, a = some ⟨x, off, none⟩ → 0 < n → ¬ F x ∧ x ≠ s ∧ x ≠ g) := ⟨hs, hcap, hap⟩
  have HB : Hid (In21 P.ar ∧ P.pn ≤ 549755813888 ∧ S.lg.length ≤ 2199023255552) := ⟨ha, hp, hlg⟩
  have HPG : Hid (64 ≤ S.pg ∧ S.pg ≤ 4096) := hO.pg
  clear h hO hs hcap hap ha hp hlg hbf
  go_enter Try.func40, Try.ntmps40
  go_wp2_with fail
  go_loopw [5] (fun tr wr => ∃ (k n' k' : Nat) (a' : Option Addr) (F' : Nat → Prop) (S' : Fs21) (P' : Pw22), tr = .slice a' n' k' ∧ Ti22 w wr v s g b F S P L k F' S' P' ∧ Seg wr a' (L.drop k) ∧ n' + k = n ∧ n' ≤ k' ∧ ∀ x off, a' = some ⟨x, off, none⟩ → 0 < n' → x < w.heap.size ∧ ¬ F x ∧ x ≠ s ∧ x ≠ g) (fun tr _ => sliceLen21 tr)
  case atStart =>
    refine ⟨0, n, cap, a, F, S, P, rfl, HI0.out, by simpa using HB0.out.1, by omega, HB0.out.2.1, fun x off e h0 => ⟨?_, HB0.out.2.2 x off e h0⟩⟩
    have := HB0.out.1
    obtain ⟨b', o', e', hc⟩ := this.at_ 0 (by rw [hn.out]; exact h0)
    rw [e] at e'; cases e'
    exact World.block_lt_of_cell? w _ hc
  case round =>
    obtain ⟨k, n', k', a', F', S', P', rfl, hT, hsg, hnk, hcp, hap⟩ := hrel
    have HT : Hid (Ti22 w wr v s g b F S P L k F' S' P') := hT
    by_cases h0 : 0 < n'
    · have h0i : (0 : Int) < (n' : Int) := by omega
      have hdl : (L.drop k).length = n' := by have := hn.out; simp; omega
      obtain ⟨ag, ao, ha', hcell⟩ := hsg.at_ 0 (by omega)
      subst ha'
      obtain ⟨ao1, ao2, ao3, ao4⟩ := hap ag ao rfl h0
      obtain ⟨Y, hY, hYl, hYb⟩ := hT.pe.wr.hg
      obtain ⟨BL, hBL⟩ : ∃ BL, BL = P'.bf.length := ⟨_, rfl⟩
      obtain ⟨pg, hpg⟩ : ∃ pg, pg = S'.pg := ⟨_, rfl⟩
      have hlt := hT.lt
      rw [← hBL, ← hpg] at hlt
      obtain ⟨nn, hnn⟩ : ∃ nn, nn = min n' (pg - BL) := ⟨_, rfl⟩
      obtain ⟨cs, hcs⟩ : ∃ cs, cs = (L.drop k).take nn := ⟨_, rfl⟩
      have hcl : cs.length = nn := by rw [hcs, List.length_take, hdl]; omega
      have hpgb := HPG.out
      have hpe : pg = S.pg := by rw [hpg]; exact hT.pg
      obtain ⟨HN, hHN⟩ : ∃ HN, HN = BL + nn := ⟨_, rfl⟩
      have c2 : wr.drew.cell? ⟨s, 2, none⟩ = some (.slice (some ⟨g, 0, none⟩) pg pg) := by rw [hpg]; exact hT.pe.wr.c2
      have c3 : wr.drew.cell? ⟨s, 3, none⟩ = some (.int .i64 (BL : Int)) := by rw [hBL]; exact hT.pe.wr.c3
      have hNd : ¬ pg = BL := by omega
      have hl1 : (BL : Int) ≤ (pg : Int) := by omega
      have hsl : s < wr.heap.size := hT.pe.wr.lt.2.1
      have hsgn : s ≠ g := hT.pe.wr.ne_sg
      have hadd : (BL : Int) + (nn : Int) = (HN : Int) := by omega
      have hwadd : IntKind.i64.wrap (HN : Int) = (HN : Int) := IntWalk.i64_in _ (by omega)
      have hnk1 : (nn : Int) ≤ (n' : Int) := by omega
      have hnk2 : (nn : Int) ≤ (k' : Int) := by omega
      have HY : Hid (wr.heap[g]? = some (.cells ((P'.bf ++ Y).map (Value.int .u8)).toArray 5 (0, 0))) := hY
      have HFIT : Hid (BL + nn ≤ (P'.bf ++ Y).length) := by show BL + nn ≤ _; rw [List.length_append, ← hBL]; omega
      have HCL : Hid (cs.length = nn) := hcl
      have HNN : Hid (nn = min n' (pg - BL)) := hnn
      have HSEG : Hid (Seg wr (some ⟨ag, ao, none⟩) cs) := by show Seg _ _ _; rw [hcs]; exact hsg.take nn
      have HSEG0 : Hid (Seg wr (some ⟨ag, ao, none⟩) (L.drop k)) := hsg
      have HCS : Hid (cs = (L.drop k).take nn) := hcs
      have hcb : ∀ y ∈ cs, 0 ≤ y ∧ y ≤ 255 := HSEG.out.mem
      have HWR : Hid (∀ w5 : World, w5.heap[g]? = some (.cells ((sp21 (P'.bf ++ Y) BL cs).map (Value.int .u8)).toArray 5 (0, 0)) → Kp (fun j => j = g) wr w5 → Pn22 wr (w5.setCell ⟨s, 3, none⟩ (.int .i64 (HN : Int))) v s g b F' S' { P' with bf := P'.bf ++ cs }) := fun w5 h5 k5 => by
        have e := hT.pe.wr.copy (w' := w5) (cs := cs) hY hYl hYb hcb (by omega) k5 (by rw [← hBL]; exact h5) HN (by omega)
        exact hT.pe.put ((k5.mono (S' := fun k => k = s ∨ k = g) (fun i _ e => .inr e)).trans (Kp.set (.inl rfl) _) (fun _ _ e => e)) e
      have HOUT : Hid (ag < wr.heap.size ∧ ¬ F' ag ∧ ag ≠ s ∧ ag ≠ g) := by
        refine ⟨Nat.lt_of_lt_of_le ao1 hT.kp.size, fun e => ?_, ao3, ao4⟩
        rcases hT.fr ag e with q | q
        · exact ao2 q
        · omega
      have HA : Hid (ag < w.heap.size ∧ ¬ F ag ∧ ag ≠ s ∧ ag ≠ g) := ⟨ao1, ao2, ao3, ao4⟩
      have HNUM : Hid (BL = P'.bf.length ∧ pg = S'.pg ∧ nn = min n' (pg - BL) ∧ HN = BL + nn ∧ (L.drop k).length = n' ∧ n' + k = n ∧ n' ≤ k' ∧ BL < pg ∧ pg = S.pg) := ⟨hBL, hpg, hnn, hHN, hdl, hnk, hcp, hlt, hpe⟩
      clear hY hYl hYb hBL hpg hnn hcs hcl hpe hHN hsg hdl hcell hcb hap hT ao1 ao2 ao3 ao4 hpgb hcp hnk
      go_wp2_with fail
      go_region_held3 (fun V => V.cell? ⟨s, 2, none⟩ = some (.slice (some ⟨g, 0, none⟩) pg pg) ∧ V.cell? ⟨s, 3, none⟩ = some (.int .i64 (BL : Int))) (first | exact ⟨c2, c3⟩ | exact k5c | go_keep)
        (first | (refine step_copy21 rfl (.tmp 20) (.tmp 21) 26 26 rfl 5 Try.underlying26 size_y21 rfl rfl g BL (P'.bf ++ Y) 5 (by exact HY.out) cs nn HCL.out (by have := HNN.out; show nn = min _ _; omega) (fun hp => ⟨by first | rfl | (simp; done) | (rw [if_neg hNd]; simp), by exact HSEG.out.drew⟩) HFIT.out ?_; intro w5 h5 k5; have k5c : w5.cell? ⟨s, 2, none⟩ = some (.slice (some ⟨g, 0, none⟩) pg pg) ∧ w5.cell? ⟨s, 3, none⟩ = some (.int .i64 (BL : Int)) := ⟨(World.cell?_of_block (a := ⟨s, 2, none⟩) (k5.block s hsl hsgn)).trans c2, (World.cell?_of_block (a := ⟨s, 3, none⟩) (k5.block s hsl hsgn)).trans c3⟩))
      obtain ⟨w6, hw6⟩ : ∃ w6, w6 = w5.setCell ⟨s, 3, none⟩ (.int .i64 (HN : Int)) := ⟨_, rfl⟩
      have HW6 : Hid (w5.setCell ⟨s, 3, none⟩ (.int .i64 (HN : Int)) = w6) := hw6.symm
      have hp6 := HWR.out w5 h5.out ⟨k5.os, k5.tape, k5.output, k5.size, k5.block⟩
      rw [← hw6] at hp6
      have HP6 : Hid (Pn22 wr w6 v s g b F' S' { P' with bf := P'.bf ++ cs }) := hp6
      obtain ⟨F6, q6, f6, kk6⟩ := hp6
      have HF6 : Hid ((∀ x, F6 x → F' x ∨ wr.heap.size ≤ x) ∧ Kp (fun x => F' x ∨ x = s ∨ x = g) wr w6) := ⟨f6, kk6⟩
      have HQ6 : Hid (Pe22 w6 v s g b F6 S' { P' with bf := P'.bf ++ cs }) := q6
      have e2 : w6.cell? ⟨s, 2, none⟩ = some (.slice (some ⟨g, 0, none⟩) pg pg) := by rw [HNUM.out.2.1]; exact q6.wr.c2
      have e3 : w6.cell? ⟨s, 3, none⟩ = some (.int .i64 (HN : Int)) := by
        have := q6.wr.c3
        simp only [List.length_append, HCL.out, ← HNUM.out.1] at this
        rw [← HNUM.out.2.2.2.1] at this
        exact this
      have y3 : w5.frozen? ⟨s, 3, none⟩ = false := by
        have := (k5.block s hsl hsgn).trans (HT.out.pe.wr.hs)
        simp [World.frozen?, this]
      obtain ⟨d2, d3⟩ := k5c
      have HSG : Hid (∀ w7 : World, Kp (fun x => F' x ∨ x = s ∨ x = g) wr w7 → Seg w7 (some ⟨ag, ao, none⟩) (L.drop k)) := fun w7 hk => HSEG0.out.kp hk (fun b' o' e' _ => by
        cases e'
        have := HOUT.out
        rintro (q | q | q)
        · exact this.2.1 q
        · exact this.2.2.1 q
        · exact this.2.2.2 q)
      have HEND : Hid (∀ w7 : World, Kp (fun x => F' x ∨ x = s ∨ x = g) wr w7 → Seg w7 (some (if k' = nn then (⟨ag, ao, none⟩ : Addr) else ⟨ag, ao + nn, none⟩)) (L.drop (k + nn)) ∧ (∀ x off, some (if k' = nn then (⟨ag, ao, none⟩ : Addr) else ⟨ag, ao + nn, none⟩) = some (⟨x, off, none⟩ : Addr) → 0 < n' - nn → x < w.heap.size ∧ ¬ F x ∧ x ≠ s ∧ x ≠ g)) := fun w7 hk => by
        obtain ⟨m1, m2, m3, m4, m5, m6, m7, m8, m9⟩ := HNUM.out
        constructor
        · by_cases hkn : k' = nn
          · have : (L.drop (k + nn)) = [] := by rw [← List.drop_drop]; exact List.drop_eq_nil_of_le (by omega)
            rw [this]
            exact SegK.nil (by decide) _ _
          · rw [if_neg hkn, ← List.drop_drop]
            exact (HSG.out w7 hk).drop nn
        · intro x off e _
          have : x = ag := by
            by_cases hkn : k' = nn
            · rw [if_pos hkn] at e; cases e; rfl
            · rw [if_neg hkn] at e; cases e; rfl
          rw [this]; exact HA.out
      clear q6 f6 kk6 hw6 k5 h5 c2 c3
      by_cases hkn : k' = nn
      all_goals
        by_cases hfull : HN = pg
        · subst hfull
          have HPL : Hid (∀ W : World, Below w6.heap.size w6 W → Calls Try.prog 54 #[.pointer (some ⟨s, 0, none⟩)] W fun e w' => e = .returned (.int .i64 (lyE22 S' { P' with bf := P'.bf ++ cs })) ∧ Pn22 wr w' v s g b F' (lyS22 S' { P' with bf := P'.bf ++ cs }) (lyP22 S' { P' with bf := P'.bf ++ cs })) := fun W hW => by
            have t := HT.out
            have hb := HB.out
            obtain ⟨m1, m2, m3, m4, m5, m6, m7, m8, m9⟩ := HNUM.out
            refine (play22 (HQ6.out.old hW) t.ok (by show In21 P'.ar; rw [t.ar]; exact hb.1) (by show P'.pn ≤ _; have := t.pn; omega) (by have := t.lg; omega)).mono ?_
            rintro e w' ⟨rfl, hn⟩
            exact ⟨rfl, Pn22.cons HF6.out.1 HF6.out.2 (hn.from hW)⟩
          obtain ⟨E, hE⟩ : ∃ E, E = lyE22 S' { P' with bf := P'.bf ++ cs } := ⟨_, rfl⟩
          rw [← hE] at HPL
          have HE : Hid (E = lyE22 S' { P' with bf := P'.bf ++ cs }) := hE
          clear hE
          by_cases hE0 : E = 0
          · subst hE0
            go_wp2_with fail
            rw [HW6.out]
            go_quiet (fail)
            go_wp2_with fail
            refine (HPL.out _ (below_drewN21 (Below.refl _ _) _)).mono ?_
            rintro e w7 ⟨rfl, hn7⟩
            go_wp2_with fail
            obtain ⟨m1, m2, m3, m4, m5, m6, m7, m8, m9⟩ := HNUM.out
            have hk7 : Kp (fun x => F' x ∨ x = s ∨ x = g) wr w7 := by obtain ⟨_, _, _, q⟩ := hn7; exact q
            have hcs := HCS.out
            rw [hcs] at hn7
            obtain ⟨F2, hT2⟩ := HT.out.full (nn := nn) (by have := hn.out; omega) (by omega) (by omega) (by rw [← hcs]; exact HE.out.symm) hn7
            refine ⟨⟨k + nn, n' - nn, k' - nn, some (if k' = nn then (⟨ag, ao, none⟩ : Addr) else ⟨ag, ao + nn, none⟩), F2, _, _, by simp [hkn], hT2, (HEND.out w7 hk7).1, by omega, by omega, (HEND.out w7 hk7).2⟩, ?_⟩
            show n' - nn < n'
            omega
          · have hE0' : (E == 0) = false := by simp [hE0]
            go_wp2_with fail
            rw [HW6.out]
            go_quiet (fail)
            go_wp2_with fail
            refine (HPL.out _ (below_drewN21 (Below.refl _ _) _)).mono ?_
            rintro e w7 ⟨rfl, hn7⟩
            go_wp2_with fail
            go_ret
            obtain ⟨m1, m2, m3, m4, m5, m6, m7, m8, m9⟩ := HNUM.out
            have hcs := HCS.out
            rw [hcs] at hn7
            have hE1 := HE.out
            rw [hcs] at hE1
            have hno := HT.out.no (nn := nn) (by have := hn.out; omega) (by omega) (by omega) (by rw [← hE1]; exact hE0) hn7
            rw [← hE1] at hno
            exact ⟨by rw [hno.1]; first | done | rfl, hno.2⟩
        · have hne : ((HN : Int) == (pg : Int)) = false := by simp; omega
          go_wp2_with fail
          rw [HW6.out]
          go_quiet (fail)
          go_wp2_with fail
          obtain ⟨m1, m2, m3, m4, m5, m6, m7, m8, m9⟩ := HNUM.out
          have hp7 := HP6.out.more (below_drewN21 (Below.refl _ _) nq)
          have hk7 : Kp (fun x => F' x ∨ x = s ∨ x = g) wr (w6.drewN nq) := by obtain ⟨_, _, _, q⟩ := hp7; exact q
          have hcs := HCS.out
          rw [hcs] at hp7
          obtain ⟨F2, hT2⟩ := HT.out.some (nn := nn) (by have := hn.out; omega) (by omega) hp7
          refine ⟨⟨k + nn, n' - nn, k' - nn, some (if k' = nn then (⟨ag, ao, none⟩ : Addr) else ⟨ag, ao + nn, none⟩), F2, _, _, by simp [hkn], hT2, (HEND.out _ hk7).1, by omega, by omega, (HEND.out _ hk7).2⟩, ?_⟩
          show n' - nn < n'
          omega
    · obtain rfl : n' = 0 := by omega
      obtain rfl : k = n := by omega
      have h0i : ¬ (0 : Int) < ((0 : Nat) : Int) := by omega
      have c5 : wr.cell? ⟨s, 5, none⟩ = some (.int .i64 (P.wn : Int)) := by rw [← hT.wn]; exact hT.pe.wr.c5
      have y5 := hT.pe.wr.fr 5
      obtain ⟨WN, hWN⟩ : ∃ WN, WN = P.wn + k := ⟨_, rfl⟩
      have hadd : (P.wn : Int) + (k : Int) = (WN : Int) := by omega
      have hwadd : IntKind.i64.wrap (WN : Int) = (WN : Int) := IntWalk.i64_in _ (by omega)
      have HWN : Hid (WN = P.wn + k) := hWN
      clear hT hsg hap hWN HI0
      go_wp2_with fail
      go_ret
      have e := hn.out
      subst e
      have := HT.out.fin (w2 := wr.setCell ⟨s, 5, none⟩ (.int .i64 (WN : Int))) (HT.out.pe.put (Kp.set (.inl rfl) _) (by rw [← HWN.out]; exact HT.out.pe.wr.setW WN))
      rw [this.1]
      exact ⟨rfl, this.2⟩
end Go.Proofs.Ytiocdhkompekpaa

namespace Go.Proofs.Ytiocdhkompekpaa
open Go.RowKit Go.Shelf
set_option linter.unusedVariables false
set_option linter.unusedSimpArgs false

/-! The landed page: Write, End. -/
def enE22 (S : Fs21) (P : Pw22) : Int := if 0 < P.bf.length then lyE22 S P else 0
def enS22 (S : Fs21) (P : Pw22) : Fs21 := if 0 < P.bf.length then lyS22 S P else S
def enP22 (S : Fs21) (P : Pw22) : Pw22 := if 0 < P.bf.length then (if lyE22 S P ≠ 0 then lyP22 S P else { lyP22 S P with cl := 221 }) else { P with cl := 221 }
def edE22 (S : Fs21) (P : Pw22) : Int := if P.cl ≠ 0 then P.cl else enE22 S P
def edS22 (S : Fs21) (P : Pw22) : Fs21 := if P.cl ≠ 0 then S else enS22 S P
def edP22 (S : Fs21) (P : Pw22) : Pw22 := if P.cl ≠ 0 then P else enP22 S P
def fu22 (S : Fs21) (P : Pw22) (n : Nat) : Prop := (mx22 S : Int) - (P.wn : Int) < (n : Int)
instance (S : Fs21) (P : Pw22) (n : Nat) : Decidable (fu22 S P n) := inferInstanceAs (Decidable ((mx22 S : Int) - (P.wn : Int) < (n : Int)))
def wrE22 (S : Fs21) (P : Pw22) (L : List Int) : Int := if P.cl ≠ 0 then P.cl else if fu22 S P L.length then 220 else tkE22 S P L
def wrS22 (S : Fs21) (P : Pw22) (L : List Int) : Fs21 := if P.cl ≠ 0 then S else if fu22 S P L.length then S else tkS22 S P L
def wrP22 (S : Fs21) (P : Pw22) (L : List Int) : Pw22 := if P.cl ≠ 0 then P else if fu22 S P L.length then P else tkP22 S P L
section
variable {w w' : World} {v s g b : Nat} {F : Nat → Prop} {S : Fs21} {P : Pw22}
set_option maxRecDepth 100000 in
set_option maxHeartbeats 4000000 in
theorem pen22 (h : Pe22 w v s g b F S P) (hO : Ok21 S) (ha : In21 P.ar) (hp : P.pn ≤ 549755813888) (hlg : S.lg.length ≤ 2199023255552) :
    Calls Try.prog 43 #[.pointer (some ⟨s, 0, none⟩)] w fun e w' => e = .returned (.int .i64 (enE22 S P)) ∧ Pn22 w w' v s g b F (enS22 S P) (enP22 S P) := by
  have HP : Hid (Pe22 w v s g b F S P) := h
  have HL := play22 h hO ha (by omega) (by omega)
  have c3 := h.wr.c3
  have c6 := h.wr.c6
  have y6 := h.wr.fr 6
  have hE : Hid (enE22 S P = if 0 < P.bf.length then lyE22 S P else 0) := rfl
  have hS : Hid (enS22 S P = if 0 < P.bf.length then lyS22 S P else S) := rfl
  have hP : Hid (enP22 S P = if 0 < P.bf.length then (if lyE22 S P ≠ 0 then lyP22 S P else { lyP22 S P with cl := 221 }) else { P with cl := 221 }) := rfl
  rw [hE.out, hS.out, hP.out]
  clear h hE hS hP
  obtain ⟨BL, hBL⟩ : ∃ BL, BL = P.bf.length := ⟨_, rfl⟩
  rw [← hBL] at c3
  rw [← hBL]
  clear hBL
  by_cases h0 : 0 < BL
  · have h0i : (0 : Int) < (BL : Int) := by omega
    rw [if_pos h0, if_pos h0, if_pos h0]
    generalize lyE22 S P = E at *
    generalize lyS22 S P = S1 at *
    generalize lyP22 S P = P1 at *
    by_cases hE : E = 0
    · subst hE
      rw [if_neg (by simp)]
      clear c6 y6
      go_enter Try.func43, Try.ntmps43
      go_wp2_with fail
      refine HL.mono ?_
      rintro e w1 ⟨rfl, hn1⟩
      obtain ⟨F1, q1, f1, k1⟩ := hn1
      have HF1 : Hid ((∀ k, F1 k → F k ∨ w.heap.size ≤ k) ∧ Kp (fun k => F k ∨ k = s ∨ k = g) w w1) := ⟨f1, k1⟩
      have HQ1 : Hid (Pe22 w1 v s g b F1 S1 P1) := q1
      have c6 := q1.wr.c6
      have y6 := q1.wr.fr 6
      clear q1 f1 k1
      go_wp2_with fail
      go_ret
      exact ⟨rfl, Pn22.cons HF1.out.1 HF1.out.2 (HQ1.out.put (Kp.set (.inl rfl) _) (HQ1.out.wr.setC 221))⟩
    · have hE' : (E == 0) = false := by simp [hE]
      rw [if_pos hE]
      go_enter Try.func43, Try.ntmps43
      go_wp2_with fail
      refine HL.mono ?_
      rintro e w1 ⟨rfl, hn1⟩
      have HN1 : Hid (Pn22 w w1 v s g b F S1 P1) := hn1
      clear hn1
      go_wp2_with fail
      go_ret
      exact ⟨rfl, HN1.out⟩
  · have h0i : ¬ (0 : Int) < (BL : Int) := by omega
    rw [if_neg h0, if_neg h0, if_neg h0]
    clear HL
    go_enter Try.func43, Try.ntmps43
    go_wp2_with fail
    go_ret
    exact ⟨rfl, HP.out.put (Kp.set (.inl rfl) _) (HP.out.wr.setC 221)⟩
set_option maxRecDepth 100000 in
set_option maxHeartbeats 4000000 in
theorem ped22 (h : Pe22 w v s g b F S P) (hO : Ok21 S) (ha : In21 P.ar) (hp : P.pn ≤ 549755813888) (hlg : S.lg.length ≤ 2199023255552) :
    Calls Try.prog 16 #[.pointer (some ⟨v, 0, none⟩)] w fun e w' => e = .returned (.int .i64 (edE22 S P)) ∧ Pn22 w w' v s g b F (edS22 S P) (edP22 S P) := by
  have HP : Hid (Pe22 w v s g b F S P) := h
  have HL := pen22 h hO ha hp hlg
  have HS := pst22 h.wr
  have cv := h.wr.cv
  have hE : Hid (edE22 S P = if P.cl ≠ 0 then P.cl else enE22 S P) := rfl
  have hS : Hid (edS22 S P = if P.cl ≠ 0 then S else enS22 S P) := rfl
  have hP : Hid (edP22 S P = if P.cl ≠ 0 then P else enP22 S P) := rfl
  rw [hE.out, hS.out, hP.out]
  clear h hE hS hP
  generalize enE22 S P = E at *
  generalize enS22 S P = S1 at *
  generalize enP22 S P = P1 at *
  obtain ⟨C, hC⟩ : ∃ C, C = P.cl := ⟨_, rfl⟩
  rw [← hC] at HS
  rw [← hC]
  clear hC
  by_cases h0 : C = 0
  · subst h0
    rw [if_neg (show ¬ ((0 : Int) ≠ 0) by simp), if_neg (show ¬ ((0 : Int) ≠ 0) by simp), if_neg (show ¬ ((0 : Int) ≠ 0) by simp)]
    go_enter Try.func16, Try.ntmps16
    go_wp2_with fail
    refine HS.mono ?_
    rintro e w1 ⟨rfl, hw⟩
    subst w1
    go_wp2_with fail
    refine HL.mono ?_
    rintro e w1 ⟨rfl, hn1⟩
    have HN1 : Hid (Pn22 w w1 v s g b F S1 P1) := hn1
    clear hn1
    go_wp2_with fail
    go_ret
    exact ⟨rfl, HN1.out⟩
  · have h0' : (C == 0) = false := by simp [h0]
    rw [if_pos h0, if_pos h0, if_pos h0]
    go_enter Try.func16, Try.ntmps16
    go_wp2_with fail
    refine HS.mono ?_
    rintro e w1 ⟨rfl, hw⟩
    subst w1
    go_wp2_with fail
    go_ret
    exact ⟨rfl, HP.out.stay (Below.refl _ _)⟩
set_option maxRecDepth 100000 in
set_option maxHeartbeats 4000000 in
theorem pwr22 (h : Pe22 w v s g b F S P) (hO : Ok21 S) (ha : In21 P.ar) (hp : P.pn ≤ 549755813888) (hw : P.wn ≤ 16777216) (hlg : S.lg.length ≤ 2199023255552) (hbf : P.cl = 0 → P.bf.length < S.pg)
    (a : Option Addr) (L : List Int) (n cap : Nat) (hs : Seg w a L) (hn : Hid (L.length = n)) (hcap : n ≤ cap) (hl : n ≤ 281474976710656) (hap : ∀ x off, a = some ⟨x, off, none⟩ → 0 < n → ¬ F x ∧ x ≠ s ∧ x ≠ g) :
    Calls Try.prog 14 #[.pointer (some ⟨v, 0, none⟩), .slice a n cap] w fun e w' => e = .returned (.int .i64 (wrE22 S P L)) ∧ Pn22 w w' v s g b F (wrS22 S P L) (wrP22 S P L) := by
  have HP : Hid (Pe22 w v s g b F S P) := h
  have HS := pst22 h.wr
  have HLF := plf22 h hO hw
  have cv := h.wr.cv
  have hmx := mx22_bd hO
  have HFU : Hid (fu22 S P n ↔ (mx22 S : Int) - (P.wn : Int) < (n : Int)) := Iff.rfl
  have HTK : Hid (P.cl = 0 → ¬ fu22 S P n → ∀ W : World, Below w.heap.size w W → Calls Try.prog 40 #[.pointer (some ⟨s, 0, none⟩), .slice a n cap] W fun e w' => e = .returned (.int .i64 (tkE22 S P L)) ∧ Pn22 W w' v s g b F (tkS22 S P L) (tkP22 S P L)) := fun h0 h1 W hW =>
    ptk22 (h.old hW) hO ha hp hw hlg (hbf h0) a L n cap (hs.old hW) hn hcap (by unfold fu22 at h1; omega) hap
  have hE : Hid (wrE22 S P L = if P.cl ≠ 0 then P.cl else if fu22 S P n then 220 else tkE22 S P L) := by show _ = _; unfold wrE22; rw [hn.out]
  have hS : Hid (wrS22 S P L = if P.cl ≠ 0 then S else if fu22 S P n then S else tkS22 S P L) := by show _ = _; unfold wrS22; rw [hn.out]
  have hP : Hid (wrP22 S P L = if P.cl ≠ 0 then P else if fu22 S P n then P else tkP22 S P L) := by show _ = _; unfold wrP22; rw [hn.out]
  rw [hE.out, hS.out, hP.out]
  have hlt := h.wr.lt
  clear h hE hS hP hs hap hbf hO
  generalize tkE22 S P L = E at *
  generalize tkS22 S P L = S1 at *
  generalize tkP22 S P L = P1 at *
  obtain ⟨C, hC⟩ : ∃ C, C = P.cl := ⟨_, rfl⟩
  rw [← hC] at HS HTK
  rw [← hC]
  clear hC
  by_cases h0 : C = 0
  · subst h0
    rw [if_neg (show ¬ ((0 : Int) ≠ 0) by simp), if_neg (show ¬ ((0 : Int) ≠ 0) by simp), if_neg (show ¬ ((0 : Int) ≠ 0) by simp)]
    by_cases h1 : fu22 S P n
    · rw [if_pos h1, if_pos h1, if_pos h1]
      have h1i := HFU.out.1 h1
      obtain ⟨LF, hLF⟩ : ∃ LF, LF = (mx22 S : Int) - (P.wn : Int) := ⟨_, rfl⟩
      rw [← hLF] at HLF h1i
      clear hLF HTK h1 HFU hmx
      go_enter Try.func14, Try.ntmps14
      go_wp2_with fail
      refine HS.mono ?_
      rintro e w1 ⟨rfl, hw1⟩
      subst w1
      go_wp2_with fail
      refine HLF.mono ?_
      rintro e w1 ⟨rfl, b1⟩
      go_wp2_with fail
      go_ret
      exact ⟨rfl, HP.out.stay b1⟩
    · rw [if_neg h1, if_neg h1, if_neg h1]
      have h1i : ¬ (mx22 S : Int) - (P.wn : Int) < (n : Int) := fun e => h1 (HFU.out.2 e)
      have HT : Hid (∀ W : World, Below w.heap.size w W → Calls Try.prog 40 #[.pointer (some ⟨s, 0, none⟩), .slice a n cap] W fun e w' => e = .returned (.int .i64 E) ∧ Pn22 W w' v s g b F S1 P1) := HTK.out rfl h1
      obtain ⟨LF, hLF⟩ : ∃ LF, LF = (mx22 S : Int) - (P.wn : Int) := ⟨_, rfl⟩
      rw [← hLF] at HLF h1i
      clear hLF HTK h1 HFU hmx
      go_enter Try.func14, Try.ntmps14
      go_wp2_with fail
      refine HS.mono ?_
      rintro e w1 ⟨rfl, hw1⟩
      subst w1
      go_wp2_with fail
      refine HLF.mono ?_
      rintro e w1 ⟨rfl, b1⟩
      have cv1 := (HP.out.old b1).wr.cv
      go_wp2_with fail
      refine (HT.out _ b1).mono ?_
      rintro e w2 ⟨rfl, hn2⟩
      have HN2 : Hid (Pn22 w w2 v s g b F S1 P1) := hn2.from b1
      clear hn2
      go_wp2_with fail
      go_ret
      exact ⟨rfl, HN2.out⟩
  · have h0' : (C == 0) = false := by simp [h0]
    rw [if_pos h0, if_pos h0, if_pos h0]
    clear HTK HLF
    go_enter Try.func14, Try.ntmps14
    go_wp2_with fail
    refine HS.mono ?_
    rintro e w1 ⟨rfl, hw⟩
    subst w1
    go_wp2_with fail
    go_ret
    exact ⟨rfl, HP.out.stay (Below.refl _ _)⟩
end
end Go.Proofs.Ytiocdhkompekpaa
