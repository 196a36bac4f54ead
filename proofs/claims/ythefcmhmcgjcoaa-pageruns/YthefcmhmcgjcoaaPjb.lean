import Derived.Test.YthefcmhmcgjcoaaPja
import Derived.Test.YthefcmhmcgjcoaaRfB
import Derived.Test.YthefcmhmcgjcoaaFlQ
import Derived.Test.YthefcmhmcgjcoaaFlV
import Derived.StillTailTactics
import Derived.Laws.StructEq
namespace Go.Proofs.Ythefcmhmcgjcoaa
open Go.RowKit Go.Shelf
set_option linter.unusedVariables false
set_option linter.unusedSimpArgs false

/-! The landed page: take. -/
/-- Bytes one by one. -/
def tk22 : Fs21 → Pw22 → List Int → Fs21 × Pw22 × Int
  | S, P, [] => (S, P, 0)
  | S, P, c :: L =>
    if (P.bf ++ [c]).length = S.pg then
      if lyE22 S { P with bf := P.bf ++ [c] } ≠ 0 then (lyS22 S { P with bf := P.bf ++ [c] }, lyP22 S { P with bf := P.bf ++ [c] }, lyE22 S { P with bf := P.bf ++ [c] })
      else tk22 (lyS22 S { P with bf := P.bf ++ [c] }) (lyP22 S { P with bf := P.bf ++ [c] }) L
    else tk22 S { P with bf := P.bf ++ [c] } L
theorem tk22_some (S : Fs21) : ∀ (cs : List Int) (P : Pw22) (L : List Int), P.bf.length + cs.length < S.pg → tk22 S P (cs ++ L) = tk22 S { P with bf := P.bf ++ cs } L
  | [], P, L, _ => by simp
  | c :: cs, P, L, h => by
    have h1 : ¬ (P.bf ++ [c]).length = S.pg := by simp at h ⊢; omega
    rw [List.cons_append, tk22, if_neg h1, tk22_some S cs { P with bf := P.bf ++ [c] } L (by simp at h ⊢; omega)]
    simp
theorem tk22_full (S : Fs21) : ∀ (cs : List Int) (P : Pw22) (L : List Int), P.bf.length + cs.length = S.pg → 0 < cs.length →
    tk22 S P (cs ++ L) = if lyE22 S { P with bf := P.bf ++ cs } ≠ 0 then (lyS22 S { P with bf := P.bf ++ cs }, lyP22 S { P with bf := P.bf ++ cs }, lyE22 S { P with bf := P.bf ++ cs }) else tk22 (lyS22 S { P with bf := P.bf ++ cs }) (lyP22 S { P with bf := P.bf ++ cs }) L
  | [], P, L, _, h => by simp at h
  | [c], P, L, h, _ => by
    have h1 : (P.bf ++ [c]).length = S.pg := by simp at h ⊢; omega
    rw [List.cons_append, tk22, if_pos h1]
    rfl
  | c :: d :: cs, P, L, h, _ => by
    have h1 : ¬ (P.bf ++ [c]).length = S.pg := by simp at h ⊢; omega
    rw [List.cons_append, tk22, if_neg h1, tk22_full S (d :: cs) { P with bf := P.bf ++ [c] } L (by simp at h ⊢; omega) (by simp)]
    simp
def tkE22 (S : Fs21) (P : Pw22) (L : List Int) : Int := (tk22 S P L).2.2
def tkS22 (S : Fs21) (P : Pw22) (L : List Int) : Fs21 := (tk22 S P L).1
def tkP22 (S : Fs21) (P : Pw22) (L : List Int) : Pw22 := if (tk22 S P L).2.2 = 0 then { (tk22 S P L).2.1 with wn := (tk22 S P L).2.1.wn + L.length } else (tk22 S P L).2.1
section
variable {w w' : World} {v s g b pg : Nat} {F : Nat → Prop} {S : Fs21} {P P' : Pw22}
theorem Wr22.copy (h : Wr22 w v s g b pg P) {Y cs : List Int} (hY : w.heap[g]? = some (.cells ((P.bf ++ Y).map (Value.int .u8)).toArray 5 (0, 0))) (hl : P.bf.length + Y.length = pg) (hb : ∀ y ∈ P.bf ++ Y, 0 ≤ y ∧ y ≤ 255) (hc : ∀ y ∈ cs, 0 ≤ y ∧ y ≤ 255) (hn : P.bf.length + cs.length ≤ pg)
    (k5 : Kp (fun k => k = g) w w') (h5 : w'.heap[g]? = some (.cells ((sp21 (P.bf ++ Y) P.bf.length cs).map (Value.int .u8)).toArray 5 (0, 0))) (m : Nat) (hm : P.bf.length + cs.length = m) :
    Wr22 (w'.setCell ⟨s, 3, none⟩ (.int .i64 (m : Int))) v s g b pg { P with bf := P.bf ++ cs } := by
  have h1 := h.lt
  have e1 : w'.heap[v]? = w.heap[v]? := k5.block v h1.1 h.ne_vg
  have e2 : w'.heap[s]? = w.heap[s]? := k5.block s h1.2.1 h.ne_sg
  refine ⟨(set_other22 w' _ h.ne_vs).trans (e1.trans h.hv), ?_, Y.drop cs.length, ?_, ?_, ?_⟩
  · have := (seven_set22 (e2.trans h.hs) (.int .i64 (m : Int))).1
    rw [this]
    simp [← hm]
  · rw [set_other22 w' _ h.ne_sg.symm, h5, sp21_at P.bf Y cs _ rfl]
  · simp; omega
  · intro y hy
    simp at hy
    rcases hy with hy | hy | hy
    · exact hb y (by simp [hy])
    · exact hc y hy
    · exact hb y (List.mem_append_right _ (List.mem_of_mem_drop hy))
end
/-- What holds of take's loop behind k bytes. -/
structure Ti22 (w wr : World) (v s g b : Nat) (F : Nat → Prop) (S : Fs21) (P : Pw22) (L : List Int) (k : Nat) (F' : Nat → Prop) (S' : Fs21) (P' : Pw22) : Prop where
  pe : Pe22 wr v s g b F' S' P'
  fr : ∀ x, F' x → F x ∨ w.heap.size ≤ x
  kp : Kp (fun x => F x ∨ x = s ∨ x = g) w wr
  ok : Ok21 S'
  pg : S'.pg = S.pg
  tk : tk22 S P L = tk22 S' P' (L.drop k)
  lt : P'.bf.length < S'.pg
  ar : P'.ar = P.ar
  wn : P'.wn = P.wn
  pn : P'.pn ≤ P.pn + k
  lg : S'.lg.length ≤ S.lg.length + 2 * k
section
variable {w wr w2 : World} {v s g b : Nat} {F F' F2 : Nat → Prop} {S S' : Fs21} {P P' : Pw22} {L : List Int} {k : Nat}
theorem Ti22.some (h : Ti22 w wr v s g b F S P L k F' S' P') {nn : Nat} (hk : k + nn = L.length) (hn : P'.bf.length + nn < S'.pg) (hp : Pn22 wr w2 v s g b F' S' { P' with bf := P'.bf ++ (L.drop k).take nn }) :
    ∃ F2, Ti22 w w2 v s g b F S P L (k + nn) F2 S' { P' with bf := P'.bf ++ (L.drop k).take nn } := by
  obtain ⟨F2, h1, h2, h3⟩ := Pn22.cons h.fr h.kp hp
  have hl : ((L.drop k).take nn).length = nn := by simp; omega
  refine ⟨F2, h1, h2, h3, h.ok, h.pg, ?_, ?_, h.ar, h.wn, Nat.le_trans h.pn (by omega), Nat.le_trans h.lg (by omega)⟩
  · rw [h.tk, ← List.drop_drop]
    have := tk22_some S' ((L.drop k).take nn) P' ((L.drop k).drop nn) (by omega)
    rw [List.take_append_drop] at this
    exact this
  · simp only [List.length_append]; omega
theorem Ti22.full (h : Ti22 w wr v s g b F S P L k F' S' P') {nn : Nat} (hk : k + nn ≤ L.length) (h0 : 0 < nn) (hn : P'.bf.length + nn = S'.pg) (hE : lyE22 S' { P' with bf := P'.bf ++ (L.drop k).take nn } = 0)
    (hp : Pn22 wr w2 v s g b F' (lyS22 S' { P' with bf := P'.bf ++ (L.drop k).take nn }) (lyP22 S' { P' with bf := P'.bf ++ (L.drop k).take nn })) :
    ∃ F2, Ti22 w w2 v s g b F S P L (k + nn) F2 (lyS22 S' { P' with bf := P'.bf ++ (L.drop k).take nn }) (lyP22 S' { P' with bf := P'.bf ++ (L.drop k).take nn }) := by
  obtain ⟨F2, h1, h2, h3⟩ := Pn22.cons h.fr h.kp hp
  have hl : ((L.drop k).take nn).length = nn := by simp; omega
  have hy := lyS22_pg S' { P' with bf := P'.bf ++ (L.drop k).take nn }
  have hpg := h.ok.pg
  have hP : lyP22 S' { P' with bf := P'.bf ++ (L.drop k).take nn } = { P' with pn := P'.pn + 1, bf := [] } := by
    unfold lyP22; rw [if_neg (by rw [hE]; simp)]
  refine ⟨F2, h1, h2, h3, ok22_ly h.ok _, hy.1.trans h.pg, ?_, ?_, ?_, ?_, ?_, ?_⟩
  · rw [h.tk, ← List.drop_drop]
    have := tk22_full S' ((L.drop k).take nn) P' ((L.drop k).drop nn) (by omega) (by omega)
    rw [List.take_append_drop, if_neg (by rw [hE]; simp)] at this
    exact this
  · rw [hP, hy.1]; simp; omega
  · rw [hP]; exact h.ar
  · rw [hP]; exact h.wn
  · rw [hP]; have := h.pn; show P'.pn + 1 ≤ _; omega
  · have := h.lg; omega
theorem Ti22.no (h : Ti22 w wr v s g b F S P L k F' S' P') {nn : Nat} (hk : k + nn ≤ L.length) (h0 : 0 < nn) (hn : P'.bf.length + nn = S'.pg) (hE : lyE22 S' { P' with bf := P'.bf ++ (L.drop k).take nn } ≠ 0)
    (hp : Pn22 wr w2 v s g b F' (lyS22 S' { P' with bf := P'.bf ++ (L.drop k).take nn }) (lyP22 S' { P' with bf := P'.bf ++ (L.drop k).take nn })) :
    tkE22 S P L = lyE22 S' { P' with bf := P'.bf ++ (L.drop k).take nn } ∧ Pn22 w w2 v s g b F (tkS22 S P L) (tkP22 S P L) := by
  have hl : ((L.drop k).take nn).length = nn := by simp; omega
  have := tk22_full S' ((L.drop k).take nn) P' ((L.drop k).drop nn) (by omega) (by omega)
  rw [List.take_append_drop, if_pos hE, ← h.tk] at this
  unfold tkE22 tkS22 tkP22
  rw [this]
  refine ⟨rfl, ?_⟩
  rw [if_neg hE]
  exact Pn22.cons h.fr h.kp hp
theorem Ti22.fin (h : Ti22 w wr v s g b F S P L L.length F' S' P') (hp : Pn22 wr w2 v s g b F' S' { P' with wn := P.wn + L.length }) :
    tkE22 S P L = 0 ∧ Pn22 w w2 v s g b F (tkS22 S P L) (tkP22 S P L) := by
  have := h.tk
  rw [List.drop_eq_nil_of_le (Nat.le_refl _)] at this
  unfold tkE22 tkS22 tkP22
  rw [this, tk22]
  refine ⟨rfl, ?_⟩
  rw [if_pos rfl]
  have e := Pn22.cons h.fr h.kp hp
  rw [← h.wn] at e
  exact e
end
end Go.Proofs.Ythefcmhmcgjcoaa

namespace Go.Proofs.Ythefcmhmcgjcoaa
open Go.RowKit Go.Shelf
set_option linter.unusedVariables false
set_option linter.unusedSimpArgs false

/-! The landed page: take, walked. -/
theorem Pn22.more {w w1 w2 : World} {v s g b : Nat} {F : Nat → Prop} {S : Fs21} {P : Pw22} (h : Pn22 w w1 v s g b F S P) (hb : Below w1.heap.size w1 w2) : Pn22 w w2 v s g b F S P := by
  obtain ⟨F1, q, f, k⟩ := h
  exact Pn22.cons f k (q.stay hb)
set_option maxRecDepth 100000 in
set_option maxHeartbeats 16000000 in
theorem ptk22 {w : World} {v s g b : Nat} {F : Nat → Prop} {S : Fs21} {P : Pw22} (h : Pe22 w v s g b F S P) (hO : Ok21 S) (ha : In21 P.ar) (hp : P.pn ≤ 549755813888) (hw : P.wn ≤ 16777216) (hlg : S.lg.length ≤ 2199023255552) (hbf : P.bf.length < S.pg)
    (a : Option Addr) (L : List Int) (n cap : Nat) (hs : Seg w a L) (hn : Hid (L.length = n)) (hcap : n ≤ cap) (hl : n ≤ 16777216) (hap : ∀ x off, a = some ⟨x, off, none⟩ → 0 < n → ¬ F x ∧ x ≠ s ∧ x ≠ g) :
    Calls Try.prog 50 #[.pointer (some ⟨s, 0, none⟩), .slice a n cap] w fun e w' => e = .returned (.int .i64 (tkE22 S P L)) ∧ Pn22 w w' v s g b F (tkS22 S P L) (tkP22 S P L) := by
  have HI0 : Hid (Ti22 w w v s g b F S P L 0 F S P) := ⟨h, fun _ e => .inl e, Kp.refl _ _, hO, rfl, by simp, hbf, rfl, rfl, by omega, by omega⟩
  have HB0 : Hid (Seg w a L ∧ n ≤ cap ∧ ∀ x off, a = some ⟨x, off, none⟩ → 0 < n → ¬ F x ∧ x ≠ s ∧ x ≠ g) := ⟨hs, hcap, hap⟩
  have HB : Hid (In21 P.ar ∧ P.pn ≤ 549755813888 ∧ S.lg.length ≤ 2199023255552) := ⟨ha, hp, hlg⟩
  have HPG : Hid (64 ≤ S.pg ∧ S.pg ≤ 4096) := hO.pg
  clear h hO hs hcap hap ha hp hlg hbf
  go_enter Try.func50, Try.ntmps50
  go_wp2_with fail
  go_loopw [5] (fun tr wr => ∃ (k n' k' : Nat) (a' : Option Addr) (F' : Nat → Prop) (S' : Fs21) (P' : Pw22), tr = .slice a' n' k' ∧ Ti22 w wr v s g b F S P L k F' S' P' ∧ Seg wr a' (L.drop k) ∧ n' + k = n ∧ n' ≤ k' ∧ ∀ x off, a' = some ⟨x, off, none⟩ → 0 < n' → x < w.heap.size ∧ ¬ F x ∧ x ≠ s ∧ x ≠ g) (fun tr _ => sliceLen21 tr)
  case atStart =>
    refine ⟨0, n, cap, a, F, S, P, rfl, HI0.out, by simpa using HB0.out.1, by omega, HB0.out.2.1, fun x off e h0 => ⟨?_, HB0.out.2.2 x off e h0⟩⟩
    have := HB0.out.1
    obtain ⟨b', o', e', hc⟩ := this.at_ 0 (by rw [hn.out]; exact h0)
    rw [e] at e'; cases e'
    exact World.block_lt_of_cell? w _ hc
  case round =>
    obtain ⟨k, n', k', a', F', S', P', rfl, hT, hsg, hnk, hcp, hap⟩ := hrel
    have HT : Hid (Ti22 w wr v s g b F S P L k F' S' P') := hT
    by_cases h0 : 0 < n'
    · have h0i : (0 : Int) < (n' : Int) := by omega
      have hdl : (L.drop k).length = n' := by have := hn.out; simp; omega
      obtain ⟨ag, ao, ha', hcell⟩ := hsg.at_ 0 (by omega)
      subst ha'
      obtain ⟨ao1, ao2, ao3, ao4⟩ := hap ag ao rfl h0
      obtain ⟨Y, hY, hYl, hYb⟩ := hT.pe.wr.hg
      obtain ⟨BL, hBL⟩ : ∃ BL, BL = P'.bf.length := ⟨_, rfl⟩
      obtain ⟨pg, hpg⟩ : ∃ pg, pg = S'.pg := ⟨_, rfl⟩
      have hlt := hT.lt
      rw [← hBL, ← hpg] at hlt
      obtain ⟨nn, hnn⟩ : ∃ nn, nn = min n' (pg - BL) := ⟨_, rfl⟩
      obtain ⟨cs, hcs⟩ : ∃ cs, cs = (L.drop k).take nn := ⟨_, rfl⟩
      have hcl : cs.length = nn := by rw [hcs, List.length_take, hdl]; omega
      have hpgb := HPG.out
      have hpe : pg = S.pg := by rw [hpg]; exact hT.pg
      obtain ⟨HN, hHN⟩ : ∃ HN, HN = BL + nn := ⟨_, rfl⟩
      have c2 : wr.drew.cell? ⟨s, 2, none⟩ = some (.slice (some ⟨g, 0, none⟩) pg pg) := by rw [hpg]; exact hT.pe.wr.c2
      have c3 : wr.drew.cell? ⟨s, 3, none⟩ = some (.int .i64 (BL : Int)) := by rw [hBL]; exact hT.pe.wr.c3
      have hNd : ¬ pg = BL := by omega
      have hl1 : (BL : Int) ≤ (pg : Int) := by omega
      have hsl : s < wr.heap.size := hT.pe.wr.lt.2.1
      have hsgn : s ≠ g := hT.pe.wr.ne_sg
      have hadd : (BL : Int) + (nn : Int) = (HN : Int) := by omega
      have hwadd : IntKind.i64.wrap (HN : Int) = (HN : Int) := IntWalk.i64_in _ (by omega)
      have hnk1 : (nn : Int) ≤ (n' : Int) := by omega
      have hnk2 : (nn : Int) ≤ (k' : Int) := by omega
      have HY : Hid (wr.heap[g]? = some (.cells ((P'.bf ++ Y).map (Value.int .u8)).toArray 5 (0, 0))) := hY
      have HFIT : Hid (BL + nn ≤ (P'.bf ++ Y).length) := by show BL + nn ≤ _; rw [List.length_append, ← hBL]; omega
      have HCL : Hid (cs.length = nn) := hcl
      have HNN : Hid (nn = min n' (pg - BL)) := hnn
      have HSEG : Hid (Seg wr (some ⟨ag, ao, none⟩) cs) := by show Seg _ _ _; rw [hcs]; exact hsg.take nn
      have HSEG0 : Hid (Seg wr (some ⟨ag, ao, none⟩) (L.drop k)) := hsg
      have HCS : Hid (cs = (L.drop k).take nn) := hcs
      have hcb : ∀ y ∈ cs, 0 ≤ y ∧ y ≤ 255 := HSEG.out.mem
      have HWR : Hid (∀ w5 : World, w5.heap[g]? = some (.cells ((sp21 (P'.bf ++ Y) BL cs).map (Value.int .u8)).toArray 5 (0, 0)) → Kp (fun j => j = g) wr w5 → Pn22 wr (w5.setCell ⟨s, 3, none⟩ (.int .i64 (HN : Int))) v s g b F' S' { P' with bf := P'.bf ++ cs }) := fun w5 h5 k5 => by
        have e := hT.pe.wr.copy (w' := w5) (cs := cs) hY hYl hYb hcb (by omega) k5 (by rw [← hBL]; exact h5) HN (by omega)
        exact hT.pe.put ((k5.mono (S' := fun k => k = s ∨ k = g) (fun i _ e => .inr e)).trans (Kp.set (.inl rfl) _) (fun _ _ e => e)) e
      have HOUT : Hid (ag < wr.heap.size ∧ ¬ F' ag ∧ ag ≠ s ∧ ag ≠ g) := by
        refine ⟨Nat.lt_of_lt_of_le ao1 hT.kp.size, fun e => ?_, ao3, ao4⟩
        rcases hT.fr ag e with q | q
        · exact ao2 q
        · omega
      have HA : Hid (ag < w.heap.size ∧ ¬ F ag ∧ ag ≠ s ∧ ag ≠ g) := ⟨ao1, ao2, ao3, ao4⟩
      have HNUM : Hid (BL = P'.bf.length ∧ pg = S'.pg ∧ nn = min n' (pg - BL) ∧ HN = BL + nn ∧ (L.drop k).length = n' ∧ n' + k = n ∧ n' ≤ k' ∧ BL < pg ∧ pg = S.pg) := ⟨hBL, hpg, hnn, hHN, hdl, hnk, hcp, hlt, hpe⟩
      clear hY hYl hYb hBL hpg hnn hcs hcl hpe hHN hsg hdl hcell hcb hap hT ao1 ao2 ao3 ao4 hpgb hcp hnk
      go_wp2_with fail
      go_region_held3 (fun V => V.cell? ⟨s, 2, none⟩ = some (.slice (some ⟨g, 0, none⟩) pg pg) ∧ V.cell? ⟨s, 3, none⟩ = some (.int .i64 (BL : Int))) (first | exact ⟨c2, c3⟩ | exact k5c | go_keep)
        (first | (refine step_copy21 rfl (.tmp 20) (.tmp 21) 22 22 rfl 5 Try.underlying22 size_y21 rfl rfl g BL (P'.bf ++ Y) 5 (by exact HY.out) cs nn HCL.out (by have := HNN.out; show nn = min _ _; omega) (fun hp => ⟨by first | rfl | (simp; done) | (rw [if_neg hNd]; simp), by exact HSEG.out.drew⟩) HFIT.out ?_; intro w5 h5 k5; have k5c : w5.cell? ⟨s, 2, none⟩ = some (.slice (some ⟨g, 0, none⟩) pg pg) ∧ w5.cell? ⟨s, 3, none⟩ = some (.int .i64 (BL : Int)) := ⟨(World.cell?_of_block (a := ⟨s, 2, none⟩) (k5.block s hsl hsgn)).trans c2, (World.cell?_of_block (a := ⟨s, 3, none⟩) (k5.block s hsl hsgn)).trans c3⟩))
      obtain ⟨w6, hw6⟩ : ∃ w6, w6 = w5.setCell ⟨s, 3, none⟩ (.int .i64 (HN : Int)) := ⟨_, rfl⟩
      have HW6 : Hid (w5.setCell ⟨s, 3, none⟩ (.int .i64 (HN : Int)) = w6) := hw6.symm
      have hp6 := HWR.out w5 h5.out ⟨k5.os, k5.tape, k5.output, k5.size, k5.block⟩
      rw [← hw6] at hp6
      have HP6 : Hid (Pn22 wr w6 v s g b F' S' { P' with bf := P'.bf ++ cs }) := hp6
      obtain ⟨F6, q6, f6, kk6⟩ := hp6
      have HF6 : Hid ((∀ x, F6 x → F' x ∨ wr.heap.size ≤ x) ∧ Kp (fun x => F' x ∨ x = s ∨ x = g) wr w6) := ⟨f6, kk6⟩
      have HQ6 : Hid (Pe22 w6 v s g b F6 S' { P' with bf := P'.bf ++ cs }) := q6
      have e2 : w6.cell? ⟨s, 2, none⟩ = some (.slice (some ⟨g, 0, none⟩) pg pg) := by rw [HNUM.out.2.1]; exact q6.wr.c2
      have e3 : w6.cell? ⟨s, 3, none⟩ = some (.int .i64 (HN : Int)) := by
        have := q6.wr.c3
        simp only [List.length_append, HCL.out, ← HNUM.out.1] at this
        rw [← HNUM.out.2.2.2.1] at this
        exact this
      have y3 : w5.frozen? ⟨s, 3, none⟩ = false := by
        have := (k5.block s hsl hsgn).trans (HT.out.pe.wr.hs)
        simp [World.frozen?, this]
      obtain ⟨d2, d3⟩ := k5c
      have HSG : Hid (∀ w7 : World, Kp (fun x => F' x ∨ x = s ∨ x = g) wr w7 → Seg w7 (some ⟨ag, ao, none⟩) (L.drop k)) := fun w7 hk => HSEG0.out.kp hk (fun b' o' e' _ => by
        cases e'
        have := HOUT.out
        rintro (q | q | q)
        · exact this.2.1 q
        · exact this.2.2.1 q
        · exact this.2.2.2 q)
      have HEND : Hid (∀ w7 : World, Kp (fun x => F' x ∨ x = s ∨ x = g) wr w7 → Seg w7 (some (if k' = nn then (⟨ag, ao, none⟩ : Addr) else ⟨ag, ao + nn, none⟩)) (L.drop (k + nn)) ∧ (∀ x off, some (if k' = nn then (⟨ag, ao, none⟩ : Addr) else ⟨ag, ao + nn, none⟩) = some (⟨x, off, none⟩ : Addr) → 0 < n' - nn → x < w.heap.size ∧ ¬ F x ∧ x ≠ s ∧ x ≠ g)) := fun w7 hk => by
        obtain ⟨m1, m2, m3, m4, m5, m6, m7, m8, m9⟩ := HNUM.out
        constructor
        · by_cases hkn : k' = nn
          · have : (L.drop (k + nn)) = [] := by rw [← List.drop_drop]; exact List.drop_eq_nil_of_le (by omega)
            rw [this]
            exact SegK.nil (by decide) _ _
          · rw [if_neg hkn, ← List.drop_drop]
            exact (HSG.out w7 hk).drop nn
        · intro x off e _
          have : x = ag := by
            by_cases hkn : k' = nn
            · rw [if_pos hkn] at e; cases e; rfl
            · rw [if_neg hkn] at e; cases e; rfl
          rw [this]; exact HA.out
      clear q6 f6 kk6 hw6 k5 h5 c2 c3
      by_cases hkn : k' = nn
      all_goals
        by_cases hfull : HN = pg
        · subst hfull
          have HPL : Hid (∀ W : World, Below w6.heap.size w6 W → Calls Try.prog 61 #[.pointer (some ⟨s, 0, none⟩)] W fun e w' => e = .returned (.int .i64 (lyE22 S' { P' with bf := P'.bf ++ cs })) ∧ Pn22 wr w' v s g b F' (lyS22 S' { P' with bf := P'.bf ++ cs }) (lyP22 S' { P' with bf := P'.bf ++ cs })) := fun W hW => by
            have t := HT.out
            have hb := HB.out
            obtain ⟨m1, m2, m3, m4, m5, m6, m7, m8, m9⟩ := HNUM.out
            refine (play22 (HQ6.out.old hW) t.ok (by show In21 P'.ar; rw [t.ar]; exact hb.1) (by show P'.pn ≤ _; have := t.pn; omega) (by have := t.lg; omega)).mono ?_
            rintro e w' ⟨rfl, hn⟩
            exact ⟨rfl, Pn22.cons HF6.out.1 HF6.out.2 (hn.from hW)⟩
          obtain ⟨E, hE⟩ : ∃ E, E = lyE22 S' { P' with bf := P'.bf ++ cs } := ⟨_, rfl⟩
          rw [← hE] at HPL
          have HE : Hid (E = lyE22 S' { P' with bf := P'.bf ++ cs }) := hE
          clear hE
          by_cases hE0 : E = 0
          · subst hE0
            go_wp2_with fail
            rw [HW6.out]
            go_quiet (fail)
            go_wp2_with fail
            refine (HPL.out _ (below_drewN21 (Below.refl _ _) _)).mono ?_
            rintro e w7 ⟨rfl, hn7⟩
            go_wp2_with fail
            obtain ⟨m1, m2, m3, m4, m5, m6, m7, m8, m9⟩ := HNUM.out
            have hk7 : Kp (fun x => F' x ∨ x = s ∨ x = g) wr w7 := by obtain ⟨_, _, _, q⟩ := hn7; exact q
            have hcs := HCS.out
            rw [hcs] at hn7
            obtain ⟨F2, hT2⟩ := HT.out.full (nn := nn) (by have := hn.out; omega) (by omega) (by omega) (by rw [← hcs]; exact HE.out.symm) hn7
            refine ⟨⟨k + nn, n' - nn, k' - nn, some (if k' = nn then (⟨ag, ao, none⟩ : Addr) else ⟨ag, ao + nn, none⟩), F2, _, _, by simp [hkn], hT2, (HEND.out w7 hk7).1, by omega, by omega, (HEND.out w7 hk7).2⟩, ?_⟩
            show n' - nn < n'
            omega
          · have hE0' : (E == 0) = false := by simp [hE0]
            go_wp2_with fail
            rw [HW6.out]
            go_quiet (fail)
            go_wp2_with fail
            refine (HPL.out _ (below_drewN21 (Below.refl _ _) _)).mono ?_
            rintro e w7 ⟨rfl, hn7⟩
            go_wp2_with fail
            go_ret
            obtain ⟨m1, m2, m3, m4, m5, m6, m7, m8, m9⟩ := HNUM.out
            have hcs := HCS.out
            rw [hcs] at hn7
            have hE1 := HE.out
            rw [hcs] at hE1
            have hno := HT.out.no (nn := nn) (by have := hn.out; omega) (by omega) (by omega) (by rw [← hE1]; exact hE0) hn7
            rw [← hE1] at hno
            exact ⟨by rw [hno.1]; first | done | rfl, hno.2⟩
        · have hne : ((HN : Int) == (pg : Int)) = false := by simp; omega
          go_wp2_with fail
          rw [HW6.out]
          go_quiet (fail)
          go_wp2_with fail
          obtain ⟨m1, m2, m3, m4, m5, m6, m7, m8, m9⟩ := HNUM.out
          have hp7 := HP6.out.more (below_drewN21 (Below.refl _ _) nq)
          have hk7 : Kp (fun x => F' x ∨ x = s ∨ x = g) wr (w6.drewN nq) := by obtain ⟨_, _, _, q⟩ := hp7; exact q
          have hcs := HCS.out
          rw [hcs] at hp7
          obtain ⟨F2, hT2⟩ := HT.out.some (nn := nn) (by have := hn.out; omega) (by omega) hp7
          refine ⟨⟨k + nn, n' - nn, k' - nn, some (if k' = nn then (⟨ag, ao, none⟩ : Addr) else ⟨ag, ao + nn, none⟩), F2, _, _, by simp [hkn], hT2, (HEND.out _ hk7).1, by omega, by omega, (HEND.out _ hk7).2⟩, ?_⟩
          show n' - nn < n'
          omega
    · obtain rfl : n' = 0 := by omega
      obtain rfl : k = n := by omega
      have h0i : ¬ (0 : Int) < ((0 : Nat) : Int) := by omega
      have c5 : wr.cell? ⟨s, 5, none⟩ = some (.int .i64 (P.wn : Int)) := by rw [← hT.wn]; exact hT.pe.wr.c5
      have y5 := hT.pe.wr.fr 5
      obtain ⟨WN, hWN⟩ : ∃ WN, WN = P.wn + k := ⟨_, rfl⟩
      have hadd : (P.wn : Int) + (k : Int) = (WN : Int) := by omega
      have hwadd : IntKind.i64.wrap (WN : Int) = (WN : Int) := IntWalk.i64_in _ (by omega)
      have HWN : Hid (WN = P.wn + k) := hWN
      clear hT hsg hap hWN HI0
      go_wp2_with fail
      go_ret
      have e := hn.out
      subst e
      have := HT.out.fin (w2 := wr.setCell ⟨s, 5, none⟩ (.int .i64 (WN : Int))) (HT.out.pe.put (Kp.set (.inl rfl) _) (by rw [← HWN.out]; exact HT.out.pe.wr.setW WN))
      rw [this.1]
      exact ⟨rfl, this.2⟩
end Go.Proofs.Ythefcmhmcgjcoaa

namespace Go.Proofs.Ythefcmhmcgjcoaa
open Go.RowKit Go.Shelf
set_option linter.unusedVariables false
set_option linter.unusedSimpArgs false

/-! The landed page: Write, End. -/
def enE22 (S : Fs21) (P : Pw22) : Int := if 0 < P.bf.length then lyE22 S P else 0
def enS22 (S : Fs21) (P : Pw22) : Fs21 := if 0 < P.bf.length then lyS22 S P else S
def enP22 (S : Fs21) (P : Pw22) : Pw22 := if 0 < P.bf.length then (if lyE22 S P ≠ 0 then lyP22 S P else { lyP22 S P with cl := 221 }) else { P with cl := 221 }
def edE22 (S : Fs21) (P : Pw22) : Int := if P.cl ≠ 0 then P.cl else enE22 S P
def edS22 (S : Fs21) (P : Pw22) : Fs21 := if P.cl ≠ 0 then S else enS22 S P
def edP22 (S : Fs21) (P : Pw22) : Pw22 := if P.cl ≠ 0 then P else enP22 S P
def fu22 (S : Fs21) (P : Pw22) (n : Nat) : Prop := (mx22 S : Int) - (P.wn : Int) < (n : Int)
instance (S : Fs21) (P : Pw22) (n : Nat) : Decidable (fu22 S P n) := inferInstanceAs (Decidable ((mx22 S : Int) - (P.wn : Int) < (n : Int)))
def wrE22 (S : Fs21) (P : Pw22) (L : List Int) : Int := if P.cl ≠ 0 then P.cl else if fu22 S P L.length then 220 else tkE22 S P L
def wrS22 (S : Fs21) (P : Pw22) (L : List Int) : Fs21 := if P.cl ≠ 0 then S else if fu22 S P L.length then S else tkS22 S P L
def wrP22 (S : Fs21) (P : Pw22) (L : List Int) : Pw22 := if P.cl ≠ 0 then P else if fu22 S P L.length then P else tkP22 S P L
section
variable {w w' : World} {v s g b : Nat} {F : Nat → Prop} {S : Fs21} {P : Pw22}
set_option maxRecDepth 100000 in
set_option maxHeartbeats 4000000 in
theorem pen22 (h : Pe22 w v s g b F S P) (hO : Ok21 S) (ha : In21 P.ar) (hp : P.pn ≤ 549755813888) (hlg : S.lg.length ≤ 2199023255552) :
    Calls Try.prog 53 #[.pointer (some ⟨s, 0, none⟩)] w fun e w' => e = .returned (.int .i64 (enE22 S P)) ∧ Pn22 w w' v s g b F (enS22 S P) (enP22 S P) := by
  have HP : Hid (Pe22 w v s g b F S P) := h
  have HL := play22 h hO ha (by omega) (by omega)
  have c3 := h.wr.c3
  have c6 := h.wr.c6
  have y6 := h.wr.fr 6
  have hE : Hid (enE22 S P = if 0 < P.bf.length then lyE22 S P else 0) := rfl
  have hS : Hid (enS22 S P = if 0 < P.bf.length then lyS22 S P else S) := rfl
  have hP : Hid (enP22 S P = if 0 < P.bf.length then (if lyE22 S P ≠ 0 then lyP22 S P else { lyP22 S P with cl := 221 }) else { P with cl := 221 }) := rfl
  rw [hE.out, hS.out, hP.out]
  clear h hE hS hP
  obtain ⟨BL, hBL⟩ : ∃ BL, BL = P.bf.length := ⟨_, rfl⟩
  rw [← hBL] at c3
  rw [← hBL]
  clear hBL
  by_cases h0 : 0 < BL
  · have h0i : (0 : Int) < (BL : Int) := by omega
    rw [if_pos h0, if_pos h0, if_pos h0]
    generalize lyE22 S P = E at *
    generalize lyS22 S P = S1 at *
    generalize lyP22 S P = P1 at *
    by_cases hE : E = 0
    · subst hE
      rw [if_neg (by simp)]
      clear c6 y6
      go_enter Try.func53, Try.ntmps53
      go_wp2_with fail
      refine HL.mono ?_
      rintro e w1 ⟨rfl, hn1⟩
      obtain ⟨F1, q1, f1, k1⟩ := hn1
      have HF1 : Hid ((∀ k, F1 k → F k ∨ w.heap.size ≤ k) ∧ Kp (fun k => F k ∨ k = s ∨ k = g) w w1) := ⟨f1, k1⟩
      have HQ1 : Hid (Pe22 w1 v s g b F1 S1 P1) := q1
      have c6 := q1.wr.c6
      have y6 := q1.wr.fr 6
      clear q1 f1 k1
      go_wp2_with fail
      go_ret
      exact ⟨rfl, Pn22.cons HF1.out.1 HF1.out.2 (HQ1.out.put (Kp.set (.inl rfl) _) (HQ1.out.wr.setC 221))⟩
    · have hE' : (E == 0) = false := by simp [hE]
      rw [if_pos hE]
      go_enter Try.func53, Try.ntmps53
      go_wp2_with fail
      refine HL.mono ?_
      rintro e w1 ⟨rfl, hn1⟩
      have HN1 : Hid (Pn22 w w1 v s g b F S1 P1) := hn1
      clear hn1
      go_wp2_with fail
      go_ret
      exact ⟨rfl, HN1.out⟩
  · have h0i : ¬ (0 : Int) < (BL : Int) := by omega
    rw [if_neg h0, if_neg h0, if_neg h0]
    clear HL
    go_enter Try.func53, Try.ntmps53
    go_wp2_with fail
    go_ret
    exact ⟨rfl, HP.out.put (Kp.set (.inl rfl) _) (HP.out.wr.setC 221)⟩
set_option maxRecDepth 100000 in
set_option maxHeartbeats 4000000 in
theorem ped22 (h : Pe22 w v s g b F S P) (hO : Ok21 S) (ha : In21 P.ar) (hp : P.pn ≤ 549755813888) (hlg : S.lg.length ≤ 2199023255552) :
    Calls Try.prog 25 #[.pointer (some ⟨v, 0, none⟩)] w fun e w' => e = .returned (.int .i64 (edE22 S P)) ∧ Pn22 w w' v s g b F (edS22 S P) (edP22 S P) := by
  have HP : Hid (Pe22 w v s g b F S P) := h
  have HL := pen22 h hO ha hp hlg
  have HS := pst22 h.wr
  have cv := h.wr.cv
  have hE : Hid (edE22 S P = if P.cl ≠ 0 then P.cl else enE22 S P) := rfl
  have hS : Hid (edS22 S P = if P.cl ≠ 0 then S else enS22 S P) := rfl
  have hP : Hid (edP22 S P = if P.cl ≠ 0 then P else enP22 S P) := rfl
  rw [hE.out, hS.out, hP.out]
  clear h hE hS hP
  generalize enE22 S P = E at *
  generalize enS22 S P = S1 at *
  generalize enP22 S P = P1 at *
  obtain ⟨C, hC⟩ : ∃ C, C = P.cl := ⟨_, rfl⟩
  rw [← hC] at HS
  rw [← hC]
  clear hC
  by_cases h0 : C = 0
  · subst h0
    rw [if_neg (show ¬ ((0 : Int) ≠ 0) by simp), if_neg (show ¬ ((0 : Int) ≠ 0) by simp), if_neg (show ¬ ((0 : Int) ≠ 0) by simp)]
    go_enter Try.func25, Try.ntmps25
    go_wp2_with fail
    refine HS.mono ?_
    rintro e w1 ⟨rfl, hw⟩
    subst w1
    go_wp2_with fail
    refine HL.mono ?_
    rintro e w1 ⟨rfl, hn1⟩
    have HN1 : Hid (Pn22 w w1 v s g b F S1 P1) := hn1
    clear hn1
    go_wp2_with fail
    go_ret
    exact ⟨rfl, HN1.out⟩
  · have h0' : (C == 0) = false := by simp [h0]
    rw [if_pos h0, if_pos h0, if_pos h0]
    go_enter Try.func25, Try.ntmps25
    go_wp2_with fail
    refine HS.mono ?_
    rintro e w1 ⟨rfl, hw⟩
    subst w1
    go_wp2_with fail
    go_ret
    exact ⟨rfl, HP.out.stay (Below.refl _ _)⟩
set_option maxRecDepth 100000 in
set_option maxHeartbeats 4000000 in
theorem pwr22 (h : Pe22 w v s g b F S P) (hO : Ok21 S) (ha : In21 P.ar) (hp : P.pn ≤ 549755813888) (hw : P.wn ≤ 16777216) (hlg : S.lg.length ≤ 2199023255552) (hbf : P.cl = 0 → P.bf.length < S.pg)
    (a : Option Addr) (L : List Int) (n cap : Nat) (hs : Seg w a L) (hn : Hid (L.length = n)) (hcap : n ≤ cap) (hl : n ≤ 281474976710656) (hap : ∀ x off, a = some ⟨x, off, none⟩ → 0 < n → ¬ F x ∧ x ≠ s ∧ x ≠ g) :
    Calls Try.prog 23 #[.pointer (some ⟨v, 0, none⟩), .slice a n cap] w fun e w' => e = .returned (.int .i64 (wrE22 S P L)) ∧ Pn22 w w' v s g b F (wrS22 S P L) (wrP22 S P L) := by
  have HP : Hid (Pe22 w v s g b F S P) := h
  have HS := pst22 h.wr
  have HLF := plf22 h hO hw
  have cv := h.wr.cv
  have hmx := mx22_bd hO
  have HFU : Hid (fu22 S P n ↔ (mx22 S : Int) - (P.wn : Int) < (n : Int)) := Iff.rfl
  have HTK : Hid (P.cl = 0 → ¬ fu22 S P n → ∀ W : World, Below w.heap.size w W → Calls Try.prog 50 #[.pointer (some ⟨s, 0, none⟩), .slice a n cap] W fun e w' => e = .returned (.int .i64 (tkE22 S P L)) ∧ Pn22 W w' v s g b F (tkS22 S P L) (tkP22 S P L)) := fun h0 h1 W hW =>
    ptk22 (h.old hW) hO ha hp hw hlg (hbf h0) a L n cap (hs.old hW) hn hcap (by unfold fu22 at h1; omega) hap
  have hE : Hid (wrE22 S P L = if P.cl ≠ 0 then P.cl else if fu22 S P n then 220 else tkE22 S P L) := by show _ = _; unfold wrE22; rw [hn.out]
  have hS : Hid (wrS22 S P L = if P.cl ≠ 0 then S else if fu22 S P n then S else tkS22 S P L) := by show _ = _; unfold wrS22; rw [hn.out]
  have hP : Hid (wrP22 S P L = if P.cl ≠ 0 then P else if fu22 S P n then P else tkP22 S P L) := by show _ = _; unfold wrP22; rw [hn.out]
  rw [hE.out, hS.out, hP.out]
  have hlt := h.wr.lt
  clear h hE hS hP hs hap hbf hO
  generalize tkE22 S P L = E at *
  generalize tkS22 S P L = S1 at *
  generalize tkP22 S P L = P1 at *
  obtain ⟨C, hC⟩ : ∃ C, C = P.cl := ⟨_, rfl⟩
  rw [← hC] at HS HTK
  rw [← hC]
  clear hC
  by_cases h0 : C = 0
  · subst h0
    rw [if_neg (show ¬ ((0 : Int) ≠ 0) by simp), if_neg (show ¬ ((0 : Int) ≠ 0) by simp), if_neg (show ¬ ((0 : Int) ≠ 0) by simp)]
    by_cases h1 : fu22 S P n
    · rw [if_pos h1, if_pos h1, if_pos h1]
      have h1i := HFU.out.1 h1
      obtain ⟨LF, hLF⟩ : ∃ LF, LF = (mx22 S : Int) - (P.wn : Int) := ⟨_, rfl⟩
      rw [← hLF] at HLF h1i
      clear hLF HTK h1 HFU hmx
      go_enter Try.func23, Try.ntmps23
      go_wp2_with fail
      refine HS.mono ?_
      rintro e w1 ⟨rfl, hw1⟩
      subst w1
      go_wp2_with fail
      refine HLF.mono ?_
      rintro e w1 ⟨rfl, b1⟩
      go_wp2_with fail
      go_ret
      exact ⟨rfl, HP.out.stay b1⟩
    · rw [if_neg h1, if_neg h1, if_neg h1]
      have h1i : ¬ (mx22 S : Int) - (P.wn : Int) < (n : Int) := fun e => h1 (HFU.out.2 e)
      have HT : Hid (∀ W : World, Below w.heap.size w W → Calls Try.prog 50 #[.pointer (some ⟨s, 0, none⟩), .slice a n cap] W fun e w' => e = .returned (.int .i64 E) ∧ Pn22 W w' v s g b F S1 P1) := HTK.out rfl h1
      obtain ⟨LF, hLF⟩ : ∃ LF, LF = (mx22 S : Int) - (P.wn : Int) := ⟨_, rfl⟩
      rw [← hLF] at HLF h1i
      clear hLF HTK h1 HFU hmx
      go_enter Try.func23, Try.ntmps23
      go_wp2_with fail
      refine HS.mono ?_
      rintro e w1 ⟨rfl, hw1⟩
      subst w1
      go_wp2_with fail
      refine HLF.mono ?_
      rintro e w1 ⟨rfl, b1⟩
      have cv1 := (HP.out.old b1).wr.cv
      go_wp2_with fail
      refine (HT.out _ b1).mono ?_
      rintro e w2 ⟨rfl, hn2⟩
      have HN2 : Hid (Pn22 w w2 v s g b F S1 P1) := hn2.from b1
      clear hn2
      go_wp2_with fail
      go_ret
      exact ⟨rfl, HN2.out⟩
  · have h0' : (C == 0) = false := by simp [h0]
    rw [if_pos h0, if_pos h0, if_pos h0]
    clear HTK HLF
    go_enter Try.func23, Try.ntmps23
    go_wp2_with fail
    refine HS.mono ?_
    rintro e w1 ⟨rfl, hw⟩
    subst w1
    go_wp2_with fail
    go_ret
    exact ⟨rfl, HP.out.stay (Below.refl _ _)⟩
end
end Go.Proofs.Ythefcmhmcgjcoaa

namespace Go.Proofs.Ythefcmhmcgjcoaa
open Go.RowKit Go.Shelf
set_option linter.unusedVariables false
set_option linter.unusedSimpArgs false

/-! The document's page writer: End. -/
section
variable {w w' : World} {u b : Nat} {G H : Nat → Prop} {ha : Option Addr} {hc : Nat} {S S' : Fs21} {P P' : Pw22}
theorem Rw22.setO (h : Rw22 w u b ha hc P) (h0 : P.cl = 0) : Rw22 (w.setCell ⟨u, 6, none⟩ (.bool true)) u b ha hc { P with cl := 221 } := by
  refine ⟨?_, own_tr22 h.ow (fun r hr => set_other22 w _ (h.ne r hr)), h.ne, h.bd⟩
  have q := (seven_set22 h.hu (.bool true)).2.2.2
  have e1 : (if P.cl = 221 then 0 else P.cl) = 0 := by rw [h0]; rfl
  rw [e1] at q
  exact q
theorem Rh22.over (h : Rh22 w u b G H ha hc S P) (h0 : P.cl = 0) : Ren22 w (w.setCell ⟨u, 6, none⟩ (.bool true)) u b H S { P with cl := 221 } := by
  have hk : Kp H w (w.setCell ⟨u, 6, none⟩ (.bool true)) := Kp.set h.uH _
  refine ⟨H, ⟨G, ha, hc, ⟨h.fl.kp (fun k e => set_other22 w _ (fun q => h.nu (q ▸ e))) hk.size, h.wr.setO h0, h.nu, h.nh, h.gH, h.uH, h.hH, fun k e => Nat.lt_of_lt_of_le (h.lt k e) hk.size⟩⟩, fun _ e => .inl e, hk⟩
theorem Rh22.same (h : Rh22 w u b G H ha hc S P) : Ren22 w w u b H S P := ⟨H, ⟨G, ha, hc, h⟩, fun _ e => .inl e, Kp.refl _ _⟩
set_option maxRecDepth 100000 in
set_option maxHeartbeats 8000000 in
theorem rend22 (h : Re22 w u b H S P) (hO : Ok21 S) (har : In21 P.ar) (hp : P.pn ≤ 549755813888) (hlg : S.lg.length ≤ 2199023255552) (hbl : P.bf.length ≤ 4096) :
    Calls Try.prog 26 #[.pointer (some ⟨u, 0, none⟩)] w fun e w' => e = .returned (.int .i64 (edE22 S P)) ∧ Ren22 w w' u b H (edS22 S P) (edP22 S P) := by
  obtain ⟨G, ha, hc, h⟩ := h
  have HH : Hid (Rh22 w u b G H ha hc S P) := h
  have hMY := rmay22 h.wr
  have HFL : Hid (P.cl = 0 → Calls Try.prog 52 #[.pointer (some ⟨u, 0, none⟩)] w fun e w' => e = .returned (.int .i64 (lyE22 S P)) ∧ Ren22 w w' u b H (lyS22 S P) (lyP22 S P)) := fun hcl => rflu22 h hO hcl har hp hlg
  have hE : Hid (edE22 S P = if P.cl ≠ 0 then P.cl else if 0 < P.bf.length then lyE22 S P else 0) := rfl
  have hS : Hid (edS22 S P = if P.cl ≠ 0 then S else if 0 < P.bf.length then lyS22 S P else S) := rfl
  have hP : Hid (edP22 S P = if P.cl ≠ 0 then P else if 0 < P.bf.length then (if lyE22 S P ≠ 0 then lyP22 S P else { lyP22 S P with cl := 221 }) else { P with cl := 221 }) := rfl
  have HL : Hid (lyE22 S P = 0 → (lyP22 S P).cl = P.cl) := fun e => by unfold lyP22; rw [if_neg (by rw [e]; simp)]
  have c2 : w.cell? ⟨u, 2, none⟩ = some (.slice ha P.bf.length hc) := h.wr.cel rfl
  have y6 : w.frozen? ⟨u, 6, none⟩ = false := by simp [World.frozen?, h.wr.hu]
  have z6 : w.cell? ⟨u, 6, none⟩ = some (.bool (decide (P.cl = 221))) := h.wr.cel rfl
  rw [hE.out, hS.out, hP.out]
  clear h hO har hp hlg hE hS hP
  by_cases hcl : P.cl = 0
  · have HCL : Hid (P.cl = 0) := hcl
    rw [hcl] at hMY
    have hFL := HFL.out hcl
    rw [if_neg (show ¬ P.cl ≠ 0 by simp [hcl]), if_neg (show ¬ P.cl ≠ 0 by simp [hcl]), if_neg (show ¬ P.cl ≠ 0 by simp [hcl])]
    clear hcl
    obtain ⟨BL, hBL⟩ : ∃ BL, BL = P.bf.length := ⟨_, rfl⟩
    rw [← hBL] at c2 hbl
    rw [← hBL]
    clear hBL
    by_cases hb : 0 < BL
    · have hbi : (0 : Int) < (BL : Int) := by omega
      rw [if_pos hb, if_pos hb, if_pos hb]
      generalize hEE : lyE22 S P = E at *
      have HEE : Hid (E = 0 → (lyP22 S P).cl = P.cl) := HL.out
      clear hEE
      by_cases hE : E = 0
      · subst hE
        rw [if_neg (show ¬ ((0 : Int) ≠ 0) by simp)]
        go_enter Try.func26, Try.ntmps26
        go_wp2_with fail
        refine hMY.mono ?_
        rintro e w1 ⟨rfl, hw1⟩
        subst w1
        go_wp2_with fail
        refine hFL.mono ?_
        rintro e w2 ⟨rfl, H2, ⟨G2, ha2, hc2, q2⟩, f2, k2⟩
        have HQ2 : Hid (Rh22 w2 u b G2 H2 ha2 hc2 (lyS22 S P) (lyP22 S P) ∧ (∀ k, H2 k → H k ∨ w.heap.size ≤ k) ∧ Kp H w w2) := ⟨q2, f2, k2⟩
        have x6 : w2.frozen? ⟨u, 6, none⟩ = false := by simp [World.frozen?, q2.wr.hu]
        have t6 : w2.cell? ⟨u, 6, none⟩ = some (.bool (decide ((lyP22 S P).cl = 221))) := q2.wr.cel rfl
        clear q2 f2 k2 hMY hFL
        go_wp2_with fail
        go_ret
        exact ⟨rfl, Ren22.cons HQ2.out.2.1 HQ2.out.2.2 (HQ2.out.1.over ((HEE.out (by trivial)).trans HCL.out))⟩
      · have hE' : (E == 0) = false := by simp [hE]
        rw [if_pos hE]
        go_enter Try.func26, Try.ntmps26
        go_wp2_with fail
        refine hMY.mono ?_
        rintro e w1 ⟨rfl, hw1⟩
        subst w1
        go_wp2_with fail
        refine hFL.mono ?_
        rintro e w2 ⟨rfl, hn2⟩
        have HN2 : Hid (Ren22 w w2 u b H (lyS22 S P) (lyP22 S P)) := hn2
        clear hn2 hMY hFL
        go_wp2_with fail
        go_ret
        exact ⟨rfl, HN2.out⟩
    · have hbi : ¬ (0 : Int) < (BL : Int) := by omega
      rw [if_neg hb, if_neg hb, if_neg hb]
      clear hFL
      go_enter Try.func26, Try.ntmps26
      go_wp2_with fail
      refine hMY.mono ?_
      rintro e w1 ⟨rfl, hw1⟩
      subst w1
      go_wp2_with fail
      go_ret
      exact ⟨rfl, HH.out.over HCL.out⟩
  · rw [if_pos hcl, if_pos hcl, if_pos hcl]
    generalize P.cl = c at *
    have hcl' : (c == 0) = false := by simp [hcl]
    go_enter Try.func26, Try.ntmps26
    go_wp2_with fail
    refine hMY.mono ?_
    rintro e w1 ⟨rfl, hw1⟩
    subst w1
    go_wp2_with fail
    go_ret
    exact ⟨rfl, HH.out.same⟩
end
end Go.Proofs.Ythefcmhmcgjcoaa

namespace Go.Proofs.Ythefcmhmcgjcoaa
open Go.RowKit Go.Shelf
set_option linter.unusedVariables false
set_option linter.unusedSimpArgs false

/-! What stands in the pages behind bytes that were written (pure). -/
def ch22 (pg : Nat) (L : List Int) (y : Nat) : List Int := (L.drop (y * pg)).take pg
/-- A flash that nothing stops. -/
structure Qt22 (S : Fs21) : Prop where
  on : S.on = true
  lf : S.lf = 0
  lm : S.lm = 0
theorem sh21_go (S : Fs21) (kd x y : Int) (s : Sh21) (x' y' : Int) : sh21 (go21 S kd x y s) x' y' = if x' = x ∧ y' = y then s else sh21 S x' y' := by
  have := sh21_up S x y s x' y'
  rw [← this]
  rfl
theorem rn22 {S : Fs21} (h : Qt22 S) (kd x y : Int) (s : Sh21) : rn21 S kd x y s = go21 S kd x y s ∧ Qt22 (go21 S kd x y s) ∧ rc21 S = 0 := by
  have h1 := h.lf
  refine ⟨?_, ⟨h.on, ?_, h.lm⟩, ?_⟩
  · unfold rn21; rw [if_neg (by omega)]
  · show max 0 (S.lf - 1) = 0; omega
  · unfold rc21; rw [if_neg (by omega)]
theorem ly22_hold {S : Fs21} {P : Pw22} (h : Qt22 S) (har : P.ar = 0 ∨ P.ar = 1) (hpn : P.pn < S.ps) (hbf : P.bf.length ≤ S.pg) (hwr : (sh21 S P.ar (P.pn : Int)).wr = 0) :
    lyE22 S P = 0 ∧ lyP22 S P = { P with pn := P.pn + 1, bf := [] } ∧ Qt22 (lyS22 S P) ∧ (lyS22 S P).lg = S.lg ++ [(1, P.ar, (P.pn : Int)), (2, P.ar, (P.pn : Int))] ∧ ∀ x y, sh21 (lyS22 S P) x y = if x = P.ar ∧ y = (P.pn : Int) then ⟨P.bf, false, 1⟩ else sh21 S x y := by
  have hms : ms21 S.ps P.ar (P.pn : Int) = 0 := by
    have hpn21 : pn21 S.ps P.ar = (S.ps : Int) := by unfold pn21; rw [if_neg (by omega), if_neg (by omega)]
    unfold ms21
    rw [hpn21, if_neg (by omega)]
  have hrf : rf21 S.on S.ps P.ar (P.pn : Int) = 0 := by rw [h.on]; exact hms
  have hwo : wo21 S P.ar (P.pn : Int) = false := by unfold wo21; rw [hwr, h.lm]; decide
  obtain ⟨r1, r2, r3⟩ := rn22 h 1 P.ar (P.pn : Int) ⟨[], true, (sh21 S P.ar (P.pn : Int)).wr + 1⟩
  have e1 : erE21 S P.ar (P.pn : Int) = 0 := by unfold erE21; rw [hrf, if_neg (by simp), hwo]; exact r3
  have e2 : erS21 S P.ar (P.pn : Int) = go21 S 1 P.ar (P.pn : Int) ⟨[], true, (sh21 S P.ar (P.pn : Int)).wr + 1⟩ := by unfold erS21; rw [hrf, if_neg (by simp), hwo, if_neg (by simp)]; exact r1
  obtain ⟨S1, hS1⟩ : ∃ S1, S1 = go21 S 1 P.ar (P.pn : Int) ⟨[], true, (sh21 S P.ar (P.pn : Int)).wr + 1⟩ := ⟨_, rfl⟩
  rw [← hS1] at e2 r2
  have hs1 : sh21 S1 P.ar (P.pn : Int) = ⟨[], true, 1⟩ := by rw [hS1, sh21_go, hwr]; simp
  have hrf1 : rf21 S1.on S1.ps P.ar (P.pn : Int) = 0 := by rw [r2.on, show S1.ps = S.ps by rw [hS1]; rfl]; exact hms
  have hpg1 : S1.pg = S.pg := by rw [hS1]; rfl
  obtain ⟨q1, q2, q3⟩ := rn22 r2 2 P.ar (P.pn : Int) ⟨P.bf, false, (sh21 S1 P.ar (P.pn : Int)).wr⟩
  have e3 : pgE21 S1 P.ar (P.pn : Int) P.bf.length = 0 := by unfold pgE21; rw [hrf1, if_neg (by simp), if_neg (by omega), hs1, if_neg (by simp)]; exact q3
  have e4 : pgS21 S1 P.ar (P.pn : Int) P.bf = go21 S1 2 P.ar (P.pn : Int) ⟨P.bf, false, (sh21 S1 P.ar (P.pn : Int)).wr⟩ := by unfold pgS21; rw [hrf1, if_neg (by simp), if_neg (by omega)]; rw [if_neg (by rw [hs1]; simp)]; exact q1
  have hE : lyE22 S P = 0 := by unfold lyE22; rw [e1, if_neg (by simp), e2]; exact e3
  have hS : lyS22 S P = go21 S1 2 P.ar (P.pn : Int) ⟨P.bf, false, (sh21 S1 P.ar (P.pn : Int)).wr⟩ := by unfold lyS22; rw [e1, if_neg (by simp), e2]; exact e4
  refine ⟨hE, ?_, by rw [hS]; exact q2, ?_, fun x y => ?_⟩
  · unfold lyP22; rw [if_neg (by rw [hE]; simp)]
  · rw [hS]
    show S1.lg ++ _ = _
    rw [hS1]
    show (S.lg ++ _) ++ _ = _
    simp
  · rw [hS, sh21_go, hs1]
    by_cases e : x = P.ar ∧ y = (P.pn : Int)
    · rw [if_pos e, if_pos e]
    · rw [if_neg e, if_neg e, hS1, sh21_go, if_neg e]
/-- What holds behind the bytes L. -/
structure Hp22 (S0 S : Fs21) (P : Pw22) (ar : Int) (L : List Int) : Prop where
  qt : Qt22 S
  pg : S.pg = S0.pg
  ps : S.ps = S0.ps
  ac : S.ac = S0.ac
  ok : Ok21 S
  sh : ∀ x y : Int, sh21 S x y = if x = ar ∧ 0 ≤ y ∧ y < (P.pn : Int) then ⟨ch22 S0.pg L y.toNat, false, 1⟩ else sh21 S0 x y
  pn : P.pn * S0.pg + P.bf.length = L.length
  bf : P.bf = L.drop (P.pn * S0.pg)
  lt : P.bf.length < S0.pg
  ea : P.ar = ar
  cl : P.cl = 0
  lg : S.lg.length = 2 * P.pn
  wr : ∀ y, (sh21 S0 ar y).wr = 0
theorem ch22_more (pg : Nat) (L M : List Int) (y : Nat) (h : (y + 1) * pg ≤ L.length) : ch22 pg (L ++ M) y = ch22 pg L y := by
  unfold ch22
  rw [Nat.succ_mul] at h
  rw [List.drop_append, List.take_append, List.length_drop]
  have : pg - (L.length - y * pg) = 0 := by omega
  rw [this]; simp
theorem hp22_one {S0 S : Fs21} {P : Pw22} {ar : Int} {L : List Int} (h : Hp22 S0 S P ar L) (har : ar = 0 ∨ ar = 1) (c : Int) (hl : L.length + 1 ≤ S0.pg * S0.ps) :
    if (P.bf ++ [c]).length = S.pg then lyE22 S { P with bf := P.bf ++ [c] } = 0 ∧ Hp22 S0 (lyS22 S { P with bf := P.bf ++ [c] }) (lyP22 S { P with bf := P.bf ++ [c] }) ar (L ++ [c]) ∧ (lyP22 S { P with bf := P.bf ++ [c] }).wn = P.wn
    else Hp22 S0 S { P with bf := P.bf ++ [c] } ar (L ++ [c]) := by
  have hpn := h.pn
  have hdr : (L ++ [c]).drop (P.pn * S0.pg) = P.bf ++ [c] := by
    rw [List.drop_append, ← h.bf, show P.pn * S0.pg - L.length = 0 by omega]; rfl
  have hshm : ∀ x y : Int, (if x = ar ∧ 0 ≤ y ∧ y < (P.pn : Int) then (⟨ch22 S0.pg (L ++ [c]) y.toNat, false, 1⟩ : Sh21) else sh21 S0 x y) = sh21 S x y := fun x y => by
    rw [h.sh]
    by_cases e : x = ar ∧ 0 ≤ y ∧ y < (P.pn : Int)
    · rw [if_pos e, if_pos e, ch22_more]
      have : (y.toNat + 1) * S0.pg ≤ P.pn * S0.pg := Nat.mul_le_mul_right _ (by omega)
      omega
    · rw [if_neg e, if_neg e]
  split
  · rename_i hf
    have hf' : (P.bf ++ [c]).length = S0.pg := by rw [hf, h.pg]
    have hsm : (P.pn + 1) * S0.pg = P.pn * S0.pg + S0.pg := Nat.succ_mul _ _
    have hlt : P.pn < S.ps := by
      rw [h.ps]
      have h1 : (P.pn + 1) * S0.pg ≤ S0.ps * S0.pg := by rw [Nat.mul_comm S0.ps]; simp at hf'; omega
      have h2 : 0 < S0.pg := by have := h.lt; omega
      have := Nat.le_of_mul_le_mul_right h1 h2
      omega
    obtain ⟨y1, y2, y3, y4, y5⟩ := ly22_hold (P := { P with bf := P.bf ++ [c] }) h.qt (by show P.ar = 0 ∨ P.ar = 1; rw [h.ea]; exact har) hlt (by show (P.bf ++ [c]).length ≤ S.pg; omega) (by
      show (sh21 S P.ar (P.pn : Int)).wr = 0
      rw [h.sh, if_neg (by omega), h.ea]; exact h.wr _)
    have hy := lyS22_pg S { P with bf := P.bf ++ [c] }
    refine ⟨y1, ⟨y3, hy.1.trans h.pg, hy.2.1.trans h.ps, hy.2.2.1.trans h.ac, ok22_ly h.ok _, fun x y => ?_, ?_, ?_, ?_, ?_, ?_, ?_, h.wr⟩, ?_⟩
    · rw [y5, y2]
      show (if x = P.ar ∧ y = (P.pn : Int) then _ else _) = if x = ar ∧ 0 ≤ y ∧ y < ((P.pn + 1 : Nat) : Int) then _ else _
      rw [h.ea, ← hshm]
      by_cases e : x = ar ∧ y = (P.pn : Int)
      · rw [if_pos e, if_pos ⟨e.1, by omega, by omega⟩]
        have e2 : y.toNat = P.pn := by omega
        rw [e2]
        unfold ch22
        rw [hdr, List.take_of_length_le (by omega)]
      · rw [if_neg e]
        by_cases e3 : x = ar ∧ 0 ≤ y ∧ y < (P.pn : Int)
        · rw [if_pos e3, if_pos ⟨e3.1, e3.2.1, by omega⟩]
        · rw [if_neg e3, if_neg (fun q => by
            rcases Int.lt_or_le y (P.pn : Int) with w | w
            · exact e3 ⟨q.1, q.2.1, w⟩
            · exact e ⟨q.1, by omega⟩)]
    · rw [y2]; show (P.pn + 1) * S0.pg + 0 = (L ++ [c]).length; simp at hf' ⊢; omega
    · rw [y2]; show [] = _; rw [List.drop_eq_nil_of_le]; simp at hf' ⊢; show L.length + 1 ≤ (P.pn + 1) * S0.pg; omega
    · rw [y2]; show 0 < S0.pg; have := h.lt; omega
    · rw [y2]; exact h.ea
    · rw [y2]; exact h.cl
    · rw [y4, y2, List.length_append]; show S.lg.length + 2 = 2 * (P.pn + 1); rw [h.lg]; omega
    · rw [y2]
  · rename_i hf
    rw [h.pg] at hf
    refine ⟨h.qt, h.pg, h.ps, h.ac, h.ok, fun x y => (hshm x y).symm, ?_, hdr.symm, ?_, h.ea, h.cl, h.lg, h.wr⟩
    · show P.pn * S0.pg + (P.bf ++ [c]).length = (L ++ [c]).length; simp; omega
    · show (P.bf ++ [c]).length < S0.pg; have := h.lt; simp at hf ⊢; omega
theorem hp22_tk {S0 : Fs21} {ar : Int} (har : ar = 0 ∨ ar = 1) : ∀ (M : List Int) (S : Fs21) (P : Pw22) (L : List Int), Hp22 S0 S P ar L → L.length + M.length ≤ S0.pg * S0.ps →
    (tk22 S P M).2.2 = 0 ∧ Hp22 S0 (tk22 S P M).1 (tk22 S P M).2.1 ar (L ++ M) ∧ (tk22 S P M).2.1.wn = P.wn
  | [], S, P, L, h, _ => by
    rw [tk22, List.append_nil]; exact ⟨rfl, h, rfl⟩
  | c :: M, S, P, L, h, hl => by
    have h1 := hp22_one h har c (by simp at hl; omega)
    have el : L ++ c :: M = (L ++ [c]) ++ M := by simp
    rw [tk22]
    split
    · rename_i hf
      rw [if_pos hf] at h1
      obtain ⟨q1, q2, q3⟩ := h1
      rw [if_neg (by rw [q1]; simp), el]
      have := hp22_tk har M _ _ _ q2 (by simp at hl ⊢; omega)
      exact ⟨this.1, this.2.1, this.2.2.trans q3⟩
    · rename_i hf
      rw [if_neg hf] at h1
      rw [el]
      exact hp22_tk har M _ _ _ h1 (by simp at hl ⊢; omega)
theorem hp22_wr {S0 S : Fs21} {P : Pw22} {ar : Int} {L : List Int} (h : Hp22 S0 S P ar L) (har : ar = 0 ∨ ar = 1) (hw : P.wn = L.length) (hL : L.length ≤ S0.pg * S0.ps) (M : List Int) :
    if S0.pg * S0.ps < L.length + M.length then wrE22 S P M = 220 ∧ wrS22 S P M = S ∧ wrP22 S P M = P
    else wrE22 S P M = 0 ∧ Hp22 S0 (wrS22 S P M) (wrP22 S P M) ar (L ++ M) ∧ (wrP22 S P M).wn = (L ++ M).length := by
  have hmx : mx22 S = S0.pg * S0.ps := by unfold mx22; rw [h.pg, h.ps]
  have hfu : fu22 S P M.length ↔ S0.pg * S0.ps < L.length + M.length := by
    unfold fu22; rw [hmx, hw]; omega
  unfold wrE22 wrS22 wrP22
  rw [h.cl]
  have hz : ¬ ((0 : Int) ≠ 0) := by simp
  rw [if_neg hz, if_neg hz, if_neg hz]
  split
  · rename_i e
    rw [if_pos (hfu.2 e), if_pos (hfu.2 e), if_pos (hfu.2 e)]
    exact ⟨rfl, rfl, rfl⟩
  · rename_i e
    have hn : ¬ fu22 S P M.length := fun q => e (hfu.1 q)
    rw [if_neg hn, if_neg hn, if_neg hn]
    obtain ⟨q1, q2, q3⟩ := hp22_tk har M S P L h (by omega)
    have hP : tkP22 S P M = { (tk22 S P M).2.1 with wn := (tk22 S P M).2.1.wn + M.length } := by unfold tkP22; rw [if_pos q1]
    refine ⟨q1, ?_, ?_⟩
    · rw [hP]
      exact ⟨q2.qt, q2.pg, q2.ps, q2.ac, q2.ok, q2.sh, q2.pn, q2.bf, q2.lt, q2.ea, q2.cl, q2.lg, q2.wr⟩
    · rw [hP]; show (tk22 S P M).2.1.wn + M.length = _; rw [q3, hw]; simp
theorem hp22_new (p q : Nat) (ac : Int) (L0 L1 : List Int) (hp : 64 ≤ p ∧ p ≤ 4096) (hq : 1 ≤ q ∧ q ≤ 4096) (ha : ac = 0 ∨ ac = 1) : Hp22 (nw21 p q ac L0 L1) (nw21 p q ac L0 L1) ⟨1 - ac, [], 0, 0, 0⟩ (1 - ac) [] := by
  refine ⟨⟨rfl, rfl, rfl⟩, rfl, rfl, rfl, ok21_new p q ac L0 L1 hp hq ha, fun x y => ?_, by simp, by simp, ?_, rfl, rfl, rfl, fun y => ?_⟩
  · rw [if_neg (by show ¬ (_ ∧ _ ∧ y < ((0 : Nat) : Int)); omega)]
  · show 0 < p; omega
  · unfold sh21 nw21 pj21
    simp only
    split
    · unfold ck21
      split <;> rfl
    · rfl
end Go.Proofs.Ythefcmhmcgjcoaa

namespace Go.Proofs.Ythefcmhmcgjcoaa
open Go.RowKit Go.Shelf
set_option linter.unusedVariables false
set_option linter.unusedSimpArgs false

/-! The log behind bytes that were written, the power cut at an operation (pure). -/
def od22 (ar : Int) (k : Nat) : List (Int × Int × Int) := (List.range k).map fun i => ((if i % 2 = 0 then 1 else 2 : Int), ar, ((i / 2 : Nat) : Int))
theorem od22_len (ar : Int) (k : Nat) : (od22 ar k).length = k := by simp [od22]
theorem od22_e (ar : Int) (k : Nat) : od22 ar (2 * k + 1) = od22 ar (2 * k) ++ [(1, ar, (k : Int))] := by
  unfold od22
  rw [List.range_succ, List.map_append]
  have h1 : 2 * k % 2 = 0 := by omega
  have h2 : 2 * k / 2 = k := by omega
  simp [h1, h2]
theorem od22_p (ar : Int) (k : Nat) : od22 ar (2 * (k + 1)) = od22 ar (2 * k + 1) ++ [(2, ar, (k : Int))] := by
  unfold od22
  rw [show 2 * (k + 1) = (2 * k + 1) + 1 by omega, List.range_succ, List.map_append]
  have h1 : ¬ (2 * k + 1) % 2 = 0 := by omega
  have h2 : (2 * k + 1) / 2 = k := by omega
  simp
  omega
/-- The power is there. -/
structure Ay22 (S0 S : Fs21) (P : Pw22) (ar : Int) (tc : Nat) : Prop where
  on : S.on = true
  lm : S.lm = 0
  lf : S.lf = if tc = 0 then 0 else (tc : Int) - 2 * (P.pn : Int)
  hl : tc = 0 ∨ 2 * P.pn < tc
  pg : S.pg = S0.pg
  ps : S.ps = S0.ps
  ac : S.ac = S0.ac
  ok : Ok21 S
  wr : ∀ y : Int, (P.pn : Int) ≤ y → (sh21 S ar y).wr = 0
  ea : P.ar = ar
  cl : P.cl = 0
  lg : S.lg = od22 ar (2 * P.pn)
/-- It was cut. -/
structure De22 (S0 S : Fs21) (P : Pw22) (ar : Int) (tc : Nat) : Prop where
  cl : P.cl ≠ 0
  lg : S.lg = od22 ar tc
  po : 0 < tc
  pg : S.pg = S0.pg
  ps : S.ps = S0.ps
  ac : S.ac = S0.ac
  ok : Ok21 S
  ea : P.ar = ar
theorem ly22_cut {S0 S : Fs21} {P : Pw22} {ar : Int} {tc : Nat} (h : Ay22 S0 S P ar tc) (har : ar = 0 ∨ ar = 1) (hpn : P.pn < S.ps) (hbf : P.bf.length ≤ S.pg) :
    (lyE22 S P = 0 ∧ lyP22 S P = { P with pn := P.pn + 1, bf := [] } ∧ Ay22 S0 (lyS22 S P) (lyP22 S P) ar tc) ∨ (lyE22 S P ≠ 0 ∧ De22 S0 (lyS22 S P) (lyP22 S P) ar tc ∧ tc ≤ 2 * (P.pn + 1) ∧ (lyP22 S P).wn = P.wn ∧ (lyP22 S P).pn = P.pn) := by
  have hwr := h.wr (P.pn : Int) (by omega)
  rw [← h.ea] at hwr
  have hms : ms21 S.ps P.ar (P.pn : Int) = 0 := by
    have hpn21 : pn21 S.ps P.ar = (S.ps : Int) := by unfold pn21; rw [if_neg (by rw [h.ea]; omega), if_neg (by rw [h.ea]; omega)]
    unfold ms21
    rw [hpn21, if_neg (by omega)]
  have hrf : rf21 S.on S.ps P.ar (P.pn : Int) = 0 := by rw [h.on]; exact hms
  have hwo : wo21 S P.ar (P.pn : Int) = false := by unfold wo21; rw [hwr, h.lm]; decide
  have hy := lyS22_pg S P
  have hok := ok22_ly h.ok P
  have e1 : erE21 S P.ar (P.pn : Int) = rc21 S := by unfold erE21; rw [hrf, if_neg (by simp), hwo]; simp
  have e2 : erS21 S P.ar (P.pn : Int) = rn21 S 1 P.ar (P.pn : Int) ⟨[], true, (sh21 S P.ar (P.pn : Int)).wr + 1⟩ := by unfold erS21; rw [hrf, if_neg (by simp), hwo, if_neg (by simp)]
  have hlf := h.lf
  have hhl := h.hl
  by_cases l1 : S.lf = 1
  · right
    have htc : tc = 2 * P.pn + 1 := by
      by_cases t0 : tc = 0
      · rw [if_pos t0] at hlf; omega
      · rw [if_neg t0] at hlf; omega
    have hrc : rc21 S = 213 := by unfold rc21; rw [if_pos l1]
    have hE : lyE22 S P = 213 := by unfold lyE22; rw [e1, hrc, if_pos (by decide)]
    have hS : lyS22 S P = rn21 S 1 P.ar (P.pn : Int) ⟨[], true, (sh21 S P.ar (P.pn : Int)).wr + 1⟩ := by unfold lyS22; rw [e1, hrc, if_pos (by decide), e2]
    have hP : lyP22 S P = { P with cl := 213 } := by unfold lyP22; rw [hE, if_pos (by decide)]
    refine ⟨by rw [hE]; decide, ⟨by rw [hP]; simp, ?_, by omega, hy.1.trans h.pg, hy.2.1.trans h.ps, hy.2.2.1.trans h.ac, hok, by rw [hP]; exact h.ea⟩, by omega, by rw [hP], by rw [hP]⟩
    rw [hS]
    unfold rn21
    rw [if_pos l1]
    show S.lg ++ [(1, P.ar, (P.pn : Int))] = _
    rw [htc, od22_e, h.lg, h.ea]
  · have hrc : rc21 S = 0 := by unfold rc21; rw [if_neg l1]
    rw [hrc] at e1
    obtain ⟨S1, hS1⟩ : ∃ S1, S1 = go21 S 1 P.ar (P.pn : Int) ⟨[], true, (sh21 S P.ar (P.pn : Int)).wr + 1⟩ := ⟨_, rfl⟩
    have e2' : erS21 S P.ar (P.pn : Int) = S1 := by rw [e2, hS1]; unfold rn21; rw [if_neg l1]
    have hs1 : sh21 S1 P.ar (P.pn : Int) = ⟨[], true, 1⟩ := by rw [hS1, sh21_go, hwr]; simp
    have hon1 : S1.on = true := by rw [hS1]; exact h.on
    have hps1 : S1.ps = S.ps := by rw [hS1]; rfl
    have hpg1 : S1.pg = S.pg := by rw [hS1]; rfl
    have hlf1 : S1.lf = max 0 (S.lf - 1) := by rw [hS1]; rfl
    have hlg1 : S1.lg = od22 ar (2 * P.pn + 1) := by rw [hS1, od22_e]; show S.lg ++ _ = _; rw [h.lg, h.ea]
    have hrf1 : rf21 S1.on S1.ps P.ar (P.pn : Int) = 0 := by rw [hon1, hps1]; exact hms
    have e3 : pgE21 S1 P.ar (P.pn : Int) P.bf.length = rc21 S1 := by unfold pgE21; rw [hrf1, if_neg (by simp), if_neg (by omega), hs1, if_neg (by simp)]
    have e4 : pgS21 S1 P.ar (P.pn : Int) P.bf = rn21 S1 2 P.ar (P.pn : Int) ⟨P.bf, false, (sh21 S1 P.ar (P.pn : Int)).wr⟩ := by unfold pgS21; rw [hrf1, if_neg (by simp), if_neg (by omega)]; rw [if_neg (by rw [hs1]; simp)]
    have hE : lyE22 S P = rc21 S1 := by unfold lyE22; rw [e1, if_neg (by simp), e2']; exact e3
    have hS : lyS22 S P = rn21 S1 2 P.ar (P.pn : Int) ⟨P.bf, false, (sh21 S1 P.ar (P.pn : Int)).wr⟩ := by unfold lyS22; rw [e1, if_neg (by simp), e2']; exact e4
    by_cases l2 : S1.lf = 1
    · right
      have htc : tc = 2 * (P.pn + 1) := by
        by_cases t0 : tc = 0
        · rw [if_pos t0] at hlf; omega
        · rw [if_neg t0] at hlf; omega
      have hrc1 : rc21 S1 = 213 := by unfold rc21; rw [if_pos l2]
      rw [hrc1] at hE
      have hP : lyP22 S P = { P with cl := 213 } := by unfold lyP22; rw [hE, if_pos (by decide)]
      refine ⟨by rw [hE]; decide, ⟨by rw [hP]; simp, ?_, by omega, hy.1.trans h.pg, hy.2.1.trans h.ps, hy.2.2.1.trans h.ac, hok, by rw [hP]; exact h.ea⟩, by omega, by rw [hP], by rw [hP]⟩
      rw [hS]
      unfold rn21
      rw [if_pos l2]
      show S1.lg ++ [(2, P.ar, (P.pn : Int))] = _
      rw [htc, od22_p, hlg1, h.ea]
    · left
      have hrc1 : rc21 S1 = 0 := by unfold rc21; rw [if_neg l2]
      rw [hrc1] at hE
      have hP : lyP22 S P = { P with pn := P.pn + 1, bf := [] } := by unfold lyP22; rw [hE, if_neg (by simp)]
      have hS' : lyS22 S P = go21 S1 2 P.ar (P.pn : Int) ⟨P.bf, false, (sh21 S1 P.ar (P.pn : Int)).wr⟩ := by rw [hS]; unfold rn21; rw [if_neg l2]
      have hlm1 : S1.lm = 0 := by rw [hS1]; exact h.lm
      refine ⟨hE, hP, ?_, ?_, ?_, ?_, hy.1.trans h.pg, hy.2.1.trans h.ps, hy.2.2.1.trans h.ac, hok, fun y hy' => ?_, by rw [hP]; exact h.ea, by rw [hP]; exact h.cl, ?_⟩
      · rw [hS']; exact hon1
      · rw [hS']; exact hlm1
      · rw [hS', hP]
        show max 0 (S1.lf - 1) = if tc = 0 then 0 else (tc : Int) - 2 * ((P.pn + 1 : Nat) : Int)
        by_cases t0 : tc = 0
        · rw [if_pos t0] at hlf ⊢; omega
        · rw [if_neg t0] at hlf ⊢; omega
      · rw [hP]
        show tc = 0 ∨ 2 * (P.pn + 1) < tc
        by_cases t0 : tc = 0
        · exact .inl t0
        · rw [if_neg t0] at hlf; right; omega
      · rw [hP] at hy'
        have hy2 : ((P.pn + 1 : Nat) : Int) ≤ y := hy'
        rw [hS', sh21_go, if_neg (by omega), hS1, sh21_go, if_neg (by omega)]
        exact h.wr y (by omega)
      · rw [hS', hP]
        show S1.lg ++ [(2, P.ar, (P.pn : Int))] = od22 ar (2 * (P.pn + 1))
        rw [od22_p, hlg1, h.ea]
/-- Alive behind n bytes. -/
structure Al22 (S0 S : Fs21) (P : Pw22) (ar : Int) (tc n : Nat) : Prop where
  ay : Ay22 S0 S P ar tc
  pn : P.pn * S0.pg + P.bf.length = n
  lt : P.bf.length < S0.pg
def Dd22 (S0 S : Fs21) (P : Pw22) (ar : Int) (tc T : Nat) : Prop := De22 S0 S P ar tc ∧ ∃ m, tc ≤ 2 * m ∧ m * S0.pg ≤ T ∧ P.pn ≤ m
theorem tk22_cut {S0 : Fs21} {ar : Int} {tc : Nat} (har : ar = 0 ∨ ar = 1) : ∀ (M : List Int) (S : Fs21) (P : Pw22) (n : Nat), Al22 S0 S P ar tc n → n + M.length ≤ S0.pg * S0.ps →
    ((tk22 S P M).2.2 = 0 ∧ Al22 S0 (tk22 S P M).1 (tk22 S P M).2.1 ar tc (n + M.length) ∧ (tk22 S P M).2.1.wn = P.wn) ∨ ((tk22 S P M).2.2 ≠ 0 ∧ Dd22 S0 (tk22 S P M).1 (tk22 S P M).2.1 ar tc (n + M.length) ∧ (tk22 S P M).2.1.wn = P.wn)
  | [], S, P, n, h, _ => by
    rw [tk22]; exact .inl ⟨rfl, h, rfl⟩
  | c :: M, S, P, n, h, hl => by
    have hlt := h.lt
    have hpn := h.pn
    have el : n + (c :: M).length = (n + 1) + M.length := by simp; omega
    rw [tk22, el]
    rw [el] at hl
    split
    · rename_i hf
      rw [h.ay.pg] at hf
      have hf' : P.bf.length + 1 = S0.pg := by simpa using hf
      have hsm : (P.pn + 1) * S0.pg = P.pn * S0.pg + S0.pg := Nat.succ_mul _ _
      have hps : P.pn < S.ps := by
        rw [h.ay.ps]
        have h1 : (P.pn + 1) * S0.pg ≤ S0.ps * S0.pg := by rw [Nat.mul_comm S0.ps]; omega
        have := Nat.le_of_mul_le_mul_right h1 (by omega)
        omega
      have hay : Ay22 S0 S { P with bf := P.bf ++ [c] } ar tc := ⟨h.ay.on, h.ay.lm, h.ay.lf, h.ay.hl, h.ay.pg, h.ay.ps, h.ay.ac, h.ay.ok, h.ay.wr, h.ay.ea, h.ay.cl, h.ay.lg⟩
      rcases ly22_cut hay har hps (by show (P.bf ++ [c]).length ≤ S.pg; rw [h.ay.pg]; omega) with ⟨q1, q2, q3⟩ | ⟨q1, q2, q3, q4, q5⟩
      · rw [if_neg (by rw [q1]; simp)]
        have hw : (lyP22 S { P with bf := P.bf ++ [c] }).wn = P.wn := by rw [q2]
        have := tk22_cut har M _ _ (n + 1) ⟨q3, by rw [q2]; show (P.pn + 1) * S0.pg + 0 = n + 1; omega, by rw [q2]; show 0 < S0.pg; omega⟩ hl
        rw [hw] at this
        exact this
      · rw [if_pos q1]
        exact .inr ⟨q1, ⟨q2, P.pn + 1, q3, by omega, by rw [q5]; exact Nat.le_succ _⟩, q4⟩
    · rename_i hf
      rw [h.ay.pg] at hf
      have hf' : ¬ P.bf.length + 1 = S0.pg := by simpa using hf
      exact tk22_cut har M S { P with bf := P.bf ++ [c] } (n + 1) ⟨⟨h.ay.on, h.ay.lm, h.ay.lf, h.ay.hl, h.ay.pg, h.ay.ps, h.ay.ac, h.ay.ok, h.ay.wr, h.ay.ea, h.ay.cl, h.ay.lg⟩, by show P.pn * S0.pg + (P.bf ++ [c]).length = n + 1; simp; omega, by show (P.bf ++ [c]).length < S0.pg; simp; omega⟩ hl
/-- Behind n of T bytes. -/
def St22 (S0 S : Fs21) (P : Pw22) (ar : Int) (tc n T : Nat) : Prop := (Al22 S0 S P ar tc n ∧ P.wn = n) ∨ (Dd22 S0 S P ar tc T ∧ P.wn ≤ T)
theorem st22_wr {S0 S : Fs21} {P : Pw22} {ar : Int} {tc n T : Nat} (h : St22 S0 S P ar tc n T) (har : ar = 0 ∨ ar = 1) (M : List Int) (hn : n + M.length ≤ T) (hT : T ≤ S0.pg * S0.ps) : St22 S0 (wrS22 S P M) (wrP22 S P M) ar tc (n + M.length) T := by
  rcases h with ⟨h, hw⟩ | ⟨h, hw⟩
  · have hz : ¬ ((0 : Int) ≠ 0) := by simp
    have hmx : mx22 S = S0.pg * S0.ps := by unfold mx22; rw [h.ay.pg, h.ay.ps]
    have hnf : ¬ fu22 S P M.length := by unfold fu22; rw [hmx, hw]; omega
    unfold wrS22 wrP22
    rw [h.ay.cl, if_neg hz, if_neg hz, if_neg hnf, if_neg hnf]
    rcases tk22_cut har M S P n h (by omega) with ⟨q1, q2, q3⟩ | ⟨q1, q2, q3⟩
    · left
      have hP : tkP22 S P M = { (tk22 S P M).2.1 with wn := (tk22 S P M).2.1.wn + M.length } := by unfold tkP22; rw [if_pos q1]
      rw [hP]
      refine ⟨⟨⟨q2.ay.on, q2.ay.lm, q2.ay.lf, q2.ay.hl, q2.ay.pg, q2.ay.ps, q2.ay.ac, q2.ay.ok, q2.ay.wr, q2.ay.ea, q2.ay.cl, q2.ay.lg⟩, q2.pn, q2.lt⟩, ?_⟩
      show (tk22 S P M).2.1.wn + M.length = _
      rw [q3, hw]
    · right
      have hP : tkP22 S P M = (tk22 S P M).2.1 := by unfold tkP22; rw [if_neg q1]
      rw [hP]
      obtain ⟨d1, m, d2, d3, d4⟩ := q2
      exact ⟨⟨d1, m, d2, by omega, d4⟩, by rw [q3]; omega⟩
  · right
    unfold wrS22 wrP22
    rw [if_pos h.1.cl, if_pos h.1.cl]
    exact ⟨h, hw⟩
theorem st22_end {S0 S : Fs21} {P : Pw22} {ar : Int} {tc T : Nat} (h : St22 S0 S P ar tc T T) (har : ar = 0 ∨ ar = 1) (hT : T ≤ S0.pg * S0.ps) (hp : 0 < S0.pg) :
    (edS22 S P).lg = od22 ar (if 0 < tc ∧ tc < 2 * ((T + S0.pg - 1) / S0.pg) then tc else 2 * ((T + S0.pg - 1) / S0.pg)) ∧ (edS22 S P).ac = S0.ac ∧ Ok21 (edS22 S P) := by
  have hdead : ∀ (S' : Fs21) (P' : Pw22), De22 S0 S' P' ar tc → tc ≤ 2 * ((T + S0.pg - 1) / S0.pg) → S'.lg = od22 ar (if 0 < tc ∧ tc < 2 * ((T + S0.pg - 1) / S0.pg) then tc else 2 * ((T + S0.pg - 1) / S0.pg)) ∧ S'.ac = S0.ac ∧ Ok21 S' := fun S' P' d hm => by
    refine ⟨?_, d.ac, d.ok⟩
    rw [d.lg]
    by_cases e : tc < 2 * ((T + S0.pg - 1) / S0.pg)
    · rw [if_pos ⟨d.po, e⟩]
    · rw [if_neg (by omega)]; congr 1; omega
  rcases h with ⟨h, hw⟩ | ⟨⟨h, m, hm1, hm2, -⟩, hw⟩
  · have hz : ¬ ((0 : Int) ≠ 0) := by simp
    have hpn := h.pn
    have hlt := h.lt
    unfold edS22
    rw [h.ay.cl, if_neg hz]
    unfold enS22
    by_cases hb : 0 < P.bf.length
    · rw [if_pos hb]
      have hN : (T + S0.pg - 1) / S0.pg = P.pn + 1 := by
        have e : T + S0.pg - 1 = (P.bf.length - 1) + (P.pn + 1) * S0.pg := by rw [Nat.succ_mul]; omega
        rw [e, Nat.add_mul_div_right _ _ hp, Nat.div_eq_of_lt (by omega)]; omega
      have hps : P.pn < S.ps := by
        rw [h.ay.ps]
        have h3 : P.pn * S0.pg < S0.ps * S0.pg := by rw [Nat.mul_comm S0.ps]; omega
        exact Nat.lt_of_mul_lt_mul_right h3
      rcases ly22_cut h.ay har hps (by rw [h.ay.pg]; omega) with ⟨q1, q2, q3⟩ | ⟨q1, q2, q3, q4, q5⟩
      · have hl := q3.hl
        have hlg := q3.lg
        rw [q2] at hl hlg
        have hl' : tc = 0 ∨ 2 * (P.pn + 1) < tc := hl
        have hlg' : (lyS22 S P).lg = od22 ar (2 * (P.pn + 1)) := hlg
        rw [hN, if_neg (by omega)]
        exact ⟨hlg', q3.ac, q3.ok⟩
      · exact hdead _ _ q2 (by rw [hN]; exact q3)
    · rw [if_neg hb]
      have hN : (T + S0.pg - 1) / S0.pg = P.pn := by
        have e : T + S0.pg - 1 = (S0.pg - 1) + P.pn * S0.pg := by omega
        rw [e, Nat.add_mul_div_right _ _ hp, Nat.div_eq_of_lt (by omega)]; omega
      have hl := h.ay.hl
      rw [hN, if_neg (by omega)]
      exact ⟨h.ay.lg, h.ay.ac, h.ay.ok⟩
  · unfold edS22
    rw [if_pos h.cl]
    refine hdead S P h ?_
    have : m ≤ (T + S0.pg - 1) / S0.pg := (Nat.le_div_iff_mul_le hp).2 (by omega)
    omega
theorem st22_new (p q : Nat) (ac : Int) (L0 L1 : List Int) (hp : 64 ≤ p ∧ p ≤ 4096) (hq : 1 ≤ q ∧ q ≤ 4096) (ha : ac = 0 ∨ ac = 1) (tc T : Nat) (ht : tc ≤ 1000000) : cuE21 (nw21 p q ac L0 L1) (tc : Int) 0 = 0 ∧ Ok21 (cuS21 (nw21 p q ac L0 L1) (tc : Int) []) ∧ (cuS21 (nw21 p q ac L0 L1) (tc : Int) []).ac = ac ∧ (cuS21 (nw21 p q ac L0 L1) (tc : Int) []).pg = p ∧ (cuS21 (nw21 p q ac L0 L1) (tc : Int) []).ps = q ∧ St22 (nw21 p q ac L0 L1) (cuS21 (nw21 p q ac L0 L1) (tc : Int) []) ⟨1 - ac, [], 0, 0, 0⟩ (1 - ac) tc 0 T := by
  have hok := ok21_new p q ac L0 L1 hp hq ha
  have hS : cuS21 (nw21 p q ac L0 L1) (tc : Int) [] = { nw21 p q ac L0 L1 with lf := (tc : Int), tn := [] } := by
    unfold cuS21
    rw [if_neg (by show ¬ (true = false); simp), if_neg (by show ¬ ((tc : Int) < 0 ∨ p < 0); omega)]
    split <;> rfl
  rw [hS]
  have hok2 : Ok21 ({ nw21 p q ac L0 L1 with lf := (tc : Int), tn := [] } : Fs21) := ⟨hok.pg, hok.ps, hok.ac, hok.lm, ⟨by show (0 : Int) ≤ (tc : Int); omega, by show (tc : Int) ≤ _; omega⟩, by show 0 ≤ _; omega, hok.sh⟩
  refine ⟨?_, hok2, rfl, rfl, rfl, .inl ⟨⟨⟨rfl, rfl, ?_, ?_, rfl, rfl, rfl, hok2, fun y _ => ?_, rfl, rfl, rfl⟩, by simp, ?_⟩, rfl⟩⟩
  · unfold cuE21
    rw [if_neg (by show ¬ (true = false); simp), if_neg (by show ¬ ((tc : Int) < 0 ∨ p < 0); omega)]
  · show (tc : Int) = if tc = 0 then 0 else (tc : Int) - 2 * ((0 : Nat) : Int)
    split <;> omega
  · show tc = 0 ∨ 2 * 0 < tc; omega
  · exact (hp22_new p q ac L0 L1 hp hq ha).wr y
  · show 0 < p; omega
end Go.Proofs.Ythefcmhmcgjcoaa

namespace Go.Proofs.Ythefcmhmcgjcoaa
open Go.RowKit Go.Shelf
set_option linter.unusedVariables false
set_option linter.unusedSimpArgs false

/-! PageCuts: logs held against each other. -/
theorem still_all22c {P : Program} {id : Nat} {Q : Exit → Act → World → Prop} {a : Act} {w : World} {l : List Oper} (hm : P.follows .mixedOrders = true) (hB : Region.lexB .any l.toArray = true)
    (h : wpStill P l.toArray w.drew (fun a' => Q .normal a' w.drew) l a) : (Code.region id l.toArray true).wp P Q a w := wp_region_still_lit hm hB h
theorem ops22 {w : World} {N n rc : Nat} {ra : Option Addr} {L : List (Int × Int × Int)} (h : w.ownsRow N 50 3 (.slice ra n rc) n (lgc21 L)) (hn : L.length = n) {i : Nat} (hi : i < n) :
    ∃ (g : Nat) (o : Int × Int × Int), L[i]? = some o ∧ ra = some ⟨g, 0, none⟩ ∧ g < w.heap.size ∧ w.cell? ⟨g, i * 3, none⟩ = some (.int .i64 o.1) ∧ w.cell? ⟨g, i * 3 + 1, none⟩ = some (.int .i64 o.2.1) ∧ w.cell? ⟨g, i * 3 + 2, none⟩ = some (.int .i64 o.2.2) := by
  obtain ⟨o, ho⟩ : ∃ o, L[i]? = some o := ⟨_, List.getElem?_eq_getElem (by omega)⟩
  rcases h.2 with ⟨h1, h2⟩ | ⟨g, cp, cu, h1, h2, h3, h4⟩
  · omega
  · simp only [Value.slice.injEq] at h1
    obtain ⟨rfl, -, rfl⟩ := h1
    obtain ⟨e1, e2, e3⟩ := lgc21_get L i o ho
    have hadd : ∀ j, (⟨g, 0, none⟩ : Addr).add j = ⟨g, j, none⟩ := fun j => by unfold Addr.add; split <;> simp_all
    have c1 := h.cells (g := g) rfl _ _ e1
    have c2 := h.cells (g := g) rfl _ _ e2
    have c3 := h.cells (g := g) rfl _ _ e3
    rw [hadd] at c1 c2 c3
    exact ⟨g, o, ho, rfl, (Array.getElem?_eq_some_iff.1 h3).1, c1, c2, c3⟩
end Go.Proofs.Ythefcmhmcgjcoaa

namespace Go.Proofs.Ythefcmhmcgjcoaa
open Go.RowKit Go.Shelf
set_option linter.unusedVariables false
set_option linter.unusedSimpArgs false

/-! The law's awake. -/
theorem Pn22.below {w w' : World} {v s g b N : Nat} {F : Nat → Prop} {S : Fs21} {P : Pw22} (h : Pn22 w w' v s g b F S P) (hF : ∀ k, F k → N ≤ k) (hs : N ≤ s) (hg : N ≤ g) (hN : N ≤ w.heap.size) : ∃ F', Pe22 w' v s g b F' S P ∧ (∀ k, F' k → N ≤ k) ∧ Below N w w' := by
  obtain ⟨F', h1, h2, h3⟩ := h
  refine ⟨F', h1, fun k e => ?_, h3.below (fun i e => ?_) hN⟩
  · rcases h2 k e with q | q
    · exact hF k q
    · omega
  · rcases e with e | e | e
    · exact hF i e
    · omega
    · omega
def sa22 : Fs21 := nw21 64 2 0 [] []
def pa22 : Pw22 := ⟨1, [], 0, 0, 0⟩
theorem awk22 : wrE22 sa22 pa22 (List.replicate 65 0) = 0 ∧ (wrP22 sa22 pa22 (List.replicate 65 0)).wn = 65 ∧ (wrP22 sa22 pa22 (List.replicate 65 0)).pn = 1 ∧ (wrS22 sa22 pa22 (List.replicate 65 0)).lg.length = 2 := by
  refine ⟨by decide +kernel, by decide +kernel, by decide +kernel, by decide +kernel⟩
theorem ok22_tk : ∀ (L : List Int) (S : Fs21) (P : Pw22), Ok21 S → Ok21 (tk22 S P L).1
  | [], S, P, h => h
  | c :: L, S, P, h => by
    rw [tk22]
    split
    · split
      · exact ok22_ly h _
      · exact ok22_tk L _ _ (ok22_ly h _)
    · exact ok22_tk L _ _ h
theorem ok22_wr {S : Fs21} (h : Ok21 S) (P : Pw22) (L : List Int) : Ok21 (wrS22 S P L) := by
  unfold wrS22
  split
  · exact h
  · split
    · exact h
    · exact ok22_tk L S P h
set_option maxRecDepth 100000 in
set_option maxHeartbeats 8000000 in
theorem pawk22 (w : World) : Calls Try.prog 19 #[] w fun e w' => e = .returned (.bool true) ∧ Below w.heap.size w w' := by
  have HN := pnew21 (w := w) 64 2 0 ⟨by omega, by omega⟩ ⟨by omega, by omega⟩ none none [] [] 0 0 0 0 (SegK.nil (by decide) _ _) (SegK.nil (by decide) _ _) rfl rfl (by omega) (by omega)
  have HMK : ∀ W : World, (Instr.makeSlice 22 (.int .i64 65) (.int .i64 65)).run Try.prog W = .ok (.slice (some ⟨W.heap.size, 0, none⟩) 65 65) (W.alloc (.cells ((List.replicate 65 (0 : Int)).map (Value.int .u8)).toArray 5)) := fun W => run_make22 65 (by omega) W
  go_enter Try.func19, Try.ntmps19
  go_wp2_with fail
  refine HN.mono ?_
  rintro e w2 ⟨b2, h2⟩
  rcases h2 with ⟨h2, -⟩ | ⟨-, b, F, rfl, hF, hFw⟩
  · exact absurd h2 (by decide)
  have o1 : Ok21 sa22 := ok21_new 64 2 0 _ _ (by omega) (by omega) (by omega)
  have hFl : Fl21 w2 b F sa22 := hF
  have HW := pnw22 hFl o1
  clear HN hF
  go_wp2_with fail
  refine HW.mono ?_
  rintro e w3 ⟨v, s, g, rfl, q3, b3, z1, z2, z3⟩
  have q3' : Pe22 w3 v s g b F sa22 pa22 := q3
  have b3' : Below w.heap.size w w3 := b2.trans (b3.mono b2.size)
  obtain ⟨w4, hw4⟩ : ∃ w4, w4 = w3.alloc (.cells ((List.replicate 65 (0 : Int)).map (Value.int .u8)).toArray 5) := ⟨_, rfl⟩
  have HW4 : Hid (w3.alloc (.cells ((List.replicate 65 (0 : Int)).map (Value.int .u8)).toArray 5) = w4) := hw4.symm
  have b4 : Below w3.heap.size w3 w4 := by rw [hw4]; exact (Below.refl _ _).alloc (Nat.le_refl _) _
  have hsg : Seg w4 (some ⟨w3.heap.size, 0, none⟩) (List.replicate 65 0) := by rw [hw4]; exact seg_lit21 w3 (List.replicate 65 0) _ _ (by intro z hz; rw [(List.mem_replicate.1 hz).2]; decide)
  have hlt := q3.wr.lt
  have hFs : ∀ k, F k → k < w3.heap.size := by
    obtain ⟨m, c, f, ta, tc, la, lc, V, h1, h2, h3, h4, h5, h6⟩ := q3.fl
    exact h6
  have HWR := pwr22 (q3'.old b4) o1 ⟨by decide, by decide⟩ (by decide) (by decide) (by decide) (by intro _; decide) (some ⟨w3.heap.size, 0, none⟩) (List.replicate 65 0) 65 65 hsg (by show _ = _; simp) (by omega) (by omega) (fun x off e _ => by
    cases e
    refine ⟨fun e => ?_, ?_, ?_⟩
    · have := hFs _ e; omega
    · omega
    · omega)
  obtain ⟨a1, a2, a3, a4⟩ := awk22
  have o2 := ok22_wr o1 pa22 (List.replicate 65 0)
  rw [a1] at HWR
  have b4' : Below w.heap.size w w4 := b3'.trans (b4.mono b3'.size)
  generalize wrS22 sa22 pa22 (List.replicate 65 0) = S5 at *
  generalize wrP22 sa22 pa22 (List.replicate 65 0) = P5 at *
  have HA : Hid (P5.wn = 65 ∧ P5.pn = 1 ∧ S5.lg.length = 2) := ⟨a2, a3, a4⟩
  have HZ : Hid (w.heap.size ≤ s ∧ w.heap.size ≤ g ∧ (∀ k, F k → w.heap.size ≤ k) ∧ w.heap.size ≤ w4.heap.size ∧ Below w.heap.size w w4) := ⟨by have := b2.size; omega, by have := b2.size; omega, hFw, b4'.size, b4'⟩
  clear hw4 b4 hsg a1 a2 a3 a4 HW q3 q3' b3 z1 z2 z3 hlt hFs hFw b4'
  go_wp2_with fail
  rw [← HW4.out] at HWR
  refine HWR.mono ?_
  rintro e w5 ⟨rfl, hn5⟩
  rw [HW4.out] at hn5
  obtain ⟨F5, q5, f5, b5⟩ := hn5.below HZ.out.2.2.1 HZ.out.1 HZ.out.2.1 HZ.out.2.2.2.1
  have HB5 : Hid (Below w.heap.size w w5) := HZ.out.2.2.2.2.trans b5
  have hW := pwn22 q5.wr
  have hP := ppn22 q5.wr
  have hO := pops21 q5.fl o2
  rw [HA.out.1] at hW
  rw [HA.out.2.1] at hP
  rw [HA.out.2.2] at hO
  clear hn5 q5 f5 b5
  go_wp2_with fail
  refine hW.mono ?_
  rintro e w6 ⟨rfl, hw6⟩
  subst w6
  go_wp2_with fail
  refine hP.mono ?_
  rintro e w6 ⟨rfl, hw6⟩
  subst w6
  go_wp2_with fail
  refine hO.mono ?_
  rintro e w6 ⟨rfl, hw6⟩
  subst w6
  go_wp2_with fail
  go_ret
  exact ⟨rfl, HB5.out⟩
set_option maxRecDepth 100000 in
set_option maxHeartbeats 1000000 in
theorem pnum22 (x : Int) (w : World) : Calls Try.prog 29 #[.int .i64 x] w fun e w' => e = .returned (.int .i64 x) ∧ w' = w := by
  go_enter Try.func29, Try.ntmps29
  go_wp2
  go_ret
  exact ⟨rfl, rfl⟩
end Go.Proofs.Ythefcmhmcgjcoaa
