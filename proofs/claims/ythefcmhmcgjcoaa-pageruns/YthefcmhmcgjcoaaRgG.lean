import Derived.Test.YthefcmhmcgjcoaaPjb
import Derived.Test.YthefcmhmcgjcoaaEdK

namespace Go.Proofs.Ythefcmhmcgjcoaa
open Go.RowKit Go.Shelf
set_option linter.unusedVariables false
set_option linter.unusedSimpArgs false

/-! The document's page writer: Write. -/
theorem info_u22 : (Try.prog.info? 5).map (fun i => (i.zero, i.size, i.bytes)) = some (some (.int .u8 0), 1, 1) := by kernel_rfl
theorem operwp_app22 {P : Program} {o : Oper} {a : Act} {K : Act → World → Prop} {Q : Exit → Act → World → Prop} {w : World} (s x : Operand) (t : TypeId)
    (ho : o.op = Op.call { callee := Callee.builtin Builtin.append, args := #[s, x], argTypes := #[t, t] }) {u v v' : Value} {w' : World} (hs : a.eval s = u) (hx : a.eval x = v) (hr : (Builtin.append_ #[t, t] o.type #[u, v]).run P w = .ok v' w')
    (h : K (a.put o.dst v') w') : Oper.wp P o a w K Q := by
  unfold Oper.wp execOp
  simp only [ho, resolve, invoke, builtin, Sem.run_bind, Sem.run_pure, Result.andThen_ok, List.map_toArray, List.map_cons, List.map_nil, hs, hx, hr]
  exact h
section
variable {w w1 w2 wr : World} {u b g c1 k : Nat} {G H H' : Nat → Prop} {ha : Option Addr} {hc : Nat} {S S' : Fs21} {P P' : Pw22} {L : List Int} {x : Int}
theorem Rh22.push (h : Rh22 w u b G H ha hc S P) (hx : 0 ≤ x ∧ x ≤ 255) (ho : w1.ownsRow 0 5 1 (.slice (some ⟨g, 0, none⟩) (P.bf.length + 1) c1) (P.bf.length + 1) ((P.bf ++ [x]).map (Value.int .u8)))
    (hk : Kp (fun k => (Value.slice ha P.bf.length hc).ownBlock = some k) w w1) (hg : (Value.slice ha P.bf.length hc).ownBlock = some g ∨ w.heap.size ≤ g) :
    Ren22 w (w1.setCell ⟨u, 2, none⟩ (.slice (some ⟨g, 0, none⟩) (P.bf.length + 1) c1)) u b H S { P with bf := P.bf ++ [x] } := by
  have hgl : g < w1.heap.size := (ho.lt g rfl).2
  have hgu : g ≠ u := by
    rcases hg with e | e
    · exact h.wr.ne g e
    · have := h.lt u h.uH; omega
  have hgG : ¬ G g := by
    rcases hg with e | e
    · exact h.nh g e
    · intro q; have := h.fl.lts g q; omega
  have hu1 : w1.heap[u]? = w.heap[u]? := hk.block u (h.lt u h.uH) (fun e => h.wr.ne u e rfl)
  have ks : Kp (fun k => k = u) w1 (w1.setCell ⟨u, 2, none⟩ (.slice (some ⟨g, 0, none⟩) (P.bf.length + 1) c1)) := Kp.set (S := fun k => k = u) rfl _
  have hl : (P.bf ++ [x]).length = P.bf.length + 1 := by simp
  refine ⟨fun k => H k ∨ k = g, ⟨G, some ⟨g, 0, none⟩, c1, ⟨h.fl.kp (fun k e => ?_) (Nat.le_trans hk.size ks.size), ⟨?_, ?_, fun k e => ?_, ?_⟩, h.nu, fun k e => ?_, fun k e => .inl (h.gH k e), .inl h.uH, fun k e => ?_, fun k e => ?_⟩⟩, fun k e => ?_, (hk.mono (fun k _ e => h.hH k e)).trans (ks.mono (fun k _ e => by rw [e]; exact h.uH)) (fun _ _ e => e)⟩
  · rw [set_other22 _ _ (show k ≠ u from fun q => h.nu (by rw [← q]; exact e))]
    exact hk.block k (h.fl.lts k e) (fun q => h.nh k q e)
  · have := hu1.trans h.wr.hu
    show _ = some (Obj.cells #[_, _, .slice _ (P.bf ++ [x]).length c1, _, _, _, _] _ _)
    rw [hl]
    simp [World.setCell, Array.getElem?_modify, this]
  · show World.ownsRow _ 0 _ 1 (.slice _ (P.bf ++ [x]).length c1) (P.bf ++ [x]).length _
    rw [hl]
    exact own_tr22 ho (fun r hr => by simp only [Value.ownBlock, Option.some.injEq] at hr; exact set_other22 _ _ (by omega))
  · simp only [Value.ownBlock, Option.some.injEq] at e; omega
  · intro y hy
    rcases List.mem_append.1 hy with hy | hy
    · exact h.wr.bd y hy
    · simp at hy; subst hy; exact hx
  · simp only [Value.ownBlock, Option.some.injEq] at e; rw [← e]; exact hgG
  · simp only [Value.ownBlock, Option.some.injEq] at e; exact .inr e.symm
  · have hz := Nat.le_trans hk.size ks.size
    rcases e with e | e
    · exact Nat.lt_of_lt_of_le (h.lt k e) hz
    · rw [e]; exact Nat.lt_of_lt_of_le hgl ks.size
  · rcases e with e | e
    · exact .inl e
    · rcases hg with q | q
      · exact .inl (by rw [e]; exact h.hH g q)
      · exact .inr (by omega)
theorem Rh22.drew (h : Rh22 w u b G H ha hc S P) : Rh22 w.drew u b G H ha hc S P := ⟨h.fl.old ((Below.refl _ _).drew), ⟨h.wr.hu, h.wr.ow.drew, h.wr.ne, h.wr.bd⟩, h.nu, h.nh, h.gH, h.uH, h.hH, h.lt⟩
theorem Rh22.wrote (h : Rh22 w u b G H ha hc S P) (n : Nat) : Ren22 w (w.setCell ⟨u, 3, none⟩ (.int .i64 (n : Int))) u b H S { P with wn := n } := by
  have hk : Kp H w (w.setCell ⟨u, 3, none⟩ (.int .i64 (n : Int))) := Kp.set h.uH _
  exact ⟨H, ⟨G, ha, hc, ⟨h.fl.kp (fun k e => set_other22 w _ (fun q => h.nu (q ▸ e))) hk.size, ⟨(seven_set22 h.wr.hu _).1, own_tr22 h.wr.ow (fun r hr => set_other22 w _ (h.wr.ne r hr)), h.wr.ne, h.wr.bd⟩, h.nu, h.nh, h.gH, h.uH, h.hH, fun k e => Nat.lt_of_lt_of_le (h.lt k e) hk.size⟩⟩, fun _ e => .inl e, hk⟩
/-- What holds of Write's loop behind k bytes. -/
structure Tg22 (w wr : World) (u b : Nat) (H : Nat → Prop) (S : Fs21) (P : Pw22) (L : List Int) (k : Nat) (H' : Nat → Prop) (S' : Fs21) (P' : Pw22) : Prop where
  re : Re22 wr u b H' S' P'
  fr : ∀ x, H' x → H x ∨ w.heap.size ≤ x
  kp : Kp H w wr
  ok : Ok21 S'
  pg : S'.pg = S.pg
  tk : tk22 S P L = tk22 S' P' (L.drop k)
  lt : P'.bf.length < S'.pg
  ar : P'.ar = P.ar
  wn : P'.wn = P.wn
  cl : P'.cl = 0
  pn : P'.pn ≤ P.pn + k
  lg : S'.lg.length ≤ S.lg.length + 2 * k
theorem Tg22.join (h : Tg22 w wr u b H S P L k H' S' P') {S2 : Fs21} {P2 : Pw22} (hn : Ren22 wr w2 u b H' S2 P2) : ∃ H2, Re22 w2 u b H2 S2 P2 ∧ (∀ x, H2 x → H x ∨ w.heap.size ≤ x) ∧ Kp H w w2 := Ren22.cons h.fr h.kp hn
theorem Tg22.more (h : Tg22 w wr u b H S P L k H' S' P') (hk : L[k]? = some x) (hne : ¬ (P'.bf ++ [x]).length = S'.pg) (hn : Ren22 wr w2 u b H' S' { P' with bf := P'.bf ++ [x] }) : ∃ H2, Tg22 w w2 u b H S P L (k + 1) H2 S' { P' with bf := P'.bf ++ [x] } := by
  obtain ⟨H2, h1, h2, h3⟩ := h.join hn
  have hkl := (List.getElem?_eq_some_iff.1 hk).1
  have hd : L.drop k = x :: L.drop (k + 1) := by
    have h1 : L[k] = x := by rw [List.getElem?_eq_getElem hkl] at hk; injection hk
    rw [← h1]; exact List.drop_eq_getElem_cons hkl
  refine ⟨H2, h1, h2, h3, h.ok, h.pg, ?_, ?_, h.ar, h.wn, h.cl, Nat.le_trans h.pn (by omega), Nat.le_trans h.lg (by omega)⟩
  · rw [h.tk, hd, tk22, if_neg hne]
  · have := h.lt; simp only [List.length_append, List.length_cons, List.length_nil] at hne ⊢; omega
theorem Tg22.full (h : Tg22 w wr u b H S P L k H' S' P') (hk : L[k]? = some x) (he : (P'.bf ++ [x]).length = S'.pg) (hE : lyE22 S' { P' with bf := P'.bf ++ [x] } = 0) (hn : Ren22 wr w2 u b H' (lyS22 S' { P' with bf := P'.bf ++ [x] }) (lyP22 S' { P' with bf := P'.bf ++ [x] })) :
    ∃ H2, Tg22 w w2 u b H S P L (k + 1) H2 (lyS22 S' { P' with bf := P'.bf ++ [x] }) (lyP22 S' { P' with bf := P'.bf ++ [x] }) := by
  obtain ⟨H2, h1, h2, h3⟩ := h.join hn
  have hkl := (List.getElem?_eq_some_iff.1 hk).1
  have hd : L.drop k = x :: L.drop (k + 1) := by
    have h1 : L[k] = x := by rw [List.getElem?_eq_getElem hkl] at hk; injection hk
    rw [← h1]; exact List.drop_eq_getElem_cons hkl
  have hy := lyS22_pg S' { P' with bf := P'.bf ++ [x] }
  have hP : lyP22 S' { P' with bf := P'.bf ++ [x] } = { P' with pn := P'.pn + 1, bf := [] } := by
    unfold lyP22; rw [if_neg (by rw [hE]; simp)]
  have hpg := h.ok.pg
  refine ⟨H2, h1, h2, h3, ok22_ly h.ok _, hy.1.trans h.pg, ?_, ?_, ?_, ?_, ?_, ?_, ?_⟩
  · rw [h.tk, hd, tk22, if_pos he, if_neg (by rw [hE]; simp)]
  · rw [hP, hy.1]; simp; omega
  · rw [hP]; exact h.ar
  · rw [hP]; exact h.wn
  · rw [hP]; exact h.cl
  · rw [hP]; have := h.pn; show P'.pn + 1 ≤ _; omega
  · have := h.lg; omega
theorem Tg22.no (h : Tg22 w wr u b H S P L k H' S' P') (hk : L[k]? = some x) (he : (P'.bf ++ [x]).length = S'.pg) (hE : lyE22 S' { P' with bf := P'.bf ++ [x] } ≠ 0) (hn : Ren22 wr w2 u b H' (lyS22 S' { P' with bf := P'.bf ++ [x] }) (lyP22 S' { P' with bf := P'.bf ++ [x] })) :
    tkE22 S P L = lyE22 S' { P' with bf := P'.bf ++ [x] } ∧ Ren22 w w2 u b H (tkS22 S P L) (tkP22 S P L) := by
  have hkl := (List.getElem?_eq_some_iff.1 hk).1
  have hd : L.drop k = x :: L.drop (k + 1) := by
    have h1 : L[k] = x := by rw [List.getElem?_eq_getElem hkl] at hk; injection hk
    rw [← h1]; exact List.drop_eq_getElem_cons hkl
  have ht := h.tk
  rw [hd, tk22, if_pos he, if_pos hE] at ht
  unfold tkE22 tkS22 tkP22
  rw [ht]
  refine ⟨rfl, ?_⟩
  rw [if_neg hE]
  exact h.join hn
theorem Tg22.fin (h : Tg22 w wr u b H S P L L.length H' S' P') (hn : Ren22 wr w2 u b H' S' { P' with wn := P.wn + L.length }) :
    tkE22 S P L = 0 ∧ Ren22 w w2 u b H (tkS22 S P L) (tkP22 S P L) := by
  have ht := h.tk
  rw [List.drop_eq_nil_of_le (Nat.le_refl _)] at ht
  unfold tkE22 tkS22 tkP22
  rw [ht, tk22]
  refine ⟨rfl, ?_⟩
  rw [if_pos rfl]
  have e := h.join hn
  rw [← h.wn] at e
  exact e
end
set_option maxRecDepth 100000 in
set_option maxHeartbeats 16000000 in
theorem rwri22 {w : World} {u b : Nat} {H : Nat → Prop} {S : Fs21} {P : Pw22} (h : Re22 w u b H S P) (hO : Ok21 S) (har : In21 P.ar) (hp : P.pn ≤ 274877906944) (hw : P.wn ≤ 16777216) (hlg : S.lg.length ≤ 1099511627776) (hbf : P.cl = 0 → P.bf.length < S.pg)
    (a : Option Addr) (L : List Int) (n cap : Nat) (hs : Seg w a L) (hn : Hid (L.length = n)) (hl : n ≤ 281474976710656) (hap : ∀ x off, a = some ⟨x, off, none⟩ → 0 < n → ¬ H x) :
    Calls Try.prog 24 #[.pointer (some ⟨u, 0, none⟩), .slice a n cap] w fun e w' => e = .returned (.int .i64 (wrE22 S P L)) ∧ Ren22 w w' u b H (wrS22 S P L) (wrP22 S P L) := by
  obtain ⟨G, ha, hc, q⟩ := h
  have hMY := rmay22 q.wr
  have hmx := mx22_bd hO
  have HPS : Hid ((S.pg : Int) * (S.ps : Int) = (mx22 S : Int)) := (Int.natCast_mul _ _).symm
  obtain ⟨MX, hMX⟩ : ∃ MX, MX = mx22 S := ⟨_, rfl⟩
  obtain ⟨PG, hPG⟩ : ∃ PG, PG = S.pg := ⟨_, rfl⟩
  obtain ⟨PS, hPS⟩ : ∃ PS, PS = S.ps := ⟨_, rfl⟩
  obtain ⟨WN, hWN⟩ : ∃ WN, WN = P.wn := ⟨_, rfl⟩
  rw [← hMX] at hmx HPS
  rw [← hPG, ← hPS] at HPS
  have hmul : IntKind.i64.wrap ((PG : Int) * (PS : Int)) = (MX : Int) := by rw [HPS.out, IntWalk.i64_in _ (by omega)]
  rw [← hWN] at hw
  have hsub : IntKind.i64.wrap ((MX : Int) - (WN : Int)) = (MX : Int) - (WN : Int) := IntWalk.i64_in _ (by omega)
  have HQ : Hid (Rh22 w u b G H ha hc S P) := q
  have d0 : w.cell? ⟨u, 0, none⟩ = some (.pointer (some ⟨b, 0, none⟩)) := q.wr.cel rfl
  have d3 : w.cell? ⟨u, 3, none⟩ = some (.int .i64 (WN : Int)) := by rw [hWN]; exact q.wr.cel rfl
  have HBC : Hid (∀ (V : World) (G' : Nat → Prop) (S2 : Fs21), Rl21d V b G' S2 → V.cell? ⟨b, 0, none⟩ = some (.int .i64 (S2.pg : Int)) ∧ V.cell? ⟨b, 1, none⟩ = some (.int .i64 (S2.ps : Int))) := fun V G' S2 hr => by
    obtain ⟨g, c, A, tn, ta, tc, la, lc, V', r, _⟩ := hr
    exact ⟨r.cel rfl, r.cel rfl⟩
  obtain ⟨f0, f1⟩ := HBC.out w G S q.fl
  rw [← hPG] at f0
  rw [← hPS] at f1
  have HFU : Hid (fu22 S P L.length ↔ (MX : Int) - (WN : Int) < (n : Int)) := by rw [hn.out, hMX, hWN]; exact Iff.rfl
  have HE : Hid (wrE22 S P L = if P.cl ≠ 0 then P.cl else if fu22 S P L.length then 220 else tkE22 S P L) := rfl
  have HS : Hid (wrS22 S P L = if P.cl ≠ 0 then S else if fu22 S P L.length then S else tkS22 S P L) := rfl
  have HP : Hid (wrP22 S P L = if P.cl ≠ 0 then P else if fu22 S P L.length then P else tkP22 S P L) := rfl
  have HOO : Hid (Ok21 S ∧ In21 P.ar ∧ P.pn ≤ 274877906944 ∧ S.lg.length ≤ 1099511627776 ∧ (P.cl = 0 → P.bf.length < S.pg)) := ⟨hO, har, hp, hlg, hbf⟩
  have HSG : Hid (Seg w a L ∧ ∀ x off, a = some ⟨x, off, none⟩ → 0 < n → ¬ H x) := ⟨hs, hap⟩
  have HPGS : Hid (PG = S.pg ∧ WN = P.wn) := ⟨hPG, hWN⟩
  clear q hO har hp hlg hbf hs hap hMX hPG hPS hWN
  by_cases hcl : P.cl = 0
  · rw [hcl] at hMY
    have HCL : Hid (P.cl = 0) := hcl
    rw [HE.out, HS.out, HP.out, if_neg (show ¬ P.cl ≠ 0 by simp [hcl]), if_neg (show ¬ P.cl ≠ 0 by simp [hcl]), if_neg (show ¬ P.cl ≠ 0 by simp [hcl])]
    clear hcl
    by_cases hf : (MX : Int) - (WN : Int) < (n : Int)
    · have hfu := HFU.out.2 hf
      rw [if_pos hfu, if_pos hfu, if_pos hfu]
      clear hfu
      go_enter Try.func24, Try.ntmps24
      go_wp2_with fail
      refine hMY.mono ?_
      rintro e w1 ⟨rfl, hw1⟩
      subst w1
      have g0 : w.drew.cell? ⟨u, 0, none⟩ = some (.pointer (some ⟨b, 0, none⟩)) := d0
      have g3 : w.drew.cell? ⟨u, 3, none⟩ = some (.int .i64 (WN : Int)) := d3
      have k0 : w.drew.cell? ⟨b, 0, none⟩ = some (.int .i64 (PG : Int)) := f0
      have k1 : w.drew.cell? ⟨b, 1, none⟩ = some (.int .i64 (PS : Int)) := f1
      go_upto_region 4 with fail
      refine still_all22c (by kernel_rfl) (by kernel_rfl) ?_
      repeat still_step
      refine wpStill_nil ?_
      go_wp2_with fail
      go_ret
      obtain ⟨H', r1, r2, r3⟩ := HQ.out.same
      exact ⟨rfl, H', ⟨by obtain ⟨G', a', c', z⟩ := r1; exact ⟨G', a', c', z.drew⟩, r2, r3.drew⟩⟩
    · have hfu : ¬ fu22 S P L.length := fun e => hf (HFU.out.1 e)
      rw [if_neg hfu, if_neg hfu, if_neg hfu]
      clear hfu
      have hnM : n ≤ 16777216 := by omega
      have HNM : Hid ((n : Int) ≤ (MX : Int) - (WN : Int) ∧ MX ≤ 16777216) := ⟨by omega, hmx⟩
      go_enter Try.func24, Try.ntmps24
      go_wp2_with fail
      refine hMY.mono ?_
      rintro e w1 ⟨rfl, hw1⟩
      subst w1
      have g0 : w.drew.cell? ⟨u, 0, none⟩ = some (.pointer (some ⟨b, 0, none⟩)) := d0
      have g3 : w.drew.cell? ⟨u, 3, none⟩ = some (.int .i64 (WN : Int)) := d3
      have k0 : w.drew.cell? ⟨b, 0, none⟩ = some (.int .i64 (PG : Int)) := f0
      have k1 : w.drew.cell? ⟨b, 1, none⟩ = some (.int .i64 (PS : Int)) := f1
      go_upto_region 4 with fail
      refine still_all22c (by kernel_rfl) (by kernel_rfl) ?_
      repeat still_step
      refine wpStill_nil ?_
      have T0 : Hid (Tg22 w w.drew u b H S P L 0 H S P) := by
        have hoo := HOO.out
        exact ⟨⟨G, ha, hc, HQ.out.drew⟩, fun _ e => .inl e, (Kp.refl _ _).drew, hoo.1, rfl, rfl, hoo.2.2.2.2 HCL.out, rfl, rfl, HCL.out, Nat.le_refl _, Nat.le_refl _⟩
      clear g0 g3 k0 k1 d0 d3 f0 f1 hMY hmul hsub hmx
      go_wp2_with fail
      clear hf
      go_loopw [6] (fun ti wr => ∃ (k : Nat) (H' : Nat → Prop) (S' : Fs21) (P' : Pw22), k ≤ n ∧ ti = .int .i64 (k : Int) ∧ Tg22 w wr u b H S P L k H' S' P') (fun ti _ => n - (intOf ti).toNat)
      case atStart => exact ⟨0, H, S, P, by omega, rfl, T0.out⟩
      case round =>
        obtain ⟨k, H', S', P', hkn, rfl, hT⟩ := hrel
        have HT : Hid (Tg22 w wr u b H S P L k H' S' P') := hT
        obtain ⟨G', ha', hc', q⟩ := hT.re
        have HQ' : Hid (Rh22 wr u b G' H' ha' hc' S' P') := q
        by_cases hk : k < n
        · have hkk : (k : Int) < (n : Int) := by omega
          have hkw : IntKind.i64.wrap ((k : Int) + 1) = ((k + 1 : Nat) : Int) := by rw [IntWalk.i64_in _ (by omega)]; omega
          obtain ⟨ga, off, hea, ea⟩ := HSG.out.1.at_ k (by rw [hn.out]; exact hk)
          have hbx := HSG.out.1.bd k
          obtain ⟨x, hx⟩ : ∃ x, x = L.getD k 0 := ⟨_, rfl⟩
          rw [← hx] at ea hbx
          have hLk : L[k]? = some x := by rw [hx, List.getD, List.getElem?_eq_getElem (by rw [hn.out]; exact hk)]; rfl
          have hnH := HSG.out.2 ga off hea (by omega)
          subst hea
          have hgal : ga < w.heap.size := World.block_lt_of_cell? w _ ea
          obtain ⟨BL, hBL⟩ : ∃ BL, BL = P'.bf.length := ⟨_, rfl⟩
          have hBLlt : BL < 4096 := by have h1 := hT.lt; have h2 := hT.ok.pg; omega
          have y2 : wr.cell? ⟨u, 2, none⟩ = some (.slice ha' BL hc') := by rw [hBL]; exact q.wr.cel rfl
          have ya : wr.cell? ⟨ga, off + k, none⟩ = some (.int .u8 x) := (World.cell?_of_block (a := ⟨ga, off + k, none⟩) (hT.kp.block ga hgal hnH)).trans ea
          obtain ⟨v0, hv0⟩ : ∃ v, v = wr.drew := ⟨_, rfl⟩
          have HV0 : Hid (wr.drew = v0) := hv0.symm
          have HQ0 : Hid (Rh22 v0 u b G' H' ha' hc' S' P') := by rw [hv0]; exact q.drew
          have hc0 : v0.cell? ⟨u, 2, none⟩ = some (.slice ha' BL hc') ∧ v0.cell? ⟨ga, off + k, none⟩ = some (.int .u8 x) := by rw [hv0]; exact ⟨y2, ya⟩
          have HT0 : Hid (Tg22 w v0 u b H S P L k H' S' P') := by rw [hv0]; exact ⟨⟨G', ha', hc', q.drew⟩, hT.fr, hT.kp.drew, hT.ok, hT.pg, hT.tk, hT.lt, hT.ar, hT.wn, hT.cl, hT.pn, hT.lg⟩
          have hga : ∀ r, (Value.slice ha' BL hc').ownBlock = some r → ga ≠ r := fun r e q2 => by
            rw [hBL] at e
            have h1 := q.hH r e
            rcases hT.fr r h1 with h2 | h2
            · exact hnH (q2 ▸ h2)
            · omega
          -- the append
          obtain ⟨i0, hi0, hz0, hz1, hz2⟩ := info_parts info_u22
          have how := HQ0.out.wr.ow
          rw [← hBL] at how
          obtain ⟨v1, hv1⟩ : ∃ v, v = v0.alloc (.cells #[.int .u8 x] 5) := ⟨_, rfl⟩
          obtain ⟨vx, v2, hr, ho2, hg2, _, hfr⟩ := run_app_st (P := Try.prog) 22 22 0 5 i0 (.int .u8 0) 1 Try.underlying22 hi0 hz0 hz1 hz2 rfl (v0.alloc (.cells #[.int .u8 x] 5)) (how.alloc _) ⟨v0.heap.size, 0, none⟩ 1 1 [.int .u8 x] rfl (cell_one_new _ _ _) (by intro z hz; simp at hz; subst hz; rfl) (by omega) (by omega) (Nat.zero_le _)
          obtain ⟨g2, c2, hvx, _⟩ := own_shape ho2 (Nat.succ_pos BL)
          subst hvx
          have HR : Hid ((Builtin.append_ #[22, 22] 22 #[.slice ha' BL hc', .slice (some ⟨v0.heap.size, 0, none⟩) 1 1]).run Try.prog v1 = .ok (.slice (some ⟨g2, 0, none⟩) (BL + 1) c2) v2) := by rw [hv1]; exact hr
          have hk1 : Kp (fun r => (Value.slice ha' BL hc').ownBlock = some r) v0 v1 := by rw [hv1]; exact Kp.alloc _ _
          have hk2 : Kp (fun r => (Value.slice ha' BL hc').ownBlock = some r) v0 v2 := hk1.trans (by rw [hv1]; exact Kp.grown hg2 (fun i e => e)) (fun _ _ e => e)
          have hul : u < v0.heap.size := HQ0.out.lt u HQ0.out.uH
          have hun : ∀ r, (Value.slice ha' BL hc').ownBlock = some r → u ≠ r := fun r e q2 => HQ0.out.wr.ne r (by rw [← hBL]; exact e) q2.symm
          have HKC : Hid (∀ V, Kp (fun r => (Value.slice ha' BL hc').ownBlock = some r) v0 V → V.cell? ⟨u, 2, none⟩ = some (.slice ha' BL hc') ∧ V.cell? ⟨ga, off + k, none⟩ = some (.int .u8 x)) := fun V hV =>
            ⟨(World.cell?_of_block (a := ⟨u, 2, none⟩) (hV.block u hul (fun e => hun u e rfl))).trans hc0.1, (World.cell?_of_block (a := ⟨ga, off + k, none⟩) (hV.block ga (World.block_lt_of_cell? _ _ hc0.2) (fun e => hga ga e rfl))).trans hc0.2⟩
          have hfu2 : v2.frozen? ⟨u, 2, none⟩ = false := by
            have hb := (hk2.block u hul (fun e => hun u e rfl)).trans HQ0.out.wr.hu
            simp [World.frozen?, hb]
          have HPUSH : Hid (Ren22 v0 (v2.setCell ⟨u, 2, none⟩ (.slice (some ⟨g2, 0, none⟩) (BL + 1) c2)) u b H' S' { P' with bf := P'.bf ++ [x] }) := by
            have hgg : (Value.slice ha' BL hc').ownBlock = some g2 ∨ v0.heap.size ≤ g2 := by
              rcases hfr g2 rfl with e | e
              · exact .inl e
              · exact .inr (by simp at e; omega)
            have := HQ0.out.push (x := x) (w1 := v2) (g := g2) (c1 := c2) hbx (by rw [← hBL]; simpa using ho2) (by rw [← hBL]; exact hk2) (by rw [← hBL]; exact hgg)
            rw [← hBL] at this
            exact this
          have HLK : Hid (L[k]? = some x ∧ (P'.bf ++ [x]).length = BL + 1) := ⟨hLk, by rw [hBL]; simp⟩
          have HV1 : Hid (v0.alloc (.cells #[.int .u8 x] 5) = v1 ∧ Kp (fun r => (Value.slice ha' BL hc').ownBlock = some r) v0 v1 ∧ Kp (fun r => (Value.slice ha' BL hc').ownBlock = some r) v0 v2) := ⟨hv1.symm, hk1, hk2⟩
          obtain ⟨zz, hzz⟩ : ∃ zz, zz = v0.heap.size := ⟨_, rfl⟩
          have HZZ : Hid (v0.heap.size = zz) := hzz.symm
          rw [← hzz] at HR
          clear hr ho2 hg2 hfr how hk1 hk2 hul hun hv1 hzz hga hv0 hBL hx hLk hbx ea hgal hnH y2 ya q hT hi0 hz0 hz1 hz2
          go_upto_region 9 with fail
          refine plain_region16 (fun V => V.cell? ⟨u, 2, none⟩ = some (.slice ha' BL hc') ∧ V.cell? ⟨ga, off + k, none⟩ = some (.int .u8 x)) 13 (by kernel_rfl) (by rw [HV0.out]; exact hc0) (fun hHeld => ?_)
          rw [HV0.out] at hHeld ⊢
          clear hc0
          refine wpAnyK_take (i := 0) (v := .pointer (some ⟨u, 0, none⟩)) rfl (by kernel_rfl) (by kernel_rfl) (by kernel_rfl) (by kernel_rfl) (fun _ _ _ h => h) (Or.inl ⟨by rfl, fun w hSw => by go_simp⟩) hHeld ?_
          simp only [List.getElem_toArray, List.getElem_cons_zero, Act.put, List.setIfInBounds_toArray, List.set_cons_zero, List.set_cons_succ]
          refine wpAnyK_take (i := 1) (v := .pointer (some ⟨u, 0, none⟩)) rfl (by kernel_rfl) (by kernel_rfl) (by kernel_rfl) (by kernel_rfl) (fun _ _ _ h => h) (Or.inl ⟨by rfl, fun w hSw => by go_simp⟩) hHeld ?_
          simp only [List.getElem_toArray, List.getElem_cons_zero, List.getElem_cons_succ, Act.put, List.setIfInBounds_toArray, List.set_cons_zero, List.set_cons_succ]
          refine wpAnyK_take (i := 2) (v := .pointer (some ⟨u, 0, none⟩)) rfl (by kernel_rfl) (by kernel_rfl) (by kernel_rfl) (by kernel_rfl) (fun _ _ _ h => h) (Or.inl ⟨by rfl, fun w hSw => by go_simp⟩) hHeld ?_
          simp only [List.getElem_toArray, List.getElem_cons_zero, List.getElem_cons_succ, Act.put, List.setIfInBounds_toArray, List.set_cons_zero, List.set_cons_succ]
          refine wpAnyK_take (i := 3) (v := .pointer (some ⟨u, 2, none⟩)) rfl (by kernel_rfl) (by kernel_rfl) (by kernel_rfl) (by kernel_rfl) (fun _ _ _ h => h) (Or.inl ⟨by rfl, fun w hSw => by go_simp⟩) hHeld ?_
          simp only [List.getElem_toArray, List.getElem_cons_zero, List.getElem_cons_succ, Act.put, List.setIfInBounds_toArray, List.set_cons_zero, List.set_cons_succ]
          refine wpAnyK_take (i := 4) (v := .slice ha' BL hc') rfl (by kernel_rfl) (by kernel_rfl) (by kernel_rfl) (by kernel_rfl) (fun _ _ _ h => h) (Or.inl ⟨by rfl, fun w hSw => by go_simp⟩) hHeld ?_
          simp only [List.getElem_toArray, List.getElem_cons_zero, List.getElem_cons_succ, Act.put, List.setIfInBounds_toArray, List.set_cons_zero, List.set_cons_succ]
          refine wpAnyK_take (i := 5) (v := .slice (some ⟨ga, off, none⟩) n cap) rfl (by kernel_rfl) (by kernel_rfl) (by kernel_rfl) (by kernel_rfl) (fun _ _ _ h => h) (Or.inl ⟨by rfl, fun w hSw => by go_simp⟩) hHeld ?_
          simp only [List.getElem_toArray, List.getElem_cons_zero, List.getElem_cons_succ, Act.put, List.setIfInBounds_toArray, List.set_cons_zero, List.set_cons_succ]
          refine wpAnyK_take (i := 6) (v := .int .i64 (k : Int)) rfl (by kernel_rfl) (by kernel_rfl) (by kernel_rfl) (by kernel_rfl) (fun _ _ _ h => h) (Or.inl ⟨by rfl, fun w hSw => by go_simp⟩) hHeld ?_
          simp only [List.getElem_toArray, List.getElem_cons_zero, List.getElem_cons_succ, Act.put, List.setIfInBounds_toArray, List.set_cons_zero, List.set_cons_succ]
          refine wpAnyK_take (i := 7) (v := .pointer (some ⟨ga, off + k, none⟩)) rfl (by kernel_rfl) (by kernel_rfl) (by kernel_rfl) (by kernel_rfl) (fun _ _ _ h => h) (Or.inl ⟨by rfl, fun w hSw => by go_simp⟩) hHeld ?_
          simp only [List.getElem_toArray, List.getElem_cons_zero, List.getElem_cons_succ, Act.put, List.setIfInBounds_toArray, List.set_cons_zero, List.set_cons_succ]
          refine wpAnyK_take (i := 8) (v := .int .u8 x) rfl (by kernel_rfl) (by kernel_rfl) (by kernel_rfl) (by kernel_rfl) (fun _ _ _ h => h) (Or.inl ⟨by rfl, fun w hSw => by go_simp⟩) hHeld ?_
          simp only [List.getElem_toArray, List.getElem_cons_zero, List.getElem_cons_succ, Act.put, List.setIfInBounds_toArray, List.set_cons_zero, List.set_cons_succ]
          refine wpAnyK_one (i := 9) (by kernel_rfl) rfl (fun K hK => ?_)
          (try simp only [List.getElem_toArray, List.getElem_cons_zero, List.getElem_cons_succ, Act.put, List.setIfInBounds_toArray, List.set_cons_zero, List.set_cons_succ])
          go_simp
          rw [HV1.out.1, HZZ.out]
          refine hK.out _ _ (fun _ => HKC.out v1 HV1.out.2.1) (fun hHeld0 => ?_)
          have hHeld := hHeld0 (by decide)
          clear hHeld0 hK K
          (try simp only [List.getElem_toArray, List.getElem_cons_zero, List.getElem_cons_succ, Act.put, List.setIfInBounds_toArray, List.set_cons_zero, List.set_cons_succ])
          refine wpAnyK_one (i := 10) (by kernel_rfl) rfl (fun K hK => ?_)
          simp only [List.getElem_toArray, List.getElem_cons_zero, List.getElem_cons_succ]
          rw [if_pos (by rfl)]
          refine operwp_app22 _ _ _ rfl rfl rfl HR.out ?_
          refine hK.out _ _ (fun _ => HKC.out v2 HV1.out.2.2) (fun hHeld0 => ?_)
          have hHeld := hHeld0 (by decide)
          clear hHeld0 hK K
          simp only [Act.put, List.setIfInBounds_toArray, List.set_cons_zero, List.set_cons_succ]
          refine wpAnyK_one (i := 11) (by kernel_rfl) rfl (fun K hK => ?_)
          (try simp only [List.getElem_toArray, List.getElem_cons_zero, List.getElem_cons_succ, Act.put, List.setIfInBounds_toArray, List.set_cons_zero, List.set_cons_succ])
          go_simp
          refine hK.out _ _ (fun _ => HKC.out v2 HV1.out.2.2) (fun hHeld0 => ?_)
          have hHeld := hHeld0 (by decide)
          clear hHeld0 hK K
          (try simp only [List.getElem_toArray, List.getElem_cons_zero, List.getElem_cons_succ, Act.put, List.setIfInBounds_toArray, List.set_cons_zero, List.set_cons_succ])
          refine wpAnyK_one (i := 12) (by kernel_rfl) rfl (fun K hK => ?_)
          (try simp only [List.getElem_toArray, List.getElem_cons_zero, List.getElem_cons_succ, Act.put, List.setIfInBounds_toArray, List.set_cons_zero, List.set_cons_succ])
          go_simp
          refine hK.out _ _ (fun _ => HKC.out v2 HV1.out.2.2) (fun hHeld0 => ?_)
          have hHeld := hHeld0 (by decide)
          clear hHeld0 hK K
          (try simp only [List.getElem_toArray, List.getElem_cons_zero, List.getElem_cons_succ, Act.put, List.setIfInBounds_toArray, List.set_cons_zero, List.set_cons_succ])
          have y2 := (HKC.out v2 HV1.out.2.2).1
          refine wpAnyK_one (i := 13) (by kernel_rfl) rfl (fun K hK => ?_)
          (try simp only [List.getElem_toArray, List.getElem_cons_zero, List.getElem_cons_succ, Act.put, List.setIfInBounds_toArray, List.set_cons_zero, List.set_cons_succ])
          go_simp
          refine hK.out _ _ (fun h => absurd rfl h) (fun _ => ?_)
          clear hK K
          refine wpAnyK_done (by kernel_rfl) ?_ _
          clear y2 hfu2
          obtain ⟨H2, r1, r2, r3⟩ := HPUSH.out
          obtain ⟨G3, ha3, hc3, q3⟩ := r1
          obtain ⟨v3, hv3⟩ : ∃ v3, v3 = v2.setCell ⟨u, 2, none⟩ (.slice (some ⟨g2, 0, none⟩) (BL + 1) c2) := ⟨_, rfl⟩
          have HV3 : Hid (v2.setCell ⟨u, 2, none⟩ (.slice (some ⟨g2, 0, none⟩) (BL + 1) c2) = v3) := hv3.symm
          rw [← hv3] at q3 r3
          have HRN : Hid (Ren22 v0 v3 u b H' S' { P' with bf := P'.bf ++ [x] }) := ⟨H2, ⟨G3, ha3, hc3, q3⟩, r2, r3⟩
          have HQ3 : Hid (Rh22 v3 u b G3 H2 ha3 hc3 S' { P' with bf := P'.bf ++ [x] }) := q3
          have z2 : v3.drew.cell? ⟨u, 2, none⟩ = some (.slice ha3 (BL + 1) hc3) := by rw [← HLK.out.2]; exact q3.wr.cel rfl
          have z0 : v3.drew.cell? ⟨u, 0, none⟩ = some (.pointer (some ⟨b, 0, none⟩)) := q3.wr.cel rfl
          have zb : v3.drew.cell? ⟨b, 0, none⟩ = some (.int .i64 (PG : Int)) := by rw [HPGS.out.1, ← HT0.out.pg]; exact (HBC.out v3 G3 S' q3.fl).1
          have HRD : Hid (Ren22 v0 v3.drew u b H' S' { P' with bf := P'.bf ++ [x] }) := ⟨H2, ⟨G3, ha3, hc3, q3.drew⟩, r2, r3.drew⟩
          have HR23 : Hid ((∀ k, H2 k → H' k ∨ v0.heap.size ≤ k) ∧ Kp H' v0 v3.drew) := ⟨r2, r3.drew⟩
          clear r2 r3 q3 hv3
          by_cases hfull : BL + 1 = PG
          · have hfi : ((BL : Int) + 1 == (PG : Int)) = true := by rw [beq_iff_eq]; omega
            have hfi2 : (BL : Int) + 1 = (PG : Int) := by omega
            have HFL : Hid (Calls Try.prog 52 #[.pointer (some ⟨u, 0, none⟩)] v3.drew fun e w' => e = .returned (.int .i64 (lyE22 S' { P' with bf := P'.bf ++ [x] })) ∧ Ren22 v3.drew w' u b H2 (lyS22 S' { P' with bf := P'.bf ++ [x] }) (lyP22 S' { P' with bf := P'.bf ++ [x] })) := by
              have ht := HT0.out
              have hoo := HOO.out
              have h1 := ht.pn
              have h2 := ht.lg
              have h3 := ht.ar
              have h4 := HNM.out
              exact rflu22 (P := { P' with bf := P'.bf ++ [x] }) HQ3.out.drew ht.ok ht.cl (by show In21 P'.ar; rw [h3]; exact hoo.2.1) (by show P'.pn ≤ _; omega) (by omega)
            have HFULL : Hid ((P'.bf ++ [x]).length = S'.pg ∧ Ren22 v0 v3.drew u b H' S' { P' with bf := P'.bf ++ [x] }) := ⟨by rw [HLK.out.2, hfull, HPGS.out.1, HT0.out.pg], HRD.out⟩
            have HT00 : Hid (Tg22 w v0 u b H S P L k H' S' P') := HT0.out
            obtain ⟨E, hE⟩ : ∃ E, E = lyE22 S' { P' with bf := P'.bf ++ [x] } := ⟨_, rfl⟩
            have HE3 : Hid (E = lyE22 S' { P' with bf := P'.bf ++ [x] }) := hE
            rw [← hE] at HFL
            clear hE hfull
            by_cases hE0 : E = 0
            · subst hE0
              go_upto_region 10 with fail
              rw [HV3.out]
              refine still_all22c (by kernel_rfl) (by kernel_rfl) ?_
              repeat still_step
              refine wpStill_nil ?_
              go_wp2_with fail
              refine HFL.out.mono ?_
              rintro e v4 ⟨rfl, hn4⟩
              have HN4 : Hid (Ren22 v0 v4 u b H' (lyS22 S' { P' with bf := P'.bf ++ [x] }) (lyP22 S' { P' with bf := P'.bf ++ [x] })) := Ren22.cons HR23.out.1 HR23.out.2 hn4
              clear hn4
              go_wp2_with fail
              go_roundw
              case rel =>
                obtain ⟨H4, hh⟩ := HT00.out.full HLK.out.1 HFULL.out.1 HE3.out.symm HN4.out
                exact ⟨k + 1, H4, _, _, by omega, rfl, hh⟩
              case measure => simp [intOf]; omega
            · have hE1 : (E == 0) = false := beq_eq_false_iff_ne.2 hE0
              have HE0 : Hid (E ≠ 0) := hE0
              clear hE0
              go_upto_region 10 with fail
              rw [HV3.out]
              refine still_all22c (by kernel_rfl) (by kernel_rfl) ?_
              repeat still_step
              refine wpStill_nil ?_
              go_wp2_with fail
              refine HFL.out.mono ?_
              rintro e v4 ⟨rfl, hn4⟩
              have HN4 : Hid (Ren22 v0 v4 u b H' (lyS22 S' { P' with bf := P'.bf ++ [x] }) (lyP22 S' { P' with bf := P'.bf ++ [x] })) := Ren22.cons HR23.out.1 HR23.out.2 hn4
              clear hn4
              go_wp2_with fail
              go_ret
              obtain ⟨t1, t2⟩ := HT00.out.no HLK.out.1 HFULL.out.1 (by rw [← HE3.out]; exact HE0.out) HN4.out
              have t3 : tkE22 S P L = E := by rw [t1, HE3.out]
              have hb0 : Below w.heap.size w w := Below.refl _ _
              exact ⟨by rw [t3]; rfl, t2⟩
          · have hfi : ((BL : Int) + 1 == (PG : Int)) = false := by rw [beq_eq_false_iff_ne]; omega
            have hfi2 : ¬ (BL : Int) + 1 = (PG : Int) := by omega
            have HNF : Hid (¬ (P'.bf ++ [x]).length = S'.pg) := by rw [HLK.out.2, HT0.out.pg, ← HPGS.out.1]; exact hfull
            clear hfull
            go_upto_region 10 with fail
            rw [HV3.out]
            refine still_all22c (by kernel_rfl) (by kernel_rfl) ?_
            repeat still_step
            refine wpStill_nil ?_
            go_wp2_with fail
            go_roundw
            case rel =>
              obtain ⟨H4, hh⟩ := HT0.out.more HLK.out.1 HNF.out HRD.out
              exact ⟨k + 1, H4, S', { P' with bf := P'.bf ++ [x] }, by omega, rfl, hh⟩
            case measure => simp [intOf]; omega
        · obtain rfl : k = n := by omega
          have hkk : ¬ (k : Int) < (k : Int) := by omega
          have HL : Hid (k = L.length) := hn.out.symm
          have hwn : P'.wn = WN := by rw [hT.wn, HPGS.out.2]
          have y3 : wr.cell? ⟨u, 3, none⟩ = some (.int .i64 (WN : Int)) := by rw [← hwn]; exact q.wr.cel rfl
          have yf : wr.frozen? ⟨u, 3, none⟩ = false := by simp [World.frozen?, q.wr.hu]
          have hww : IntKind.i64.wrap ((WN : Int) + (k : Int)) = ((WN + k : Nat) : Int) := by rw [IntWalk.i64_in _ (by have := HNM.out; omega)]; omega
          have HFIN : Hid (tkE22 S P L = 0 ∧ Ren22 w (wr.setCell ⟨u, 3, none⟩ (.int .i64 ((WN + k : Nat) : Int))) u b H (tkS22 S P L) (tkP22 S P L)) := by
            have hT2 := hT
            rw [HL.out] at hT2
            have := q.wrote (P.wn + L.length)
            rw [← HPGS.out.2, ← HL.out] at this
            exact hT2.fin (by rw [← HPGS.out.2, ← HL.out]; exact this)
          clear q hT hwn
          go_wp2_with fail
          go_ret
          exact ⟨by rw [HFIN.out.1]; rfl, HFIN.out.2⟩
  · rw [HE.out, HS.out, HP.out, if_pos hcl, if_pos hcl, if_pos hcl]
    generalize P.cl = c at *
    have hcl' : (c == 0) = false := by simp [hcl]
    go_enter Try.func24, Try.ntmps24
    go_wp2_with fail
    refine hMY.mono ?_
    rintro e w1 ⟨rfl, hw1⟩
    subst w1
    go_wp2_with fail
    go_ret
    exact ⟨rfl, HQ.out.same⟩
end Go.Proofs.Ythefcmhmcgjcoaa
