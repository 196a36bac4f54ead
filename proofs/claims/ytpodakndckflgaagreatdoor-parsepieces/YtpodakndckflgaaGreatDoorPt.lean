import Derived.Test.YtpodakndckflgaaGreatDoorPs
import Derived.Test.YtpodakndckflgaaGreatDoorPd
import Derived.Great.BuildSlice
import Derived.Test.YtpodakndckflgaaGreatDoorPa
namespace Go.Proofs.YtpodakndckflgaaGreatDoor
open Go.RowKit Go.Shelf
set_option linter.unusedVariables false
set_option linter.unusedSimpArgs false
theorem wpList_app19 {P : Program} {ops : Array Oper} {rest : List Oper} {o : Oper} {a : Act} {Q : Exit → Act → World → Prop} {w : World} (hg : o.guard = none) (s x : Operand) (t : TypeId)
    (hop : o.op = Op.call { callee := Callee.builtin Builtin.append, args := #[s, x], argTypes := #[t, t] }) {u v v' : Value} {w' : World} (hs : a.eval s = u) (hx : a.eval x = v) (hr : (Builtin.append_ #[t, t] o.type #[u, v]).run P w = .ok v' w')
    (h : wpList P ops Q rest (a.put o.dst v') w') : wpList P ops Q (o :: rest) a w := by
  refine wpList_plain hg fun K hK' => ?_
  exact operwp_app16 s x t hop hs hx hr (hK' _ _ h)
theorem fill19 (e : E19) (p : Option Addr) (c : Nat) (i0 : TypeInfo) (h : i0.size = 16) : Instr.fill (fun i => some (i * i0.size, i0.size)) ((Array.range (1 * i0.size)).map ((Value.agg #[.int .i64 0, .int .i64 0, .int .i64 0, .int .u32 0, .int .u32 0, .int .i64 0, .int .i64 0, .int .i64 0, .int .i64 0, .int .i64 0, .int .i64 0, .int .i64 0, .int .i64 0, .int .i64 0, .int .i64 0, .slice none 0 0]).cells[· % (Value.agg #[.int .i64 0, .int .i64 0, .int .i64 0, .int .u32 0, .int .u32 0, .int .i64 0, .int .i64 0, .int .i64 0, .int .i64 0, .int .i64 0, .int .i64 0, .int .i64 0, .int .i64 0, .int .i64 0, .int .i64 0, .slice none 0 0]).cells.size]!)) [(0, .agg (e.cs p c))] = some (e.cs p c) := by
  rw [h]
  first | rfl | kernel_rfl
set_option maxRecDepth 100000 in
set_option maxHeartbeats 16000000 in
theorem pall19 (za : Option Addr) (zc : Nat) (z : List Int) (w : World) (ht : Tab w) (hz : Seg w za z) (hc : z.length ≤ zc) (hl : z.length ≤ 140737488351232) :
    Calls Tryz.prog 4 #[.slice za z.length zc] w (AlQ19 w z) := by
  have h0 : 0 < w.heap.size := SegK.lt ht 0 0 rfl (by decide)
  have NW := pnew19 w
  obtain ⟨pb, hpb⟩ : ∃ pb, pb = w.heap.size := ⟨_, rfl⟩
  rw [← hpb] at NW
  have HP : Hid (w.heap.size = pb ∧ 0 < pb ∧ z.length ≤ 140737488351232) := ⟨hpb.symm, by omega, hl⟩
  have HT : Hid (∀ V, Below pb w V → Tab V) := fun V hV => ht.old (by rw [← hpb]; exact hV)
  have HI0 : Hid (∀ V, St19 V pb 60 (s019 1) → Below pb w V → Ai19 w pb z (s019 1) [] z za zc (.slice none 0 0) V) := fun V hs hV =>
    ⟨hs, Le19.nil _ _, hz.old (hpb ▸ hV), hc, fun x off e hp => by have := hz.lt x off e hp; omega, g19_new, cb19_new, rfl, ⟨by decide, by show (0 : Int) + _ ≤ _; omega⟩, rfl, .inr (fun x => absurd x (by decide)), hV, hs.lt⟩
  have HZB : Hid (∀ v ∈ z, 0 ≤ v ∧ v ≤ 255) := hz.mem
  clear h0 hpb ht hz hc hl
  go_enter Tryz.func4, Tryz.ntmps4
  go_wp2_with fail
  refine NW.mono ?_
  rintro e1 w1 ⟨rfl, q1, b1⟩
  have H1 : Hid (St19 w1 pb 60 (s019 1) ∧ Below pb w w1) := ⟨q1, b1⟩
  clear NW q1 b1
  go_wp2_with fail
  go_loopw [0, 5] (fun t0 t5 V => ∃ s L zr a cp vO, t0 = .slice a zr.length cp ∧ vO = t5 ∧ Ai19 w pb z s L zr a cp vO V) (fun t0 _ _ => lnv19 t0)
  case atStart => exact ⟨s019 1, [], z, za, zc, _, rfl, rfl, HI0.out w1 H1.out.1 H1.out.2⟩
  case round =>
    obtain ⟨s, L, zr, a, cp, vO, rfl, rfl, hI⟩ := hrel
    have HI := hidm19 hI
    have hnx0 : s.nx ≠ 0 := by have := hI.g.nx; omega
    have DN := pdone19 pb _ s wr hI.st hnx0
    have EN := pend19 pb _ s wr hI.st hnx0
    have HV : Hid (∃ p c, vO = .slice p L.length c) := hI.le.sl
    have HBW : Hid (Below w.heap.size w wr) := by show Below _ _ _; rw [HP.out.1]; exact hI.bl
    by_cases hzr : zr = []
    · subst hzr
      have hf := hI.fu
      clear hI DN
      by_cases h8 : s.nx = 8
      · have EN : Calls Tryz.prog 8 #[.pointer (some ⟨pb, 0, none⟩)] wr fun e w' => e = .returned (.int .i64 0) ∧ w' = wr := by
          rw [show en19 s = 0 by unfold en19; rw [if_neg (by simp [HI.out.wr]), if_pos h8]] at EN
          exact EN
        have HQ : Hid (AlQ19 w z (.returned (.tuple #[vO, .int .i64 0])) wr) := by
          refine ⟨HBW.out, .inr ⟨?_, vO, L, rfl, ?_, ?_⟩⟩
          · unfold al19; rw [← hf, ful19_over h8]; simp
          · unfold al19; rw [← hf, ful19_over h8]; simp
          · rw [HP.out.1]; exact HI.out.le
        clear hf h8 hnx0
        go_wp2_with fail
        refine EN.mono ?_
        rintro e2 w2 ⟨rfl, hw2⟩
        subst w2
        go_wp2_with fail
        go_ret2
        exact HQ.out
      · have EN : Calls Tryz.prog 8 #[.pointer (some ⟨pb, 0, none⟩)] wr fun e w' => e = .returned (.int .i64 192) ∧ w' = wr := by
          rw [show en19 s = 192 by unfold en19; rw [if_neg (by simp [HI.out.wr]), if_neg h8]] at EN
          exact EN
        have HQ : Hid (AlQ19 w z (.returned (.tuple #[.slice none 0 0, .int .i64 192])) wr) := by
          have ha : al19 z = (192, []) := by unfold al19; rw [← hf]; show (if (0 : Int) ≠ 0 then _ else if s.nx ≠ 8 then _ else _) = _; rw [if_neg (by simp), if_pos h8]
          refine ⟨HBW.out, .inl ⟨by rw [ha]; decide, by rw [ha]⟩⟩
        clear hf h8 hnx0
        go_wp2_with fail
        refine EN.mono ?_
        rintro e2 w2 ⟨rfl, hw2⟩
        subst w2
        go_wp2_with fail
        go_ret2
        exact HQ.out
    have hpos : 0 < zr.length := List.length_pos_iff.2 hzr
    have hposI : (0 : Int) < (zr.length : Int) := by omega
    by_cases h8 : s.nx = 8
    · have DN : Calls Tryz.prog 6 #[.pointer (some ⟨pb, 0, none⟩)] wr fun e w' => e = .returned (.bool true) ∧ w' = wr := by
        rw [show (s.nx == 8) = true by simp [h8]] at DN
        exact DN
      have EN : Calls Tryz.prog 8 #[.pointer (some ⟨pb, 0, none⟩)] wr fun e w' => e = .returned (.int .i64 0) ∧ w' = wr := by
        rw [show en19 s = 0 by unfold en19; rw [if_neg (by simp [HI.out.wr]), if_pos h8]] at EN
        exact EN
      have HQ : Hid (AlQ19 w z (.returned (.tuple #[.slice none 0 0, .int .i64 190])) wr) := by
        have hf := hI.fu
        rw [ful19_over h8] at hf
        have ha : al19 z = (190, []) := by unfold al19; rw [← hf]; show (if (0 : Int) ≠ 0 then _ else if (8 : Int) ≠ 8 then _ else if zr ≠ [] then _ else _) = _; rw [if_neg (by simp), if_neg (by simp), if_pos hzr]
        exact ⟨HBW.out, .inl ⟨by rw [ha]; decide, by rw [ha]⟩⟩
      clear hI h8 hnx0 hzr
      go_wp2_with fail
      refine DN.mono ?_
      rintro e2 w2 ⟨rfl, hw2⟩
      subst w2
      go_wp2_with fail
      refine EN.mono ?_
      rintro e3 w3 ⟨rfl, hw3⟩
      subst w3
      go_wp2_with fail
      go_ret2
      exact HQ.out
    have DN : Calls Tryz.prog 6 #[.pointer (some ⟨pb, 0, none⟩)] wr fun e w' => e = .returned (.bool false) ∧ w' = wr := by
      rw [show (s.nx == 8) = false by simp [h8]] at DN
      exact DN
    clear EN
    have hzb : ∀ v ∈ zr, 0 ≤ v ∧ v ≤ 255 := hI.sg.mem
    have hzl : zr.length ≤ 140737488351232 := by have := hI.tk; have := HP.out.2.2; omega
    have hig : Ig19 s e019 zr := ⟨hI.g, by show 0 + zr.length ≤ _; omega⟩
    have htk : 0 ≤ s.tk ∧ s.tk ≤ 4611686018427387904 := by have := hI.tk; have := HP.out.2.2; omega
    have hab : ∀ x off, a = some ⟨x, off, none⟩ → 0 < zr.length → x ≠ pb := fun x off e hp => by have := hI.al x off e hp; omega
    have RI := run_inv19 zr s e019 0 (L.map (·.1)) [] hzb (fun v hv => by cases (show v ∈ ([] : List Int) from hv)) hI.g (.inl rfl) (by rw [psh19_none]; exact hI.cb)
    have hpb0 : pb ≠ 0 := by have := HP.out; omega
    by_cases hok : (run19 dg19 s e019 0 zr).1 = 0
    rotate_left
    · have SN := pSt19_no dcg19 pb s a cp zr wr (HT.out wr hI.bl) hI.st hig hI.sg hab (by omega) hpb0 htk hnx0 hI.wr hok
      have HQ : Hid (∀ V, Below w.heap.size w V → AlQ19 w z (.returned (.tuple #[.slice none 0 0, .int .i64 (run19 dg19 s e019 0 zr).1])) V) := fun V hV => by
        have h1 := RI.1 hok
        rw [psh19_none, List.append_nil, hI.fu] at h1
        have ha : al19 z = ((run19 dg19 s e019 0 zr).1, []) := by unfold al19; rw [h1, if_pos hok]
        exact ⟨hV, .inl ⟨by rw [ha]; exact hok, by rw [ha]⟩⟩
      have HNE : Hid ((run19 dg19 s e019 0 zr).1 ≠ 0) := hok
      clear RI hig htk hab hzb hzl hI h8 hnx0 hzr
      generalize (run19 dg19 s e019 0 zr).1 = er at *
      go_wp2_with fail
      refine DN.mono ?_
      rintro e2 w2 ⟨rfl, hw2⟩
      subst w2
      clear DN
      go_wp2_with fail
      refine SN.mono ?_
      rintro e3 w3 ⟨rfl, -, k3⟩
      have B3 : Below w.heap.size w w3 := by
        have kk : Kp (fun k => w.heap.size ≤ k) w w3 := (Kp.of_below (S := fun k => w.heap.size ≤ k) HBW.out).trans k3 (fun q _ x => by have x : q = pb := x; have := HP.out.1; show w.heap.size ≤ q; omega)
        exact kk.below (fun _ x => x) (Nat.le_refl _)
      obtain ⟨w4, hw4⟩ : ∃ w4, w4 = w3.alloc (.cells #[.int .i64 0, .int .i64 0, .int .i64 0, .int .u32 0, .int .u32 0, .int .i64 0, .int .i64 0, .int .i64 0, .int .i64 0, .int .i64 0, .int .i64 0, .int .i64 0, .int .i64 0, .int .i64 0, .int .i64 0, .slice none 0 0] 39) := ⟨_, rfl⟩
      have k4 := cb16 w3 #[.int .i64 0, .int .i64 0, .int .i64 0, .int .u32 0, .int .u32 0, .int .i64 0, .int .i64 0, .int .i64 0, .int .i64 0, .int .i64 0, .int .i64 0, .int .i64 0, .int .i64 0, .int .i64 0, .int .i64 0, .slice none 0 0] 39
      rw [← hw4] at k4
      obtain ⟨b6, hb6⟩ : ∃ b6, b6 = w3.heap.size := ⟨_, rfl⟩
      have q4 := k4.cl
      rw [← hb6] at q4
      have HW4 : Hid (w3.alloc (.cells #[.int .i64 0, .int .i64 0, .int .i64 0, .int .u32 0, .int .u32 0, .int .i64 0, .int .i64 0, .int .i64 0, .int .i64 0, .int .i64 0, .int .i64 0, .int .i64 0, .int .i64 0, .int .i64 0, .int .i64 0, .slice none 0 0] 39) = w4 ∧ w3.heap.size = b6) := ⟨hw4.symm, hb6.symm⟩
      have HQ4 := hidm19 q4
      have HB5 : Hid (Below w.heap.size w (w4.setRow b6 #[.int .i64 0, .int .i64 0, .int .i64 0, .int .u32 0, .int .u32 0, .int .i64 0, .int .i64 0, .int .i64 0, .int .i64 0, .int .i64 0, .int .i64 0, .int .i64 0, .int .i64 0, .int .i64 0, .int .i64 0, .slice none 0 0])) := by
        have B4 : Below w.heap.size w w4 := B3.trans (k4.bl.mono B3.size)
        have kk : Kp (fun k => w.heap.size ≤ k) w (w4.setRow b6 #[.int .i64 0, .int .i64 0, .int .i64 0, .int .u32 0, .int .u32 0, .int .i64 0, .int .i64 0, .int .i64 0, .int .i64 0, .int .i64 0, .int .i64 0, .int .i64 0, .int .i64 0, .int .i64 0, .int .i64 0, .slice none 0 0]) := (Kp.of_below (S := fun k => w.heap.size ≤ k) B4).trans (grow19 _ _ _) (fun q _ x => by have x : q = b6 := x; have := B3.size; show w.heap.size ≤ q; omega)
        exact kk.below (fun _ x => x) (Nat.le_refl _)
      have hne := HNE.out
      clear hw4 k4 hb6 q4 B3 k3 SN
      go_wp2_with (first
        | (rw [HW4.out.1, HW4.out.2]; refine wpList_store_row rfl 39 (.tmp 6) (.tmp 23) rfl b6 #[.int .i64 0, .int .i64 0, .int .i64 0, .int .u32 0, .int .u32 0, .int .i64 0, .int .i64 0, .int .i64 0, .int .i64 0, .int .i64 0, .int .i64 0, .int .i64 0, .int .i64 0, .int .i64 0, .int .i64 0, .slice none 0 0] rfl rfl _ _ HQ4.out (by kernel_rfl) rfl (by kernel_rfl) ?_))
      go_ret2
      exact HQ.out _ HB5.out
    have SN := pSt19_ok dcg19 pb s a cp zr wr (HT.out wr hI.bl) hI.st hig hI.sg hab (by omega) hpb0 htk hnx0 hI.wr hok
    have HRU := hidm19 (RI.2 hok)
    have HMV : Hid (0 < (run19 dg19 s e019 0 zr).2.1 ∧ (run19 dg19 s e019 0 zr).2.1 ≤ zr.length) := ⟨(RI.2 hok).mv hzr h8, by have := (RI.2 hok).k1; omega⟩
    have HNP : Hid (s.nx = 6 → ¬ pf19 s (L.map (·.1))) := by rcases hI.np with x | x; exact absurd x hzr; exact x
    clear RI hig htk hab hzb h8 hnx0 hzr hI
    generalize run19 dg19 s e019 0 zr = r at *
    obtain ⟨r0, kk, s', e'⟩ := r
    dsimp only at HMV hok
    subst hok
    have hcp : (kk : Int) ≤ (zr.length : Int) := by have := HMV.out; omega
    have hcq : (kk : Int) ≤ (cp : Int) := by have := HMV.out; have := HI.out.cc; omega
    go_wp2_with fail
    refine DN.mono ?_
    rintro e2 w2 ⟨rfl, hw2⟩
    subst w2
    clear DN
    go_wp2_with fail
    refine SN.mono ?_
    rintro e3 w3 ⟨p, c, rfl, q3, o3, k3⟩
    dsimp only at q3 o3 ⊢
    have hbb := HRU.out.bb
    dsimp only at hbb
    have SGP : Seg w3 p e'.bs ∧ (∀ x off, p = some ⟨x, off, none⟩ → 0 < e'.bs.length → wr.heap.size ≤ x) := by
      obtain ⟨-, a1, c1', hv1, sg1, -, hc1, -⟩ := own_seg o3 (M := 255) (by decide) hbb
      injection hv1 with x1 x2 x3
      subst x1
      refine ⟨sg1, fun x off e hp => ?_⟩
      exact (o3.lt x (by rw [e]; rfl)).1
    have kw3 : Kp (fun k => pb ≤ k) wr w3 := k3.mono (fun q _ x => by have x : q = pb := x; show pb ≤ q; omega)
    have L3 : Le19 (pb + 1) vO L w3 := HI.out.le.kp k3 (fun q x => by have x : q = pb := x; omega)
    have hszr := HI.out.sz
    obtain ⟨w4, hw4⟩ : ∃ w4, w4 = w3.alloc (.cells #[.int .i64 0, .int .i64 0, .int .i64 0, .int .u32 0, .int .u32 0, .int .i64 0, .int .i64 0, .int .i64 0, .int .i64 0, .int .i64 0, .int .i64 0, .int .i64 0, .int .i64 0, .int .i64 0, .int .i64 0, .slice none 0 0] 39) := ⟨_, rfl⟩
    have k4 := cb16 w3 #[.int .i64 0, .int .i64 0, .int .i64 0, .int .u32 0, .int .u32 0, .int .i64 0, .int .i64 0, .int .i64 0, .int .i64 0, .int .i64 0, .int .i64 0, .int .i64 0, .int .i64 0, .int .i64 0, .int .i64 0, .slice none 0 0] 39
    rw [← hw4] at k4
    obtain ⟨b6, hb6⟩ : ∃ b6, b6 = w3.heap.size := ⟨_, rfl⟩
    have q4 := k4.cl
    rw [← hb6] at q4
    have s3 := k3.size
    obtain ⟨w5, hw5⟩ : ∃ w5, w5 = w4.setRow b6 (e'.cs p c) := ⟨_, rfl⟩
    have q5 : w5.heap[b6]? = some (.cells (e'.cs p c) 39 (0, 0)) := by rw [hw5]; exact setRow_heap _ _ _ _ _ _ q4
    have kg : Kp (fun k => k = b6) w4 w5 := by rw [hw5]; exact grow19 _ _ _
    have k35 : Kp (fun k => w3.heap.size ≤ k) w3 w5 := (Kp.of_below (S := fun k => w3.heap.size ≤ k) k4.bl).trans kg (fun q _ x => by have x : q = b6 := x; show w3.heap.size ≤ q; omega)
    have b35 : Below w3.heap.size w3 w5 := k35.below (fun _ x => x) (Nat.le_refl _)
    have L5 := L3.old b35
    have S5 := SGP.1.old b35
    have q35 : St19 w5 pb 60 (tk19 s' (s.tk + kk)) := St19.old (s := tk19 s' (s.tk + kk)) q3 b35
    have kw5 : Kp (fun k => pb ≤ k) wr w5 := kw3.trans (Kp.of_below (S := fun _ => False) b35) (fun _ _ x => x.elim)
    have HW4 : Hid (w3.alloc (.cells #[.int .i64 0, .int .i64 0, .int .i64 0, .int .u32 0, .int .u32 0, .int .i64 0, .int .i64 0, .int .i64 0, .int .i64 0, .int .i64 0, .int .i64 0, .int .i64 0, .int .i64 0, .int .i64 0, .int .i64 0, .slice none 0 0] 39) = w4 ∧ w3.heap.size = b6 ∧ w4.setRow b6 (e'.cs p c) = w5) := ⟨hw4.symm, hb6.symm, hw5.symm⟩
    have HQ4 := hidm19 q4
    have HQ5 := hidm19 q5
    have c0 : w5.cell? ⟨b6, 0, none⟩ = some (.int .i64 e'.kd) := cell18 q5 rfl
    have hdl : ∀ x : Nat, (zr.drop x).length = zr.length - x := fun x => by simp
    by_cases hk0 : e'.kd = 0
    · have hE : e' = e019 := by
        rcases HRU.out.ac with x | ⟨x, _⟩ | ⟨_, x, _⟩
        · exact x
        · exact absurd hk0 x
        · have x : e'.kd = 3 := x
          rw [hk0] at x; cases x
      have HN := hidm19 (HI.out.go (0, kk, s', e') HRU.out (L' := L) (vO' := vO) (by show _ = psh19 _ e'; rw [hE, psh19_none]) q35 L5 kw5)
      rw [hk0] at c0
      clear hw4 k4 hb6 q4 hw5 q5 kg k35 b35 L5 S5 q35 kw5 kw3 L3 SGP s3 q3 o3 k3 SN HI HRU hbb hE
      go_wp2_with (first
        | (rw [HW4.out.1, HW4.out.2.1]; refine wpList_store_row rfl 39 (.tmp 6) (.tmp 23) rfl b6 (e'.cs p c) rfl rfl _ _ HQ4.out info_ev19 rfl (evc_all19 e' p c) ?_; rw [HW4.out.2.2]))
      exact ⟨⟨_, L, zr.drop kk, _, _, vO, by rw [hdl]; rfl, rfl, HN.out⟩, by show zr.length - kk < zr.length; have := HMV.out; omega⟩
    · have hLn : L.length + 1 ≤ 1000000000 := by have := HI.out.cb.few HI.out.g; simpa using this
      have hpp : ∀ x off, p = some ⟨x, off, none⟩ → 0 < e'.bs.length → pb + 1 ≤ x ∧ vO.ownBlock ≠ some x := fun x off e hp => by
        have h1 := SGP.2 x off e hp
        refine ⟨by omega, fun y => ?_⟩
        have := (HI.out.le.own.lt x y).2
        omega
      obtain ⟨g, rc, w7, hr7, L7, k7⟩ := L5.push e' p c hLn (by have := b35.size; omega) S5 hpp
      have kw7 : Kp (fun k => pb ≤ k) wr w7 := kw5.trans k7 (fun q _ x => by have x : pb + 1 ≤ q := x; show pb ≤ q; omega)
      have q7 : St19 w7 pb 60 (tk19 s' (s.tk + kk)) := q35.kp k7 (fun x => by have x : pb + 1 ≤ pb := x; omega)
      have hL7 : (L ++ [(e', p, c)]).map (·.1) = psh19 (L.map (·.1)) e' := by
        rw [psh19_new hk0, List.map_append]
        · rfl
        · rintro ⟨h3, y, y1, y2, y3⟩
          rcases HRU.out.ac with x | ⟨_, x⟩ | ⟨n6, _, st⟩
          · have x : e' = e019 := x
            rw [x] at hk0; exact hk0 rfl
          · exact x h3
          · exact HNP.out n6 ⟨y, y1, y2, y3.trans st⟩
      have HN := hidm19 (HI.out.go (0, kk, s', e') HRU.out (L' := L ++ [(e', p, c)]) (vO' := .slice (some ⟨g, 0, none⟩) (L.length + 1) rc) hL7 q7 L7 kw7)
      obtain ⟨w6, hw6⟩ : ∃ w6, w6 = w5.alloc (.cells (e'.cs p c) 39) := ⟨_, rfl⟩
      have HW6 : Hid (w5.alloc (.cells (e'.cs p c) 39) = w6) := hw6.symm
      rw [← hw6] at hr7
      have HR7 := hidm19 hr7
      obtain ⟨i0, hi, hz0, hz1, hz2⟩ := info_parts info_ev20
      have HIE : Hid (Tryz.prog.info? 39 = some i0 ∧ i0.zero = some (.agg #[.int .i64 0, .int .i64 0, .int .i64 0, .int .u32 0, .int .u32 0, .int .i64 0, .int .i64 0, .int .i64 0, .int .i64 0, .int .i64 0, .int .i64 0, .int .i64 0, .int .i64 0, .int .i64 0, .int .i64 0, .slice none 0 0]) ∧ i0.size = 16) := ⟨hi, hz0, hz1⟩
      clear hi hz0 hz1 hz2
      clear hw4 k4 hb6 q4 hw5 q5 kg k35 b35 L5 S5 q35 kw5 kw3 L3 SGP s3 q3 o3 k3 SN HI HRU hbb hLn hpp hr7 L7 k7 kw7 q7 hL7 hw6
      go_wp2_with (first
        | (rw [HW4.out.1, HW4.out.2.1]; refine wpList_store_row rfl 39 (.tmp 6) (.tmp 23) rfl b6 (e'.cs p c) rfl rfl _ _ HQ4.out info_ev19 rfl (evc_all19 e' p c) ?_; rw [HW4.out.2.2])
        | (refine wpList_load_row rfl 39 (.tmp 6) rfl b6 rfl _ _ _ _ HQ5.out Tryz.underlying39 rfl info_ev19 ?_)
        | (refine wpList_buildSlice rfl 24 39 1 _ rfl (e'.cs p c) i0 _ Tryz.underlying24 HIE.out.1 HIE.out.2.1 (by rw [HIE.out.2.2]; decide) (by rw [HIE.out.2.2]; decide) (by first | exact fill19 e' p c i0 HIE.out.2.2 | (simp only [List.map_toArray, List.map_cons, List.map_nil, List.toList_toArray]; exact fill19 e' p c i0 HIE.out.2.2) | (refine Eq.trans (congrArg _ ?_) (fill19 e' p c i0 HIE.out.2.2); first | rfl | kernel_rfl)) ?_; rw [HW6.out])
        | (refine wpList_app19 rfl (.tmp 32) (.tmp 34) 24 rfl rfl rfl HR7.out ?_))

      exact ⟨⟨_, L ++ [(e', p, c)], zr.drop kk, _, _, _, by rw [hdl]; rfl, rfl, HN.out⟩, by show zr.length - kk < zr.length; have := HMV.out; omega⟩
end Go.Proofs.YtpodakndckflgaaGreatDoor

namespace Go.Proofs.YtpodakndckflgaaGreatDoor
open Go.RowKit Go.Shelf
set_option linter.unusedVariables false
set_option linter.unusedSimpArgs false
theorem appg19 (V : World) {base : Nat} {v : Value} {n : Nat} {xs : List Value} (p : Option Addr) (c : Nat) (ys : List Int) (hown : V.ownsRow base 5 1 v n xs) (hs : Seg V p ys) (hm : 0 < ys.length) (hn : n + ys.length ≤ 140737488355328) (hbase : base ≤ V.heap.size) :
    ∃ g rc w', (Builtin.append_ #[22, 22] 22 #[v, .slice p ys.length c]).run Tryz.prog V = .ok (.slice (some ⟨g, 0, none⟩) (n + ys.length) rc) w' ∧
      w'.ownsRow base 5 1 (.slice (some ⟨g, 0, none⟩) (n + ys.length) rc) (n + ys.length) (xs ++ ys.map (Value.int .u8)) ∧ Kp (fun k => v.ownBlock = some k) V w' := by
  obtain ⟨i0, hi, hz0, hz1, hz2⟩ := info_parts info_u8g
  obtain ⟨b, off, rfl, _⟩ := hs.at_ 0 hm
  obtain ⟨g, rc, w', hr, h1, h2, h3, h4⟩ := run_append_lies (P := Tryz.prog) V 22 22 base 5 i0 _ 1 1 Tryz.underlying22 hi hz0 hz1 hz2 rfl (by omega) v n xs hown ⟨b, off, none⟩ ys.length c (ys.map (Value.int .u8)) (by simp)
    (fun j u hu => by
      have hj : j < ys.length := by have := (List.getElem?_eq_some_iff.1 hu).1; simpa using this
      obtain ⟨b', off', e, hc⟩ := hs.at_ j hj
      have e' : (⟨b, off, none⟩ : Addr) = ⟨b', off', none⟩ := Option.some.inj e
      cases e'
      have hu' : u = .int .u8 (ys.getD j 0) := by
        rw [List.getElem?_map, List.getElem?_eq_getElem hj] at hu
        simp [List.getD, hj]
        simpa using hu.symm
      rw [hu', ← hc]
      first | rfl | (unfold Addr.add; split <;> simp_all))
    (by intro u hu; obtain ⟨x, _, rfl⟩ := List.mem_map.1 hu; rfl) hm (by unfold maxLen; omega) (by omega) hbase _ rfl
  exact ⟨g, rc, w', hr, h1, Kp.grown (S := fun k => v.ownBlock = some k) h2 (fun i e => e)⟩
theorem cs_bs19 (y : E19) (p : Option Addr) (c : Nat) (B : List Int) (p' : Option Addr) (c' : Nat) : (({ y with bs := B } : E19).cs p' c').toList = (y.cs p c).toList.set 15 (.slice p' B.length c') := rfl
/-- The last event has other bytes. -/
theorem Le19.upd {base : Nat} {g cap : Nat} {M : List X19} {y : E19} {p : Option Addr} {c : Nat} {w : World} (h : Le19 base (.slice (some ⟨g, 0, none⟩) (M ++ [(y, p, c)]).length cap) (M ++ [(y, p, c)]) w) (B : List Int) (p' : Option Addr) (c' : Nat) (hs : Seg w p' B) (hp : ∀ b off, p' = some ⟨b, off, none⟩ → 0 < B.length → base ≤ b ∧ b ≠ g) :
    Le19 base (.slice (some ⟨g, 0, none⟩) (M ++ [(y, p, c)]).length cap) (M ++ [({ y with bs := B }, p', c')]) (w.setCell ⟨g, M.length * 16 + 15, none⟩ (.slice p' B.length c')) := by
  have hk : Kp (fun k => k = g) w (w.setCell ⟨g, M.length * 16 + 15, none⟩ (.slice p' B.length c')) := Kp.set (S := fun k => k = g) rfl _
  have hfe : ∀ N : List X19, (fe19 N).length = N.length * 16 := by
    intro N
    induction N with
    | nil => rfl
    | cons n N ih =>
      show ((n.1.cs n.2.1 n.2.2).toList ++ fe19 N).length = _
      rw [List.length_append, ih]
      show 16 + N.length * 16 = (N.length + 1) * 16
      omega
  refine ⟨?_, ?_, ?_⟩
  · have ho := h.own
    rw [show (M ++ [(({ y with bs := B } : E19), p', c')] : List X19).length = (M ++ [(y, p, c)]).length by simp]
    obtain ⟨hl, h2 | ⟨g', cap', cur, hv, hb, hh, hn, hx, hsz, hcur⟩⟩ := ho
    · simp at h2
    · injection hv with e1 e2 e3
      injection e1 with e1
      injection e1 with e1
      subst e1 e3
      have hidx : M.length * 16 + 15 < cur.size := by
        rw [hsz]
        have : (M ++ [(y, p, c)]).length = M.length + 1 := by simp
        omega
      have e0 : fe19 (M ++ [({ y with bs := B }, p', c')]) = (fe19 (M ++ [(y, p, c)])).set (M.length * 16 + 15) (.slice p' B.length c') := by
        have a1 : fe19 (M ++ [({ y with bs := B }, p', c')]) = fe19 M ++ (({ y with bs := B } : E19).cs p' c').toList := by simp [fe19]
        have a2 : fe19 (M ++ [(y, p, c)]) = fe19 M ++ (y.cs p c).toList := by simp [fe19]
        rw [a1, a2, cs_bs19 y p c B p' c', List.set_append_right _ _ (by rw [hfe]; omega), hfe, show M.length * 16 + 15 - M.length * 16 = 15 by omega]
      refine ⟨by rw [e0, List.length_set]; exact hl, .inr ⟨g, cap, cur.setIfInBounds (M.length * 16 + 15) (.slice p' B.length c'), rfl, hb, ?_, hn, hx, by rw [Array.size_setIfInBounds]; exact hsz, ?_⟩⟩
      · simp [World.setCell, Array.getElem?_modify, hh]
      · rw [e0, ← hcur, Array.toList_setIfInBounds, List.take_set]
  · intro x hx
    rcases List.mem_append.1 hx with hx | hx
    · exact (h.seg x (List.mem_append_left _ hx)).kp hk (fun b off e hp' z => (h.ap x (List.mem_append_left _ hx) b off e hp').2 (by have z : b = g := z; rw [z]; rfl))
    · obtain rfl := List.mem_singleton.1 hx
      exact hs.kp hk (fun b off e hp' z => (hp b off e hp').2 z)
  · intro x hx b off e hp'
    rcases List.mem_append.1 hx with hx | hx
    · exact h.ap x (List.mem_append_left _ hx) b off e hp'
    · obtain rfl := List.mem_singleton.1 hx
      obtain ⟨a1, a2⟩ := hp b off e hp'
      exact ⟨a1, fun z => a2 (by have z : some g = some b := z; injection z with z; exact z.symm)⟩
/-- Bytes that are told are some. -/
theorem run_some19 : ∀ (z : List Int) (s : R19) (e : E19) (k : Nat), (∀ v ∈ z, 0 ≤ v ∧ v ≤ 255) → G19 s → (e.kd = 3 → e.bs ≠ []) → (run19 dg19 s e k z).1 = 0 → (run19 dg19 s e k z).2.2.2.kd = 3 → (run19 dg19 s e k z).2.2.2.bs ≠ []
  | [], s, e, k, hz, hG, ha, h0 => fun h3 => ha h3
  | v :: r, s, e, k, hz, hG, ha, h0 => by
    by_cases h8 : s.nx = 8
    · rw [run19_over h8]; exact ha
    by_cases he : (dg19 (am19 s v) e v).2.1 = 0
    · rw [run19_wh h8 he] at h0 ⊢
      have hv := hz v (List.mem_cons_self ..)
      have hn : (dg19 (am19 s v) e v).2.2.2.kd = 3 → (dg19 (am19 s v) e v).2.2.2.bs ≠ [] := by
        by_cases h6 : s.nx = 6
        · rw [(dg19_in e v (hG.am v) h6).1]
          intro _
          simp
        · rcases dg19_out e v (hG.am v) h6 h8 he with ⟨_, hE, _⟩ | ⟨_, _, _, k3, _, _⟩
          · rw [hE]; exact ha
          · exact fun x => absurd x k3
      by_cases hw : (dg19 (am19 s v) e v).1 = true
      · rw [if_pos hw]; exact hn
      · rw [if_neg hw] at h0 ⊢
        exact run_some19 r _ _ (k + 1) (fun x hx => hz x (List.mem_cons_of_mem _ hx)) (g19_any (hG.am v) hv h8 he) hn h0
    · rw [run19_err h8 he] at h0
      exact absurd h0 he
end Go.Proofs.YtpodakndckflgaaGreatDoor

namespace Go.Proofs.YtpodakndckflgaaGreatDoor
open Go.RowKit Go.Shelf
set_option linter.unusedVariables false
set_option linter.unusedSimpArgs false
structure Pi19 (w : World) (B0 pb : Nat) (z : List Int) (vW : Value) (LW : List X19) (s : R19) (L : List X19) (a : Nat) (code : Int) (vL : Value) (V : World) : Prop where
  st : St19 V pb 60 s
  le : Le19 (pb + 1) vL L V
  lw : Le19 B0 vW LW V
  at_ : a ≤ z.length
  g : G19 s
  cb : CB19 s (L.map (·.1))
  ne : ∀ x ∈ L, x.1.kd = 3 → x.1.bs ≠ []
  wr : s.wr = code
  tk : 0 ≤ s.tk ∧ s.tk ≤ a
  ok : code = 0 → ful19 s (L.map (·.1)) (z.drop a) = ful19 (s019 1) [] z
  no : code ≠ 0 → (ful19 (s019 1) [] z).1 = code
  bl : Below pb w V
  sz : pb < V.heap.size
/-- What comes of a piece. -/
theorem Pi19.run {w : World} {B0 pb : Nat} {z : List Int} {vW : Value} {LW : List X19} {s : R19} {L : List X19} {a : Nat} {vL : Value} {V : World} (h : Pi19 w B0 pb z vW LW s L a 0 vL V) (hz : ∀ v ∈ z, 0 ≤ v ∧ v ≤ 255) (n : Nat) :
    ((run19 dg19 s e019 0 ((z.drop a).take n)).1 ≠ 0 → (ful19 (s019 1) [] z).1 = (run19 dg19 s e019 0 ((z.drop a).take n)).1) ∧
    ((run19 dg19 s e019 0 ((z.drop a).take n)).1 = 0 → Ru19 s e019 0 (L.map (·.1)) ((z.drop a).take n) (z.drop (a + n)) (run19 dg19 s e019 0 ((z.drop a).take n))) := by
  have hzp : ∀ v ∈ (z.drop a).take n, 0 ≤ v ∧ v ≤ 255 := fun v hv => hz v (List.mem_of_mem_drop (List.mem_of_mem_take hv))
  have R := run_inv19 ((z.drop a).take n) s e019 0 (L.map (·.1)) (z.drop (a + n)) hzp (fun v hv => by cases (show v ∈ ([] : List Int) from hv)) h.g (.inl rfl) (by rw [psh19_none]; exact h.cb)
  refine ⟨fun h0 => ?_, R.2⟩
  have := R.1 h0
  rw [psh19_none, ← List.drop_drop, List.take_append_drop, h.ok rfl] at this
  exact this
/-- A piece that was right. -/
theorem Pi19.go {w : World} {B0 pb : Nat} {z : List Int} {vW : Value} {LW : List X19} {s : R19} {L L' : List X19} {a : Nat} {vL vL' : Value} {V V' : World} (h : Pi19 w B0 pb z vW LW s L a 0 vL V) (n : Nat) (hn : n ≤ z.length - a)
    (r : Int × Nat × R19 × E19) (hr : Ru19 s e019 0 (L.map (·.1)) ((z.drop a).take n) (z.drop (a + n)) r) (hL : L'.map (·.1) = psh19 (L.map (·.1)) r.2.2.2) (hne : ∀ x ∈ L', x.1.kd = 3 → x.1.bs ≠ [])
    (hst : St19 V' pb 60 (tk19 r.2.2.1 (s.tk + r.2.1))) (hle : Le19 (pb + 1) vL' L' V') (hlw : Le19 B0 vW LW V') (hk : Kp (fun k => pb ≤ k) V V') :
    Pi19 w B0 pb z vW LW (tk19 r.2.2.1 (s.tk + r.2.1)) L' (a + r.2.1) 0 vL' V' := by
  have hlen : ((z.drop a).take n).length = n := by simp; omega
  have k1 : r.2.1 ≤ n := by have := hr.k1; omega
  have ha := h.at_
  refine ⟨hst, hle, hlw, by omega, hr.g.tkk _, ?_, hne, ?_, ?_, fun _ => ?_, fun x => absurd rfl x, ?_, ?_⟩
  · rw [hL]; exact hr.cb.tkk _
  · exact hr.wr.trans h.wr
  · have := h.tk
    show 0 ≤ s.tk + (r.2.1 : Int) ∧ s.tk + (r.2.1 : Int) ≤ ((a + r.2.1 : Nat) : Int)
    omega
  · rw [ful_tk19, hL]
    have hf := hr.fu
    rw [psh19_none, Nat.sub_zero] at hf
    have e1 : (z.drop a).take n ++ z.drop (a + n) = z.drop a := by rw [← List.drop_drop, List.take_append_drop]
    have e2 : ((z.drop a).take n).drop r.2.1 ++ z.drop (a + n) = z.drop (a + r.2.1) := by
      have e3 : ((z.drop a).take n ++ z.drop (a + n)).drop r.2.1 = ((z.drop a).take n).drop r.2.1 ++ z.drop (a + n) := List.drop_append_of_le_length (by omega)
      rw [← e3, e1, List.drop_drop]
    rw [e1, e2] at hf
    rw [← hf]
    exact h.ok rfl
  · exact h.bl.trans (hk.below (fun _ x => x) (Nat.le_of_lt h.sz))
  · have := h.sz; have := hk.size; omega
/-- A piece with a wrong byte. -/
theorem Pi19.err {w : World} {B0 pb : Nat} {z : List Int} {vW : Value} {LW : List X19} {s : R19} {L : List X19} {a : Nat} {vL : Value} {V V' : World} (h : Pi19 w B0 pb z vW LW s L a 0 vL V) (er : Int) (he : er ≠ 0) (hf : (ful19 (s019 1) [] z).1 = er)
    (hst : St19 V' pb 60 { s with wr := er }) (hle : Le19 (pb + 1) vL L V') (hlw : Le19 B0 vW LW V') (hk : Kp (fun k => pb ≤ k) V V') : Pi19 w B0 pb z vW LW { s with wr := er } L a er vL V' :=
  ⟨hst, hle, hlw, h.at_, ⟨h.g.nx, h.g.tk, h.g.t0, h.g.cn, h.g.im, h.g.ok, h.g.wn, h.g.st, h.g.lf⟩, ⟨h.cb.a, h.cb.b, h.cb.c, h.cb.d, h.cb.e⟩, h.ne, rfl, h.tk, fun x => absurd x he, fun _ => hf, h.bl.trans (hk.below (fun _ x => x) (Nat.le_of_lt h.sz)), by have := h.sz; have := hk.size; omega⟩
/-- The piece's bytes in memory. -/
theorem seg_pc19 {V : World} {za : Option Addr} {z : List Int} {zc a n : Nat} (hs : Seg V za z) (ha : a ≤ z.length) (hc : z.length ≤ zc) (hn : n ≤ z.length - a) : Seg V (rs16 za zc a) ((z.drop a).take n) ∧ ((z.drop a).take n).length = n ∧ ∀ x off, rs16 za zc a = some ⟨x, off, none⟩ → 0 < ((z.drop a).take n).length → ∃ o, za = some ⟨x, o, none⟩ := by
  obtain ⟨sg, sa⟩ := seg_rs16 (c := zc) (d := a) hs ha hc
  refine ⟨sg.take n, by simp; omega, fun x off e hp => sa x off e ?_⟩
  rw [List.length_take] at hp
  omega
end Go.Proofs.YtpodakndckflgaaGreatDoor

namespace Go.Proofs.YtpodakndckflgaaGreatDoor
open Go.RowKit
set_option linter.unusedVariables false
/-- Whole numbers (of 64 bits, with a sign) lie where a slice's address leads. -/
structure SegZ (w : World) (a : Option Addr) (zs : List Int) : Prop where
  at_ : ∀ i, i < zs.length → ∃ b off, a = some ⟨b, off, none⟩ ∧ w.cell? ⟨b, off + i, none⟩ = some (.int .i64 (zs.getD i 0))
  bd : ∀ i, -9223372036854775808 ≤ zs.getD i 0 ∧ zs.getD i 0 ≤ 9223372036854775807

theorem getD_bdz {zs : List Int} (h : ∀ z ∈ zs, -9223372036854775808 ≤ z ∧ z ≤ 9223372036854775807) (i : Nat) : -9223372036854775808 ≤ zs.getD i 0 ∧ zs.getD i 0 ≤ 9223372036854775807 := by
  by_cases hi : i < zs.length
  · have := h zs[i] (List.getElem_mem hi)
    simpa [List.getD, hi] using this
  · have : zs[i]? = none := List.getElem?_eq_none (by omega)
    simp [List.getD, this]
theorem SegZ.nil (w : World) (a : Option Addr) : SegZ w a [] := ⟨fun i h => by simp at h, fun i => by simp⟩
theorem SegZ.of_cells {w w' : World} {a : Option Addr} {zs : List Int} (h : SegZ w a zs) (hc : ∀ b off i v, i < zs.length → a = some ⟨b, off, none⟩ → w.cell? ⟨b, off + i, none⟩ = some v → w'.cell? ⟨b, off + i, none⟩ = some v) : SegZ w' a zs :=
  ⟨fun i hi => by obtain ⟨b, off, ha, hcl⟩ := h.at_ i hi; exact ⟨b, off, ha, hc b off i _ hi ha hcl⟩, h.bd⟩
theorem SegZ.old {w w' : World} {a : Option Addr} {zs : List Int} (h : SegZ w a zs) (hb : Below w.heap.size w w') : SegZ w' a zs :=
  h.of_cells fun b off i v hi ha hcl => (hb.cell (p := ⟨b, off + i, none⟩) (World.block_lt_of_cell? w _ hcl)).trans hcl
theorem SegZ.kp {w w' : World} {S : Nat → Prop} {a : Option Addr} {zs : List Int} (h : SegZ w a zs) (hb : Kp S w w') (hn : ∀ b off, a = some ⟨b, off, none⟩ → 0 < zs.length → ¬ S b) : SegZ w' a zs :=
  h.of_cells fun b off i v hi ha hcl => by
    have hlt : b < w.heap.size := World.block_lt_of_cell? w _ hcl
    rw [World.cell?_of_block (a := ⟨b, off + i, none⟩) (hb.block b hlt (hn b off ha (by omega)))]
    exact hcl
theorem SegZ.lt {w : World} {a : Option Addr} {zs : List Int} (h : SegZ w a zs) : ∀ b off, a = some ⟨b, off, none⟩ → 0 < zs.length → b < w.heap.size := by
  intro b off ha hl
  obtain ⟨b', off', ha', hc⟩ := h.at_ 0 hl
  rw [ha] at ha'
  cases ha'
  exact World.block_lt_of_cell? w _ hc
theorem SegZ.drewN {w : World} {a : Option Addr} {zs : List Int} (h : SegZ w a zs) (n : Nat) : SegZ (w.drewN n) a zs := ⟨h.at_, h.bd⟩
theorem SegZ.drew {w : World} {a : Option Addr} {zs : List Int} (h : SegZ w a zs) : SegZ w.drew a zs := ⟨h.at_, h.bd⟩
theorem SegZ.alloc {w : World} {a : Option Addr} {zs : List Int} (h : SegZ w a zs) (o : Obj) : SegZ (w.alloc o) a zs := h.old ((Below.refl _ _).alloc (Nat.le_refl _) o)
theorem SegZ.mem {w : World} {a : Option Addr} {zs : List Int} (h : SegZ w a zs) : ∀ z ∈ zs, -9223372036854775808 ≤ z ∧ z ≤ 9223372036854775807 := by
  intro z hz
  obtain ⟨i, hi, rfl⟩ := List.mem_iff_getElem.1 hz
  have := h.bd i
  simpa [List.getD, hi] using this
theorem SegZ.take {w : World} {a : Option Addr} {zs : List Int} (h : SegZ w a zs) (m : Nat) : SegZ w a (zs.take m) := by
  refine ⟨fun i hi => ?_, getD_bdz fun z hz => h.mem z (List.mem_of_mem_take hz)⟩
  simp at hi
  obtain ⟨b, off, ha, hc⟩ := h.at_ i (by omega)
  refine ⟨b, off, ha, ?_⟩
  rw [hc]
  have hk : i < m := by omega
  simp [List.getD, hk]
theorem SegZ.left {w : World} {a : Option Addr} {xs ys : List Int} (h : SegZ w a (xs ++ ys)) : SegZ w a xs := by
  have := h.take xs.length
  simpa using this
end Go.Proofs.YtpodakndckflgaaGreatDoor
