import Derived.Test.YtpodakndckflgaaGreatDoorPt
import Derived.Test.YtpodakndckflgaaGreatDoorPu
import Derived.Deep.CutRange
namespace Go.Proofs.YtpodakndckflgaaGreatDoor
open Go.RowKit Go.Shelf
set_option linter.unusedVariables false
set_option linter.unusedSimpArgs false
theorem alq19 {w w' : World} {z : List Int} {e : Ending} (h : AlQ19 w z e w') : ∃ vW LW, e = .returned (.tuple #[vW, .int .i64 (al19 z).1]) ∧ LW.map (·.1) = (al19 z).2 ∧ Le19 (w.heap.size + 1) vW LW w' ∧ Below w.heap.size w w' := by
  obtain ⟨b, ⟨h1, h2⟩ | ⟨h1, vO, L, h2, h3, h4⟩⟩ := h
  · refine ⟨.slice none 0 0, [], h2, ?_, Le19.nil _ _, b⟩
    have : (al19 z).2 = [] := by
      unfold al19 at h1 ⊢
      split
      · rfl
      · rename_i x
        split
        · rfl
        · rename_i y
          split
          · rfl
          · rename_i u
            rw [if_neg x, if_neg y, if_neg u] at h1
            exact absurd rfl h1
    rw [this]; rfl
  · exact ⟨vO, L, by rw [h2, h1], h3, h4, b⟩
theorem run_len19 : ∀ (z : List Int) (s : R19) (e : E19) (k : Nat), (∀ v ∈ z, 0 ≤ v ∧ v ≤ 255) → G19 s → (run19 dg19 s e k z).1 = 0 → (run19 dg19 s e k z).2.2.2.bs.length + k ≤ e.bs.length + (run19 dg19 s e k z).2.1
  | [], s, e, k, hz, hG, h0 => Nat.le_refl _
  | v :: r, s, e, k, hz, hG, h0 => by
    by_cases h8 : s.nx = 8
    · rw [run19_over h8]; exact Nat.le_refl _
    by_cases he : (dg19 (am19 s v) e v).2.1 = 0
    · rw [run19_wh h8 he] at h0 ⊢
      have hv := hz v (List.mem_cons_self ..)
      have hbl := dg19_bs (s := am19 s v) (e := e) (v := v) hG.nx
      by_cases hw : (dg19 (am19 s v) e v).1 = true
      · rw [if_pos hw]
        show (dg19 (am19 s v) e v).2.2.2.bs.length + k ≤ e.bs.length + (k + 1)
        omega
      · rw [if_neg hw] at h0 ⊢
        have := run_len19 r _ _ (k + 1) (fun x hx => hz x (List.mem_cons_of_mem _ hx)) (g19_any (hG.am v) hv h8 he) h0
        omega
    · rw [run19_err h8 he] at h0
      exact absurd h0 he
theorem wp_bs0 {P : Program} {o : Oper} {a : Act} {w : World} {K : Act → World → Prop} {Q : Exit → Act → World → Prop} (t e : TypeId) (ho : o.op = .buildSlice t 0 #[]) (ie : TypeInfo)
    (hu : P.underlying t = some (.slice e)) (hie : P.info? e = some ie) (h : K (a.put o.dst (.slice (some ⟨w.heap.size, 0, none⟩) 0 0)) (w.alloc (.cells #[] e))) : o.wp P a w K Q := by
  have hr : (Instr.buildSlice t 0 #[]).run P w = .ok (.slice (some ⟨w.heap.size, 0, none⟩) 0 0) (w.alloc (.cells #[] e)) := by
    have r0 : Array.range 0 = #[] := by first | rfl | simp | decide
    simp [Instr.buildSlice, run_underlying hu, sizeOf, typeInfo, hie, Instr.fill, newRow, r0]
  have e0 : Array.map (fun x : Nat × Operand => (x.1, a.eval x.2)) #[] = #[] := by simp
  unfold Oper.wp execOp
  simp only [ho, Sem.run_bind, e0, hr, Result.andThen_ok]
  exact h
theorem Pi19.dr {w : World} {B0 pb : Nat} {z : List Int} {vW : Value} {LW : List X19} {s : R19} {L : List X19} {a : Nat} {code : Int} {vL : Value} {V : World} (h : Pi19 w B0 pb z vW LW s L a code vL V) (n : Nat) : Pi19 w B0 pb z vW LW s L a code vL (V.drewN n) :=
  have b : Below V.heap.size V (V.drewN n) := below_drewN16 (Below.refl _ _) n
  ⟨h.st, h.le.old b, h.lw.old b, h.at_, h.g, h.cb, h.ne, h.wr, h.tk, h.ok, h.no, below_drewN16 h.bl n, h.sz⟩
set_option maxRecDepth 100000 in
set_option maxHeartbeats 40000000 in
theorem parsePieces_walk (w : World) (ht : Tab w) (za : Option Addr) (z : List Int) (zc : Nat) (hz : Seg w za z) (hc : z.length ≤ zc) (hl : z.length ≤ 140737488351232) (sa : Option Addr) (zs : List Int) (sc : Nat) (hs : SegZ w sa zs) (hsl : zs.length ≤ 140737488351232) :
    Calls Tryz.prog 3 #[.slice za z.length zc, .slice sa zs.length sc] w fun e w' => e = .returned (.bool true) ∧ Below w.heap.size w w' := by
  have h0 : 0 < w.heap.size := SegK.lt ht 0 0 rfl (by decide)
  have AL := pall19 za zc z w ht hz hc hl
  have HZ : Hid (∀ V, Below w.heap.size w V → Tab V ∧ Seg V za z ∧ SegZ V sa zs) := fun V hV => ⟨ht.old hV, hz.old hV, hs.old hV⟩
  have HL : Hid (z.length ≤ zc ∧ z.length ≤ 140737488351232 ∧ zs.length ≤ 140737488351232 ∧ 0 < w.heap.size) := ⟨hc, hl, hsl, h0⟩
  have HLT : Hid (∀ x off, za = some ⟨x, off, none⟩ → 0 < z.length → x < w.heap.size) := fun x off e hp => hz.lt x off e hp
  have HZB : Hid (∀ v ∈ z, 0 ≤ v ∧ v ≤ 255) := hz.mem
  clear ht hz hc hl hs hsl h0
  go_enter Tryz.func3, Tryz.ntmps3
  go_wp2_with fail
  refine AL.mono ?_
  intro e1 w1 hQ
  obtain ⟨vW, LW, rfl, hLW, leW, b1⟩ := alq19 hQ
  have HB1 := hidm19 b1
  have HLW : Hid (LW.map (·.1) = (al19 z).2 ∧ Le19 (w.heap.size + 1) vW LW w1) := ⟨hLW, leW⟩
  have NW := pnew19 w1
  obtain ⟨pb, hpb⟩ : ∃ pb, pb = w1.heap.size := ⟨_, rfl⟩
  rw [← hpb] at NW
  have HPB : Hid (w1.heap.size = pb ∧ w.heap.size ≤ pb) := ⟨hpb.symm, by have := b1.size; omega⟩
  generalize hE : (al19 z).1 = er at *
  have HE : Hid ((al19 z).1 = er) := hE
  obtain ⟨pw, cw, hvw⟩ := leW.sl
  subst hvw
  clear AL hQ hLW leW b1 hpb hE
  go_wp2_with fail
  refine NW.mono ?_
  rintro e2 w2 ⟨rfl, q2, b2⟩
  have H2 : Hid (St19 w2 pb 60 (s019 1) ∧ Below pb w1 w2) := ⟨q2, b2⟩
  clear NW q2 b2
  go_wp2_with fail
  have HP0 : Hid (Pi19 w1 (w.heap.size + 1) pb z (.slice pw LW.length cw) LW (s019 1) [] 0 0 (.slice none 0 0) w2) := by
    have b2 := H2.out.2
    have b2' : Below w1.heap.size w1 w2 := by rw [HPB.out.1]; exact b2
    exact ⟨H2.out.1, Le19.nil _ _, HLW.out.2.old b2', Nat.zero_le _, g19_new, cb19_new, (fun x hx => by cases hx), rfl, ⟨by decide, by show (0 : Int) ≤ 0; decide⟩, fun _ => rfl, fun x => absurd rfl x, b2, H2.out.1.lt⟩
  go_loopw [8, 9, 10, 11] (fun t8 t9 t10 t11 V => ∃ s L a code k vL, vL = t8 ∧ t9 = .int .i64 ((a : Nat) : Int) ∧ t10 = .int .i64 code ∧ t11 = .int .i64 ((k : Nat) : Int) ∧ (code = 0 → k ≤ zs.length + a) ∧ k ≤ zs.length + a + 1 ∧ (∀ x ∈ L, x.1.bs.length ≤ a) ∧ Pi19 w1 (w.heap.size + 1) pb z (.slice pw LW.length cw) LW s L a code vL V) (fun _ _ _ t11 _ => zs.length + z.length + 2 - (intOf t11).toNat)
  case atStart => exact ⟨s019 1, [], 0, 0, 0, _, rfl, rfl, rfl, rfl, fun _ => Nat.zero_le _, Nat.zero_le _, (fun x hx => by cases hx), HP0.out⟩
  case round =>
    obtain ⟨s, L, a, code, k, vL, rfl, rfl, rfl, rfl, hk0, hk1, hlb, hI⟩ := hrel
    have HLB : Hid (∀ x ∈ L, x.1.bs.length ≤ a) := hlb
    clear hlb
    have HI := hidm19 hI
    have HK : Hid ((code = 0 → k ≤ zs.length + a) ∧ k ≤ zs.length + a + 1) := ⟨hk0, hk1⟩
    obtain ⟨pL, cL, hvL⟩ := hI.le.sl
    subst hvL
    have hnx0 : s.nx ≠ 0 := by have := hI.g.nx; omega
    have DN := pdone19 pb _ s wr hI.st hnx0
    have EN := pend19 pb _ s wr hI.st hnx0
    have BW : Below w.heap.size w wr := HB1.out.trans (hI.bl.mono (by have := HPB.out; omega))
    have HBW := hidm19 BW
    have LV := pliv19 wr (HZ.out wr BW).1 (by have := BW.size; have := HL.out; omega)
    have HLV := hidm19 LV
    have hal := HL.out
    have hat := hI.at_
    clear hk0 hk1 BW LV
    have HX : Hid (a ≤ z.length ∧ s.nx ≠ 0) := ⟨hat, hnx0⟩
    have HDN := hidm19 DN
    have HEN := hidm19 EN
    clear hI hat hnx0 DN EN
    go_upto_region 8 with fail
    go_cut [10, 38] from 26 to 149 (fun s10 s38 wc => wc = wr ∧ s10 = .int .i64 code ∧ ∃ c : Bool, s38 = .bool c ∧ (c = true → a < z.length ∧ s.nx ≠ 8 ∧ code = 0) ∧ (c = false → ¬ (a < z.length ∧ s.nx ≠ 8 ∧ code = 0)))
    case first =>
      by_cases hat1 : a < z.length
      rotate_left
      · have hatI : ¬ (a : Int) < (z.length : Int) := by omega
        have HR : Hid (¬ a < z.length) := hat1
        clear hat1
        go_wp2_with fail
        go_meet
        case rel => exact ⟨rfl, rfl, false, rfl, nofun, fun _ x => HR.out x.1⟩
      have hatI : (a : Int) < (z.length : Int) := by omega
      have HR : Hid (a < z.length) := hat1
      clear hat1
      by_cases h8 : s.nx = 8
      · have HR8 : Hid (s.nx = 8) := h8
        have DN : Calls Tryz.prog 6 #[.pointer (some ⟨pb, 0, none⟩)] wr fun e w' => e = .returned (.bool true) ∧ w' = wr := by
          have := HDN.out
          rw [show (s.nx == 8) = true by simp [h8]] at this
          exact this
        clear h8
        go_wp2_with fail
        refine DN.mono ?_
        rintro e3 w3 ⟨rfl, hw3⟩
        subst w3
        go_wp2_with fail
        go_meet
        case rel => exact ⟨rfl, rfl, false, rfl, nofun, fun _ x => x.2.1 HR8.out⟩
      have HR8 : Hid (s.nx ≠ 8) := h8
      have DN : Calls Tryz.prog 6 #[.pointer (some ⟨pb, 0, none⟩)] wr fun e w' => e = .returned (.bool false) ∧ w' = wr := by
        have := HDN.out
        rw [show (s.nx == 8) = false by simp [h8]] at this
        exact this
      clear h8
      by_cases hcd : code = 0
      · have HRC : Hid (code = 0) := hcd
        go_wp2_with fail
        refine DN.mono ?_
        rintro e3 w3 ⟨rfl, hw3⟩
        subst w3
        go_wp2_with fail
        go_meet
        case rel => exact ⟨rfl, by rw [HRC.out], true, rfl, fun _ => ⟨HR.out, HR8.out, HRC.out⟩, nofun⟩
      · have HRC : Hid (code ≠ 0) := hcd
        go_wp2_with fail
        refine DN.mono ?_
        rintro e3 w3 ⟨rfl, hw3⟩
        subst w3
        go_wp2_with fail
        go_meet
        case rel => exact ⟨rfl, rfl, false, by first | rfl | exact congrArg Value.bool (beq_eq_false_iff_ne.2 HRC.out), nofun, fun _ x => HRC.out x.2.2⟩
    case rest =>
      obtain ⟨hwc, rfl, cR, rfl, hcT, hcF⟩ := hcut
      subst wc
      cases cR with
      | false =>
        have hcf := hcF rfl
        clear hcT hcF
        obtain ⟨hat, hnx0⟩ := HX.out
        have EN := HEN.out
        clear HDN HEN HX
        by_cases hcd : code = 0
        rotate_left
        · have hno := HI.out.no hcd
          have ha : al19 z = (code, []) := by unfold al19; rw [hno, if_pos hcd]
          obtain rfl : LW = [] := List.map_eq_nil_iff.1 (HLW.out.1.trans (by rw [ha]))
          have her : er = code := by rw [← HE.out, ha]
          subst er
          clear EN hcf hat hnx0 hno ha
          go_wp2_with fail
          refine HLV.out.mono ?_
          rintro e5 w5 ⟨rfl, b5⟩
          have BF : Below w.heap.size w w5 := HBW.out.trans (b5.mono HBW.out.size)
          go_wp2_with fail
          go_ret
          exact ⟨rfl, BF⟩
        subst hcd
        by_cases h8 : s.nx = 8
        rotate_left
        · have hal2 : a = z.length := by
            by_cases x : a < z.length
            · exact absurd ⟨x, h8, rfl⟩ hcf
            · omega
          have ha : al19 z = (192, []) := by
            have hf := HI.out.ok rfl
            rw [hal2, List.drop_length] at hf
            unfold al19; rw [← hf]; show (if (0 : Int) ≠ 0 then _ else if s.nx ≠ 8 then _ else _) = _; rw [if_neg (by simp), if_pos h8]
          obtain rfl : LW = [] := List.map_eq_nil_iff.1 (HLW.out.1.trans (by rw [ha]))
          have her : er = 192 := by rw [← HE.out, ha]
          subst er
          have hatI : ¬ (a : Int) < (z.length : Int) := by omega
          have EN : Calls Tryz.prog 8 #[.pointer (some ⟨pb, 0, none⟩)] wr fun e w' => e = .returned (.int .i64 192) ∧ w' = wr := by
            rw [show en19 s = 192 by unfold en19; rw [if_neg (by simp [HI.out.wr]), if_neg h8]] at EN
            exact EN
          clear hcf hat hnx0 ha h8 hal2
          go_wp2_with fail
          refine EN.mono ?_
          rintro e4 w4 ⟨rfl, hw4⟩
          subst w4
          clear EN
          go_wp2_with fail
          refine HLV.out.mono ?_
          rintro e5 w5 ⟨rfl, b5⟩
          have BF : Below w.heap.size w w5 := HBW.out.trans (b5.mono HBW.out.size)
          go_wp2_with fail
          go_ret
          exact ⟨rfl, BF⟩
        by_cases hat1 : a < z.length
        · have ha : al19 z = (190, []) := by
            have hf := HI.out.ok rfl
            rw [ful19_over h8] at hf
            unfold al19; rw [← hf]; show (if (0 : Int) ≠ 0 then _ else if (8 : Int) ≠ 8 then _ else if z.drop a ≠ [] then _ else _) = _; rw [if_neg (by simp), if_neg (by simp), if_pos (by simp; omega)]
          obtain rfl : LW = [] := List.map_eq_nil_iff.1 (HLW.out.1.trans (by rw [ha]))
          have her : er = 190 := by rw [← HE.out, ha]
          subst er
          have hatI : (a : Int) < (z.length : Int) := by omega
          have EN : Calls Tryz.prog 8 #[.pointer (some ⟨pb, 0, none⟩)] wr fun e w' => e = .returned (.int .i64 0) ∧ w' = wr := by
            rw [show en19 s = 0 by unfold en19; rw [if_neg (by simp [HI.out.wr]), if_pos h8]] at EN
            exact EN
          clear hcf hat hnx0 ha h8 hat1
          go_wp2_with fail
          refine EN.mono ?_
          rintro e4 w4 ⟨rfl, hw4⟩
          subst w4
          clear EN
          go_wp2_with fail
          refine HLV.out.mono ?_
          rintro e5 w5 ⟨rfl, b5⟩
          have BF : Below w.heap.size w w5 := HBW.out.trans (b5.mono HBW.out.size)
          go_wp2_with fail
          go_ret
          exact ⟨rfl, BF⟩
        have hal2 : a = z.length := by omega
        have ha : al19 z = (0, L.map (·.1)) := by
          have hf := HI.out.ok rfl
          rw [ful19_over h8] at hf
          unfold al19; rw [← hf]; show (if (0 : Int) ≠ 0 then _ else if (8 : Int) ≠ 8 then _ else if z.drop a ≠ [] then _ else _) = _; rw [if_neg (by simp), if_neg (by simp), if_neg (by rw [hal2]; simp)]
        have her : er = 0 := by rw [← HE.out, ha]
        subst er
        have hmm : LW.map (·.1) = L.map (·.1) := HLW.out.1.trans (by rw [ha])
        have hll : LW.length = L.length := by simpa using congrArg List.length hmm
        have hatI : ¬ (a : Int) < (z.length : Int) := by omega
        have hLL : L.length + 1 ≤ 1000000000 := by have := HI.out.cb.few HI.out.g; simpa using this
        have EN : Calls Tryz.prog 8 #[.pointer (some ⟨pb, 0, none⟩)] wr fun e w' => e = .returned (.int .i64 0) ∧ w' = wr := by
          rw [show en19 s = 0 by unfold en19; rw [if_neg (by simp [HI.out.wr]), if_pos h8]] at EN
          exact EN
        have HMM : Hid (LW.map (·.1) = L.map (·.1) ∧ L.length + 1 ≤ 1000000000) := ⟨hmm, hLL⟩
        have HLV2 : Hid (∀ V, Below wr.heap.size wr V → Le19 (pb + 1) (.slice pL L.length cL) L V ∧ Le19 (w.heap.size + 1) (.slice pw L.length cw) LW V ∧ Tab V ∧ 0 < V.heap.size ∧ Below w.heap.size w V) := fun V hV => by
          have hB : Below w.heap.size w V := HBW.out.trans (hV.mono HBW.out.size)
          refine ⟨HI.out.le.old hV, ?_, (HZ.out V hB).1, ?_, hB⟩
          · rw [← hll]; exact HI.out.lw.old hV
          · have := hB.size; have := hal.2.2.2; omega
        rw [hll]
        clear hcf hat hnx0 ha h8 hal2 hat1 hmm hll hLL
        go_wp2_with fail
        refine EN.mono ?_
        rintro e4 w4 ⟨rfl, hw4⟩
        subst w4
        clear EN
        go_wp2_with fail
        have hda : decide (a < z.length) = false := decide_eq_false (by omega)
        (try simp only [hda])
        clear hatI hda
        go_loopw [180] (fun t V => ∃ i : Nat, t = .int .i64 (i : Int) ∧ i ≤ L.length ∧ Below wr.heap.size wr V) (fun t _ => L.length - (intOf t).toNat)
        case atStart => exact ⟨0, rfl, Nat.zero_le _, Below.refl _ _⟩
        case round =>
          obtain ⟨i, rfl, hi, hb⟩ := hrel
          have HBB := hidm19 hb
          obtain ⟨l1, l2, l3, l4, l5⟩ := HLV2.out _ hb
          by_cases hil : i < L.length
          rotate_left
          · have hilI : ¬ (i : Int) < (L.length : Int) := by omega
            have LVV := pliv19 _ l3 l4
            clear l1 l2 l3 l4 hil hi hb
            go_wp2_with fail
            refine LVV.mono ?_
            rintro e5 w5 ⟨rfl, b5⟩
            have BF := l5.trans (b5.mono l5.size)
            go_wp2_with fail
            go_ret
            exact ⟨rfl, BF⟩
          have hilI : (i : Int) < (L.length : Int) := by omega
          have hi0 : (0 : Int) ≤ (i : Int) := by omega
          have hi4 : ¬ (i : Int) < 0 := by omega
          have hiw : IntKind.i64.wrap ((i : Int) + 1) = (i : Int) + 1 := IntWalk.i64_in _ (by have := HMM.out.2; omega)
          obtain ⟨⟨e, p, c⟩, hx⟩ : ∃ x, L[i]? = some x := ⟨_, List.getElem?_eq_getElem hil⟩
          obtain ⟨⟨e2, p2, c2⟩, hx2⟩ : ∃ x, LW[i]? = some x := ⟨_, List.getElem?_eq_getElem (by have := congrArg List.length HMM.out.1; simp at this; omega)⟩
          obtain rfl : e2 = e := by
            have h1 : (LW.map (·.1))[i]? = some e2 := by rw [List.getElem?_map, hx2]; rfl
            have h2 : (L.map (·.1))[i]? = some e := by rw [List.getElem?_map, hx]; rfl
            rw [HMM.out.1, h2] at h1
            injection h1 with h1
            exact h1.symm
          obtain ⟨g, cg, hv, hc⟩ := l1.row hx
          injection hv with v1 v2 v3
          obtain ⟨g2, cg2, hv2, hc2⟩ := l2.row hx2
          injection hv2 with v4 v5 v6
          subst v1; subst v4
          clear v2 v3 v5 v6
          have r1 : wr.rangeAt g (i * 16) (e2.cs p c).toList := fun j v hj => by
            have hj16 : j < 16 := by have := (List.getElem?_eq_some_iff.1 hj).1; exact this
            rw [hc j hj16]
            rw [← hj]
            exact (Array.getElem?_toList).symm
          have r2 : wr.rangeAt g2 (i * 16) (e2.cs p2 c2).toList := fun j v hj => by
            have hj16 : j < 16 := by have := (List.getElem?_eq_some_iff.1 hj).1; exact this
            rw [hc2 j hj16]
            rw [← hj]
            exact (Array.getElem?_toList).symm
          have gl1 := l1.own.lt g rfl
          have gl2 := l2.own.lt g2 rfl
          have HSV : Hid (∀ V, Below wr.heap.size wr V → (V.rangeAt g (i * 16) (e2.cs p c).toList ∧ V.rangeAt g2 (i * 16) (e2.cs p2 c2).toList) ∧ Seg V p e2.bs ∧ Seg V p2 e2.bs) := fun V hV =>
            ⟨⟨fun j v hj => (hV.cell (p := ⟨g, i * 16 + j, none⟩) gl1.2).trans (r1 j v hj), fun j v hj => (hV.cell (p := ⟨g2, i * 16 + j, none⟩) gl2.2).trans (r2 j v hj)⟩, (l1.seg _ (List.mem_of_getElem? hx)).old hV, (l2.seg _ (List.mem_of_getElem? hx2)).old hV⟩
          have HIL : Hid (i < L.length) := hil
          clear r1 r2 hc hc2 hx hx2 gl1 gl2 l1 l2 l3 l4 l5 hi hil hb
          go_wp2_with fail
          obtain ⟨V0, hV0⟩ : ∃ V0, V0 = wr.drew := ⟨_, rfl⟩
          have b0 : Below wr.heap.size wr V0 := by rw [hV0]; exact (Below.refl _ _).drew
          refine plain_region16 (fun V => V.rangeAt g (i * 16) (e2.cs p c).toList ∧ V.rangeAt g2 (i * 16) (e2.cs p2 c2).toList) 12 (by kernel_rfl) (by rw [← hV0]; exact (HSV.out V0 b0).1) (fun hHeld => ?_)
          rw [← hV0] at hHeld ⊢
          clear hV0
          refine wpAnyK_take (i := 0) (v := .slice (some ⟨g, 0, none⟩) L.length cL) rfl (by kernel_rfl) (by kernel_rfl) (by kernel_rfl) (by kernel_rfl) (fun _ _ _ h => h) (Or.inl ⟨by rfl, fun w hSw => by go_simp⟩) hHeld ?_
          simp only [List.getElem_toArray, List.getElem_cons_zero, Act.put, List.setIfInBounds_toArray, List.set_cons_zero, List.set_cons_succ]
          refine wpAnyK_take (i := 1) (v := .int .i64 (i : Int)) rfl (by kernel_rfl) (by kernel_rfl) (by kernel_rfl) (by kernel_rfl) (fun _ _ _ h => h) (Or.inl ⟨by rfl, fun w hSw => by go_simp⟩) hHeld ?_
          simp only [List.getElem_toArray, List.getElem_cons_zero, List.getElem_cons_succ, Act.put, List.setIfInBounds_toArray, List.set_cons_zero, List.set_cons_succ]
          refine wpAnyK_take (i := 2) (v := .pointer (some ⟨g, i * 16, none⟩)) rfl (by kernel_rfl) (by kernel_rfl) (by kernel_rfl) (by kernel_rfl) (fun _ _ _ h => h) (Or.inl ⟨by rfl, fun w hSw => by go_simp⟩) hHeld ?_
          simp only [List.getElem_toArray, List.getElem_cons_zero, List.getElem_cons_succ, Act.put, List.setIfInBounds_toArray, List.set_cons_zero, List.set_cons_succ]
          refine wpAnyK_take (i := 3) (v := .agg (e2.cs p c)) rfl (by kernel_rfl) (by kernel_rfl) (by kernel_rfl) (by kernel_rfl) (fun _ _ _ h => h) (yieldsIf_load_mid (by rfl) 39 (.tmp 185) rfl g (i * 16) rfl (e2.cs p c).toList _ (fun _ h => h.1) Tryz.underlying39 rfl info_ev19) hHeld ?_
          simp only [List.getElem_toArray, List.getElem_cons_zero, List.getElem_cons_succ, Act.put, List.setIfInBounds_toArray, List.set_cons_zero, List.set_cons_succ]
          refine wpAnyK_take (i := 5) (v := .slice (some ⟨g2, 0, none⟩) L.length cw) rfl (by kernel_rfl) (by kernel_rfl) (by kernel_rfl) (by kernel_rfl) (fun _ _ _ h => h) (Or.inl ⟨by rfl, fun w hSw => by go_simp⟩) hHeld ?_
          simp only [List.getElem_toArray, List.getElem_cons_zero, List.getElem_cons_succ, Act.put, List.setIfInBounds_toArray, List.set_cons_zero, List.set_cons_succ]
          refine wpAnyK_take (i := 6) (v := .int .i64 (i : Int)) rfl (by kernel_rfl) (by kernel_rfl) (by kernel_rfl) (by kernel_rfl) (fun _ _ _ h => h) (Or.inl ⟨by rfl, fun w hSw => by go_simp⟩) hHeld ?_
          simp only [List.getElem_toArray, List.getElem_cons_zero, List.getElem_cons_succ, Act.put, List.setIfInBounds_toArray, List.set_cons_zero, List.set_cons_succ]
          refine wpAnyK_take (i := 7) (v := .pointer (some ⟨g2, i * 16, none⟩)) rfl (by kernel_rfl) (by kernel_rfl) (by kernel_rfl) (by kernel_rfl) (fun _ _ _ h => h) (Or.inl ⟨by rfl, fun w hSw => by go_simp⟩) hHeld ?_
          simp only [List.getElem_toArray, List.getElem_cons_zero, List.getElem_cons_succ, Act.put, List.setIfInBounds_toArray, List.set_cons_zero, List.set_cons_succ]
          refine wpAnyK_take (i := 8) (v := .agg (e2.cs p2 c2)) rfl (by kernel_rfl) (by kernel_rfl) (by kernel_rfl) (by kernel_rfl) (fun _ _ _ h => h) (yieldsIf_load_mid (by rfl) 39 (.tmp 190) rfl g2 (i * 16) rfl (e2.cs p2 c2).toList _ (fun _ h => h.2) Tryz.underlying39 rfl info_ev19) hHeld ?_
          simp only [List.getElem_toArray, List.getElem_cons_zero, List.getElem_cons_succ, Act.put, List.setIfInBounds_toArray, List.set_cons_zero, List.set_cons_succ]
          refine wpAnyK_one (i := 4) (by kernel_rfl) rfl (fun K hK => ?_)
          (try simp only [List.getElem_toArray, List.getElem_cons_zero, List.getElem_cons_succ, Act.put, List.setIfInBounds_toArray, List.set_cons_zero, List.set_cons_succ])
          go_simp
          refine (ppln19 e2 p c V0).mono ?_
          rintro eA wA ⟨rfl, bA⟩
          have b1 : Below wr.heap.size wr wA := b0.trans (bA.mono b0.size)
          refine hK.out _ _ (fun _ => (HSV.out wA b1).1) (fun hHeld0 => ?_)
          have hHeld := hHeld0 (by decide)
          clear hHeld0 hK K
          (try simp only [List.getElem_toArray, List.getElem_cons_zero, List.getElem_cons_succ, Act.put, List.setIfInBounds_toArray, List.set_cons_zero, List.set_cons_succ])
          refine wpAnyK_one (i := 9) (by kernel_rfl) rfl (fun K hK => ?_)
          (try simp only [List.getElem_toArray, List.getElem_cons_zero, List.getElem_cons_succ, Act.put, List.setIfInBounds_toArray, List.set_cons_zero, List.set_cons_succ])
          go_simp
          refine (ppln19 e2 p2 c2 wA).mono ?_
          rintro eB wB ⟨rfl, bB⟩
          have b2 : Below wr.heap.size wr wB := b1.trans (bB.mono b1.size)
          refine hK.out _ _ (fun _ => (HSV.out wB b2).1) (fun hHeld0 => ?_)
          have hHeld := hHeld0 (by decide)
          clear hHeld0 hK K
          (try simp only [List.getElem_toArray, List.getElem_cons_zero, List.getElem_cons_succ, Act.put, List.setIfInBounds_toArray, List.set_cons_zero, List.set_cons_succ])
          refine wpAnyK_one (i := 10) (by kernel_rfl) rfl (fun K hK => ?_)
          (try simp only [List.getElem_toArray, List.getElem_cons_zero, List.getElem_cons_succ, Act.put, List.setIfInBounds_toArray, List.set_cons_zero, List.set_cons_succ])
          go_simp
          refine (rsam19 e2 p c p2 c2 wB (HSV.out wB b2).2.1 (HSV.out wB b2).2.2).mono ?_
          rintro eC wC ⟨rfl, bC⟩
          have b3 : Below wr.heap.size wr wC := b2.trans (bC.mono b2.size)
          refine hK.out _ _ (fun _ => (HSV.out wC b3).1) (fun hHeld0 => ?_)
          have hHeld := hHeld0 (by decide)
          clear hHeld0 hK K
          (try simp only [List.getElem_toArray, List.getElem_cons_zero, List.getElem_cons_succ, Act.put, List.setIfInBounds_toArray, List.set_cons_zero, List.set_cons_succ])
          refine wpAnyK_take (i := 11) (v := .bool false) rfl (by kernel_rfl) (by kernel_rfl) (by kernel_rfl) (by kernel_rfl) (fun _ _ _ h => h) (Or.inl ⟨by rfl, fun w hSw => by go_simp⟩) hHeld ?_
          simp only [List.getElem_toArray, List.getElem_cons_zero, List.getElem_cons_succ, Act.put, List.setIfInBounds_toArray, List.set_cons_zero, List.set_cons_succ]
          refine wpAnyK_done (by kernel_rfl) ?_ _
          have HB3 : Hid (Below wr.heap.size wr wC) := b3
          clear b0 b1 b2 b3 bA bB bC hHeld
          go_wp2_with fail
          exact ⟨⟨i + 1, by first | rfl | simp, by have := HIL.out; omega, HBB.out.trans (HB3.out.mono HBB.out.size)⟩, by simp [intOf]; have := HIL.out; omega⟩
      | true =>
        obtain ⟨hat1, h8, hcd⟩ := hcT rfl
        obtain ⟨hat, hnx0⟩ := HX.out
        clear hcT hcF HDN HEN
        subst hcd
        have hatI : (a : Int) < (z.length : Int) := by omega
        obtain ⟨m0, hm0⟩ : ∃ m0 : Nat, m0 = z.length - a := ⟨_, rfl⟩
        have hsub : (z.length : Int) - (a : Int) = (m0 : Int) := by omega
        have hsw : IntKind.i64.wrap (m0 : Int) = (m0 : Int) := IntWalk.i64_in _ (by omega)
        have HM : Hid (m0 = z.length - a ∧ a < z.length) := ⟨hm0, hat1⟩
        have HX8 : Hid (s.nx ≠ 8 ∧ s.nx ≠ 0) := ⟨h8, hnx0⟩
        clear hat hm0 h8 hnx0
        go_upto_region 11 with fail
        go_cut [63] from 26 to 149 (fun s63 wc => wc = wr ∧ ∃ c : Bool, s63 = .bool c ∧ (c = true → ∃ v : Int, k < zs.length ∧ zs.getD k 0 = v ∧ 0 ≤ v ∧ v < (m0 : Int)))
        case first =>
          by_cases hks : k < zs.length
          · have hksI : (k : Int) < (zs.length : Int) := by omega
            have hk0' : (0 : Int) ≤ (k : Int) := by omega
            obtain ⟨bs, os, hsa, hcs⟩ := (HZ.out wr HBW.out).2.2.at_ k hks
            generalize hv : zs.getD k 0 = v at *
            subst hsa
            by_cases hv0 : v < 0
            · go_wp2_with fail
              go_meet
              case rel => exact ⟨rfl, false, rfl, nofun⟩
            · by_cases hvm : v < (m0 : Int)
              · go_wp2_with fail
                go_meet
                case rel => exact ⟨rfl, true, rfl, fun _ => ⟨v, hks, by first | rfl | exact hv, by omega, hvm⟩⟩
              · go_wp2_with fail
                go_meet
                case rel => exact ⟨rfl, false, rfl, nofun⟩
          · have hksI : ¬ (k : Int) < (zs.length : Int) := by omega
            go_wp2_with fail
            go_meet
            case rel => exact ⟨rfl, false, rfl, nofun⟩
        case rest =>
          obtain ⟨hwc, cc, rfl, hcc⟩ := hcut
          subst wc
          have HCC := hidm19 hcc
          clear hcc
          go_upto_if 63 with fail
          go_cut [12] from 26 to 149 (fun s12 wc => wc = wr ∧ ∃ n : Nat, s12 = .int .i64 (n : Int) ∧ n ≤ m0 ∧ (zs.length ≤ k → n = m0))
          case first =>
            cases cc with
            | true =>
              obtain ⟨v, hks, hv, hv0, hvm⟩ := HCC.out rfl
              have hksI : (k : Int) < (zs.length : Int) := by omega
              have hk0' : (0 : Int) ≤ (k : Int) := by omega
              obtain ⟨bs, os, hsa, hcs⟩ := (HZ.out wr HBW.out).2.2.at_ k hks
              rw [hv] at hcs
              obtain ⟨vn, rfl⟩ := Int.eq_ofNat_of_zero_le hv0
              have HVN : Hid (vn ≤ m0 ∧ k < zs.length) := ⟨by omega, hks⟩
              subst hsa
              clear hv hvm hv0 hks
              go_wp2_with fail
              go_meet
              case rel => exact ⟨rfl, vn, rfl, HVN.out.1, fun x => by have := HVN.out.2; omega⟩
            | false =>
              go_wp2_with fail
              go_meet
              case rel => exact ⟨rfl, m0, rfl, Nat.le_refl _, fun _ => rfl⟩
          case rest =>
            obtain ⟨hwc, n, rfl, hn1, hn2⟩ := hcut
            subst wc
            have HNN : Hid (n ≤ m0 ∧ (zs.length ≤ k → n = m0)) := ⟨hn1, hn2⟩
            have hI := HI.out
            have hat := hI.at_
            obtain ⟨h8, hnx0⟩ := HX8.out
            have hm0 := HM.out.1
            obtain ⟨s1, hs1⟩ : ∃ s1, s1 = a + n := ⟨_, rfl⟩
            have hadd : (a : Int) + (n : Int) = (s1 : Int) := by omega
            have hsw1 : IntKind.i64.wrap (s1 : Int) = (s1 : Int) := IntWalk.i64_in _ (by omega)
            have g1 : ¬ (a : Int) < 0 := by omega
            have g2 : (a : Int) ≤ (s1 : Int) := by omega
            have g3 : (s1 : Int) ≤ (zc : Int) := by omega
            have g4 : s1 - a = n := by omega
            have g5 : ¬ zc = a := by omega
            obtain ⟨zp, hzp⟩ : ∃ zp, zp = (z.drop a).take n := ⟨_, rfl⟩
            obtain ⟨sgp, hzl, hzr⟩ := seg_pc19 (n := n) (HZ.out wr HBW.out).2.1 hat hal.1 (by omega)
            have hRI := hI.run HZB.out n
            have hrs : rs16 za zc a = Option.map (fun x => x.add a) za := if_neg g5
            rw [hrs] at sgp hzr
            have hsm := run_some19 zp s e019 0 (by rw [hzp]; exact fun v hv => HZB.out v (List.mem_of_mem_drop (List.mem_of_mem_take hv))) hI.g (fun x => by cases (show (0 : Int) = 3 from x))
            rw [← hzp] at sgp hzl hzr hRI
            have hig : Ig19 s e019 zp := ⟨hI.g, by show 0 + zp.length ≤ _; omega⟩
            have htk : 0 ≤ s.tk ∧ s.tk ≤ 4611686018427387904 := by have := hI.tk; omega
            have hab : ∀ x off, Option.map (fun x => x.add a) za = some ⟨x, off, none⟩ → 0 < zp.length → x ≠ pb := fun x off e hp => by
              obtain ⟨o, ho⟩ := hzr x off e hp
              have := HLT.out x o ho (by omega)
              have := HPB.out
              omega
            have hpb0 : pb ≠ 0 := by have := HPB.out; omega
            obtain ⟨d2, hd2⟩ : ∃ d2 : Nat, d2 = 2 * z.length := ⟨_, rfl⟩
            obtain ⟨d3, hd3⟩ : ∃ d3 : Nat, d3 = d2 + zs.length := ⟨_, rfl⟩
            have y1 : 2 * (z.length : Int) = (d2 : Int) := by omega
            have y2 : IntKind.i64.wrap (d2 : Int) = (d2 : Int) := IntWalk.i64_in _ (by omega)
            have y3 : (d2 : Int) + (zs.length : Int) = (d3 : Int) := by omega
            have y4 : IntKind.i64.wrap (d3 : Int) = (d3 : Int) := IntWalk.i64_in _ (by omega)
            have hkk := HK.out.1 (by first | exact rfl | exact trivial)
            have y5 : ¬ (d3 : Int) < (k : Int) := by omega
            have y6 : IntKind.i64.wrap ((k : Int) + 1) = (k : Int) + 1 := IntWalk.i64_in _ (by omega)
            have hTw := (HZ.out wr HBW.out).1
            by_cases hok : (run19 dg19 s e019 0 zp).1 = 0
            rotate_left
            · have SN := pSt19_no dcg19 pb s (Option.map (fun x => x.add a) za) (zc - a) zp wr hTw hI.st hig sgp hab (by omega) hpb0 htk hnx0 hI.wr hok
              rw [hzl] at SN
              have hfe := hRI.1 hok
              have HNE : Hid ((run19 dg19 s e019 0 zp).1 ≠ 0) := hok
              have hLL : L.length ≤ 1000000000 := by have := hI.cb.few hI.g; simp at this; omega
              have HHI := hidm19 hI
              obtain ⟨lst, hlst⟩ : ∃ lst : Int, lst = (L.length : Int) - 1 := ⟨_, rfl⟩
              have y7 : (L.length : Int) - 1 = lst := hlst.symm
              have y8 : IntKind.i64.wrap lst = lst := IntWalk.i64_in _ (by omega)
              have hw0 : IntKind.i64.wrap (a : Int) = (a : Int) := IntWalk.i64_in _ (by omega)
              have hn0 : ¬ (n : Int) < 0 := by omega
              generalize (run19 dg19 s e019 0 zp).1 = eq at *
              have HFE := hidm19 hfe
              have hne0 : eq ≠ 0 := HNE.out
              clear hRI hsm hig htk hab hzr sgp hI hfe hs1 hm0 hd2 hd3 hkk hlst hLL hok hTw hrs hzp hnx0 h8
              clear hn2 hat
              go_wp2_with fail
              refine SN.mono ?_
              rintro e4 w4 ⟨rfl, q4, k4⟩
              obtain ⟨w5, hw5⟩ : ∃ w5, w5 = w4.alloc (.cells #[.int .i64 0, .int .i64 0, .int .i64 0, .int .u32 0, .int .u32 0, .int .i64 0, .int .i64 0, .int .i64 0, .int .i64 0, .int .i64 0, .int .i64 0, .int .i64 0, .int .i64 0, .int .i64 0, .int .i64 0, .slice none 0 0] 39) := ⟨_, rfl⟩
              have k5 := cb16 w4 #[.int .i64 0, .int .i64 0, .int .i64 0, .int .u32 0, .int .u32 0, .int .i64 0, .int .i64 0, .int .i64 0, .int .i64 0, .int .i64 0, .int .i64 0, .int .i64 0, .int .i64 0, .int .i64 0, .int .i64 0, .slice none 0 0] 39
              rw [← hw5] at k5
              obtain ⟨b6, hb6⟩ : ∃ b6, b6 = w4.heap.size := ⟨_, rfl⟩
              have q5 := k5.cl
              rw [← hb6] at q5
              obtain ⟨w6, hw6⟩ : ∃ w6, w6 = w5.setRow b6 #[.int .i64 0, .int .i64 0, .int .i64 0, .int .u32 0, .int .u32 0, .int .i64 0, .int .i64 0, .int .i64 0, .int .i64 0, .int .i64 0, .int .i64 0, .int .i64 0, .int .i64 0, .int .i64 0, .int .i64 0, .slice none 0 0] := ⟨_, rfl⟩
              have q6 : w6.heap[b6]? = some (.cells #[.int .i64 0, .int .i64 0, .int .i64 0, .int .u32 0, .int .u32 0, .int .i64 0, .int .i64 0, .int .i64 0, .int .i64 0, .int .i64 0, .int .i64 0, .int .i64 0, .int .i64 0, .int .i64 0, .int .i64 0, .slice none 0 0] 39 (0, 0)) := by rw [hw6]; exact setRow_heap _ _ _ _ _ _ q5
              have kg : Kp (fun k => k = b6) w5 w6 := by rw [hw6]; exact grow19 _ _ _
              have k46 : Kp (fun k => w4.heap.size ≤ k) w4 w6 := (Kp.of_below (S := fun k => w4.heap.size ≤ k) k5.bl).trans kg (fun q _ x => by have x : q = b6 := x; show w4.heap.size ≤ q; omega)
              have b46 : Below w4.heap.size w4 w6 := k46.below (fun _ x => x) (Nat.le_refl _)
              have kw4 : Kp (fun k => pb ≤ k) wr w4 := k4.mono (fun q _ x => by have x : q = pb := x; show pb ≤ q; omega)
              have kw6 : Kp (fun k => pb ≤ k) wr w6 := kw4.trans (Kp.of_below (S := fun _ => False) b46) (fun _ _ x => x.elim)
              have BN : Below pb w1 w6 := HHI.out.bl.trans (kw6.below (fun _ x => x) (Nat.le_of_lt HHI.out.sz))
              have HN := hidm19 (HHI.out.err eq HNE.out HFE.out (q4.old b46) ((HHI.out.le.kp k4 (fun q x => by have x : q = pb := x; omega)).old b46) (HLW.out.2.old (by rw [HPB.out.1]; exact BN)) kw6)
              have c0 : w6.cell? ⟨b6, 0, none⟩ = some (.int .i64 0) := cell18 q6 rfl
              have HW5 : Hid (w4.alloc (.cells #[.int .i64 0, .int .i64 0, .int .i64 0, .int .u32 0, .int .u32 0, .int .i64 0, .int .i64 0, .int .i64 0, .int .i64 0, .int .i64 0, .int .i64 0, .int .i64 0, .int .i64 0, .int .i64 0, .int .i64 0, .slice none 0 0] 39) = w5 ∧ w4.heap.size = b6 ∧ w5.setRow b6 #[.int .i64 0, .int .i64 0, .int .i64 0, .int .u32 0, .int .u32 0, .int .i64 0, .int .i64 0, .int .i64 0, .int .i64 0, .int .i64 0, .int .i64 0, .int .i64 0, .int .i64 0, .int .i64 0, .int .i64 0, .slice none 0 0] = w6) := ⟨hw5.symm, hb6.symm, hw6.symm⟩
              have HQ5 := hidm19 q5
              clear hw5 k5 hb6 q5 hw6 q6 kg k46 b46 kw4 kw6 q4 k4 SN BN
              go_wp2_with (first
                | (rw [HW5.out.1, HW5.out.2.1]; refine wpList_store_row rfl 39 (.tmp 13) (.tmp 77) rfl b6 #[.int .i64 0, .int .i64 0, .int .i64 0, .int .u32 0, .int .u32 0, .int .i64 0, .int .i64 0, .int .i64 0, .int .i64 0, .int .i64 0, .int .i64 0, .int .i64 0, .int .i64 0, .int .i64 0, .int .i64 0, .slice none 0 0] rfl rfl _ _ HQ5.out (by kernel_rfl) rfl (by kernel_rfl) ?_; rw [HW5.out.2.2]))
              go_quiet (fail)
              go_wp2_with fail
              exact ⟨⟨_, L, a, eq, k + 1, _, rfl, by first | rfl | simp, rfl, by first | rfl | simp, fun x => absurd x HNE.out, by have := HK.out.1 trivial; omega, HLB.out, HN.out.dr _⟩, by simp [intOf]; have := HK.out.1 trivial; have := HM.out; omega⟩
            have SN := pSt19_ok dcg19 pb s (Option.map (fun x => x.add a) za) (zc - a) zp wr hTw hI.st hig sgp hab (by omega) hpb0 htk hnx0 hI.wr hok
            rw [hzl] at SN
            have HRU := hidm19 (hRI.2 hok)
            have hsm1 := hsm hok
            have hmv : zp ≠ [] → 0 < (run19 dg19 s e019 0 zp).2.1 := fun x => (hRI.2 hok).mv x h8
            have hk1 : (run19 dg19 s e019 0 zp).2.1 ≤ n := by have := (hRI.2 hok).k1; omega
            have hLL : L.length + 1 ≤ 1000000000 := by have := hI.cb.few hI.g; simpa using this
            have HLL : Hid (L.length + 1 ≤ 1000000000) := hLL
            have hel0 := run_len19 zp s e019 0 (by rw [hzp]; exact fun v hv => HZB.out v (List.mem_of_mem_drop (List.mem_of_mem_take hv))) hI.g hok
            generalize run19 dg19 s e019 0 zp = r at *
            obtain ⟨r0, kk, s', e'⟩ := r
            dsimp only at hok hsm1 hmv hk1
            subst hok
            have HSM := hidm19 hsm1
            have HEL : Hid (e'.bs.length ≤ kk) := by have h : e'.bs.length + 0 ≤ 0 + kk := hel0; show _ ≤ _; omega
            clear hel0
            have HNK : Hid (zs.length ≤ k → 0 < kk) := fun x => hmv (by intro e; rw [e] at hzl; have : n = 0 := hzl.symm; have := HNN.out.2 x; have := HM.out; omega)
            have HKN : Hid (kk ≤ n ∧ n ≤ z.length - a) := ⟨hk1, by omega⟩
            obtain ⟨a2, ha2⟩ : ∃ a2, a2 = a + kk := ⟨_, rfl⟩
            have HA2 : Hid (a2 = a + kk) := ha2
            have z1 : (a : Int) + (kk : Int) = (a2 : Int) := by omega
            have z2 : IntKind.i64.wrap (a2 : Int) = (a2 : Int) := IntWalk.i64_in _ (by omega)
            have z3 : ¬ (kk : Int) < 0 := by omega
            have z4 : ¬ (n : Int) < (kk : Int) := by omega
            have HHI := hidm19 hI
            obtain ⟨lst, hlst⟩ : ∃ lst : Int, lst = (L.length : Int) - 1 := ⟨_, rfl⟩
            have y7 : (L.length : Int) - 1 = lst := hlst.symm
            have y8 : IntKind.i64.wrap lst = lst := IntWalk.i64_in _ (by omega)
            have HLS : Hid (lst = (L.length : Int) - 1) := hlst
            have HPC : Hid (zp = (z.drop a).take n) := hzp
            clear hRI hsm hig htk hab hzr sgp hI hs1 hm0 hd2 hd3 hkk hlst hLL hTw hrs hnx0 h8 hmv hk1 hsm1 ha2 hzp
            clear hn2 hat
            go_wp2_with fail
            refine SN.mono ?_
            rintro e4 w4 ⟨p, c, rfl, q4, o4, k4⟩
            dsimp only at q4 o4 ⊢
            have hbb := HRU.out.bb
            dsimp only at hbb
            have SGP : Seg w4 p e'.bs ∧ (∀ x off, p = some ⟨x, off, none⟩ → 0 < e'.bs.length → wr.heap.size ≤ x) := by
              obtain ⟨-, a1, c1', hv1, sg1, -, hc1, -⟩ := own_seg o4 (M := 255) (by decide) hbb
              injection hv1 with x1 x2 x3
              subst x1
              exact ⟨sg1, fun x off e hp => (o4.lt x (by rw [e]; rfl)).1⟩
            obtain ⟨w5, hw5⟩ : ∃ w5, w5 = w4.alloc (.cells #[.int .i64 0, .int .i64 0, .int .i64 0, .int .u32 0, .int .u32 0, .int .i64 0, .int .i64 0, .int .i64 0, .int .i64 0, .int .i64 0, .int .i64 0, .int .i64 0, .int .i64 0, .int .i64 0, .int .i64 0, .slice none 0 0] 39) := ⟨_, rfl⟩
            have k5 := cb16 w4 #[.int .i64 0, .int .i64 0, .int .i64 0, .int .u32 0, .int .u32 0, .int .i64 0, .int .i64 0, .int .i64 0, .int .i64 0, .int .i64 0, .int .i64 0, .int .i64 0, .int .i64 0, .int .i64 0, .int .i64 0, .slice none 0 0] 39
            rw [← hw5] at k5
            obtain ⟨b6, hb6⟩ : ∃ b6, b6 = w4.heap.size := ⟨_, rfl⟩
            have q5 := k5.cl
            rw [← hb6] at q5
            obtain ⟨w6, hw6⟩ : ∃ w6, w6 = w5.setRow b6 (e'.cs p c) := ⟨_, rfl⟩
            have q6 : w6.heap[b6]? = some (.cells (e'.cs p c) 39 (0, 0)) := by rw [hw6]; exact setRow_heap _ _ _ _ _ _ q5
            have kg : Kp (fun k => k = b6) w5 w6 := by rw [hw6]; exact grow19 _ _ _
            have k46 : Kp (fun k => w4.heap.size ≤ k) w4 w6 := (Kp.of_below (S := fun k => w4.heap.size ≤ k) k5.bl).trans kg (fun q _ x => by have x : q = b6 := x; show w4.heap.size ≤ q; omega)
            have b46 : Below w4.heap.size w4 w6 := k46.below (fun _ x => x) (Nat.le_refl _)
            have kw4 : Kp (fun k => pb ≤ k) wr w4 := k4.mono (fun q _ x => by have x : q = pb := x; show pb ≤ q; omega)
            have kw6 : Kp (fun k => pb ≤ k) wr w6 := kw4.trans (Kp.of_below (S := fun _ => False) b46) (fun _ _ x => x.elim)
            have BN : Below pb w1 w6 := HHI.out.bl.trans (kw6.below (fun _ x => x) (Nat.le_of_lt HHI.out.sz))
            have L6 : Le19 (pb + 1) (.slice pL L.length cL) L w6 := (HHI.out.le.kp k4 (fun q x => by have x : q = pb := x; omega)).old b46
            have S6 := SGP.1.old b46
            have q46 : St19 w6 pb 60 (tk19 s' (s.tk + kk)) := St19.old (s := tk19 s' (s.tk + kk)) q4 b46
            have hw4s := k4.size
            have hszr := HHI.out.sz
            have h46s := b46.size
            have HW5 : Hid (w4.alloc (.cells #[.int .i64 0, .int .i64 0, .int .i64 0, .int .u32 0, .int .u32 0, .int .i64 0, .int .i64 0, .int .i64 0, .int .i64 0, .int .i64 0, .int .i64 0, .int .i64 0, .int .i64 0, .int .i64 0, .int .i64 0, .slice none 0 0] 39) = w5 ∧ w4.heap.size = b6 ∧ w5.setRow b6 (e'.cs p c) = w6) := ⟨hw5.symm, hb6.symm, hw6.symm⟩
            have HQ5 := hidm19 q5
            have HQ6 := hidm19 q6
            have c0 : w6.cell? ⟨b6, 0, none⟩ = some (.int .i64 e'.kd) := cell18 q6 rfl
            have c14 : w6.cell? ⟨b6, 14, none⟩ = some (.int .i64 e'.st) := cell18 q6 rfl
            have c15 : w6.cell? ⟨b6, 15, none⟩ = some (.slice p e'.bs.length c) := cell18 q6 rfl
            have HB46 : Hid (wr.heap.size ≤ w4.heap.size ∧ w4.heap.size = b6 ∧ b6 < w6.heap.size ∧ pb < wr.heap.size ∧ w4.heap.size ≤ w6.heap.size) := ⟨hw4s, hb6.symm, (Array.getElem?_eq_some_iff.1 q6).1, hszr, h46s⟩
            clear hw5 k5 q5 hw6 kg k46 b46 hbb q6
            have H6 : Hid (Le19 (pb + 1) (.slice pL L.length cL) L w6 ∧ Seg w6 p e'.bs ∧ St19 w6 pb 60 (tk19 s' (s.tk + kk)) ∧ Kp (fun k => pb ≤ k) wr w6 ∧ (∀ x off, p = some ⟨x, off, none⟩ → 0 < e'.bs.length → wr.heap.size ≤ x ∧ x < w6.heap.size)) := ⟨L6, S6, q46, kw6, fun x off e hp => ⟨SGP.2 x off e hp, S6.lt x off e hp⟩⟩
            clear L6 S6 q46 kw6 kw4 SGP q4 o4 k4 SN BN hb6 hw4s hszr h46s
            go_upto_region 18 with (first | (rw [HW5.out.1, HW5.out.2.1]; refine wpList_store_row rfl 39 (.tmp 13) (.tmp 77) rfl b6 (e'.cs p c) rfl rfl _ _ HQ5.out info_ev19 rfl (evc_all19 e' p c) ?_; rw [HW5.out.2.2]))
            go_cut [128] from 26 to 149 (fun s128 wc => wc = w6.drew ∧ ∃ c : Bool, s128 = .bool c ∧ (c = true → e'.kd = 3 ∧ ∃ M y py cy, L = M ++ [(y, py, cy)] ∧ y.kd = 3 ∧ y.st = e'.st) ∧ (c = false → ¬ (e'.kd = 3 ∧ ∃ y, (L.map (·.1)).getLast? = some y ∧ y.kd = 3 ∧ y.st = e'.st)))
            case first =>
              by_cases hk3 : e'.kd = 3
              rotate_left
              · clear c14 c15
                refine plain_region16 (fun V => V.cell? ⟨b6, 0, none⟩ = some (.int .i64 e'.kd)) 25 (by kernel_rfl) c0 (fun hHeld => ?_)
                refine wpAnyK_take (i := 0) (v := .pointer (some ⟨b6, 0, none⟩)) rfl (by kernel_rfl) (by kernel_rfl) (by kernel_rfl) (by kernel_rfl) (fun _ _ _ h => h) (Or.inl ⟨by rfl, fun w hSw => by go_simp⟩) hHeld ?_
                simp only [List.getElem_toArray, List.getElem_cons_zero, Act.put, List.setIfInBounds_toArray, List.set_cons_zero, List.set_cons_succ]
                refine wpAnyK_take (i := 1) (v := .int .i64 e'.kd) rfl (by kernel_rfl) (by kernel_rfl) (by kernel_rfl) (by kernel_rfl) (fun _ _ _ h => h) (Or.inl ⟨by rfl, fun w hSw => by go_simp⟩) hHeld ?_
                simp only [List.getElem_toArray, List.getElem_cons_zero, List.getElem_cons_succ, Act.put, List.setIfInBounds_toArray, List.set_cons_zero, List.set_cons_succ]
                refine wpAnyK_take (i := 2) (v := .bool false) rfl (by kernel_rfl) (by kernel_rfl) (by kernel_rfl) (by kernel_rfl) (fun _ _ _ h => h) (Or.inl ⟨by rfl, fun w hSw => by go_simp⟩) hHeld ?_
                simp only [List.getElem_toArray, List.getElem_cons_zero, List.getElem_cons_succ, Act.put, List.setIfInBounds_toArray, List.set_cons_zero, List.set_cons_succ]
                refine wpAnyK_take (i := 3) (v := .bool false) rfl (by kernel_rfl) (by kernel_rfl) (by kernel_rfl) (by kernel_rfl) (fun _ _ _ h => h) (Or.inl ⟨by rfl, fun w hSw => by go_simp⟩) hHeld ?_
                simp only [List.getElem_toArray, List.getElem_cons_zero, List.getElem_cons_succ, Act.put, List.setIfInBounds_toArray, List.set_cons_zero, List.set_cons_succ]
                refine wpAnyK_take (i := 4) (v := undef) rfl (by kernel_rfl) (by kernel_rfl) (by kernel_rfl) (by kernel_rfl) (fun _ _ _ h => h) (Or.inr ⟨by rfl, rfl⟩) hHeld ?_
                simp only [List.getElem_toArray, List.getElem_cons_zero, List.getElem_cons_succ, Act.put, List.setIfInBounds_toArray, List.set_cons_zero, List.set_cons_succ]
                refine wpAnyK_take (i := 5) (v := undef) rfl (by kernel_rfl) (by kernel_rfl) (by kernel_rfl) (by kernel_rfl) (fun _ _ _ h => h) (Or.inr ⟨by rfl, rfl⟩) hHeld ?_
                simp only [List.getElem_toArray, List.getElem_cons_zero, List.getElem_cons_succ, Act.put, List.setIfInBounds_toArray, List.set_cons_zero, List.set_cons_succ]
                refine wpAnyK_take (i := 6) (v := .bool false) rfl (by kernel_rfl) (by kernel_rfl) (by kernel_rfl) (by kernel_rfl) (fun _ _ _ h => h) (Or.inl ⟨by rfl, fun w hSw => by go_simp⟩) hHeld ?_
                simp only [List.getElem_toArray, List.getElem_cons_zero, List.getElem_cons_succ, Act.put, List.setIfInBounds_toArray, List.set_cons_zero, List.set_cons_succ]
                refine wpAnyK_take (i := 7) (v := .bool false) rfl (by kernel_rfl) (by kernel_rfl) (by kernel_rfl) (by kernel_rfl) (fun _ _ _ h => h) (Or.inl ⟨by rfl, fun w hSw => by go_simp⟩) hHeld ?_
                simp only [List.getElem_toArray, List.getElem_cons_zero, List.getElem_cons_succ, Act.put, List.setIfInBounds_toArray, List.set_cons_zero, List.set_cons_succ]
                refine wpAnyK_take (i := 8) (v := undef) rfl (by kernel_rfl) (by kernel_rfl) (by kernel_rfl) (by kernel_rfl) (fun _ _ _ h => h) (Or.inr ⟨by rfl, rfl⟩) hHeld ?_
                simp only [List.getElem_toArray, List.getElem_cons_zero, List.getElem_cons_succ, Act.put, List.setIfInBounds_toArray, List.set_cons_zero, List.set_cons_succ]
                refine wpAnyK_take (i := 9) (v := undef) rfl (by kernel_rfl) (by kernel_rfl) (by kernel_rfl) (by kernel_rfl) (fun _ _ _ h => h) (Or.inr ⟨by rfl, rfl⟩) hHeld ?_
                simp only [List.getElem_toArray, List.getElem_cons_zero, List.getElem_cons_succ, Act.put, List.setIfInBounds_toArray, List.set_cons_zero, List.set_cons_succ]
                refine wpAnyK_take (i := 10) (v := undef) rfl (by kernel_rfl) (by kernel_rfl) (by kernel_rfl) (by kernel_rfl) (fun _ _ _ h => h) (Or.inr ⟨by rfl, rfl⟩) hHeld ?_
                simp only [List.getElem_toArray, List.getElem_cons_zero, List.getElem_cons_succ, Act.put, List.setIfInBounds_toArray, List.set_cons_zero, List.set_cons_succ]
                refine wpAnyK_take (i := 11) (v := undef) rfl (by kernel_rfl) (by kernel_rfl) (by kernel_rfl) (by kernel_rfl) (fun _ _ _ h => h) (Or.inr ⟨by rfl, rfl⟩) hHeld ?_
                simp only [List.getElem_toArray, List.getElem_cons_zero, List.getElem_cons_succ, Act.put, List.setIfInBounds_toArray, List.set_cons_zero, List.set_cons_succ]
                refine wpAnyK_take (i := 12) (v := undef) rfl (by kernel_rfl) (by kernel_rfl) (by kernel_rfl) (by kernel_rfl) (fun _ _ _ h => h) (Or.inr ⟨by rfl, rfl⟩) hHeld ?_
                simp only [List.getElem_toArray, List.getElem_cons_zero, List.getElem_cons_succ, Act.put, List.setIfInBounds_toArray, List.set_cons_zero, List.set_cons_succ]
                refine wpAnyK_take (i := 13) (v := undef) rfl (by kernel_rfl) (by kernel_rfl) (by kernel_rfl) (by kernel_rfl) (fun _ _ _ h => h) (Or.inr ⟨by rfl, rfl⟩) hHeld ?_
                simp only [List.getElem_toArray, List.getElem_cons_zero, List.getElem_cons_succ, Act.put, List.setIfInBounds_toArray, List.set_cons_zero, List.set_cons_succ]
                refine wpAnyK_take (i := 14) (v := .bool false) rfl (by kernel_rfl) (by kernel_rfl) (by kernel_rfl) (by kernel_rfl) (fun _ _ _ h => h) (Or.inl ⟨by rfl, fun w hSw => by go_simp⟩) hHeld ?_
                simp only [List.getElem_toArray, List.getElem_cons_zero, List.getElem_cons_succ, Act.put, List.setIfInBounds_toArray, List.set_cons_zero, List.set_cons_succ]
                refine wpAnyK_take (i := 15) (v := .bool false) rfl (by kernel_rfl) (by kernel_rfl) (by kernel_rfl) (by kernel_rfl) (fun _ _ _ h => h) (Or.inl ⟨by rfl, fun w hSw => by go_simp⟩) hHeld ?_
                simp only [List.getElem_toArray, List.getElem_cons_zero, List.getElem_cons_succ, Act.put, List.setIfInBounds_toArray, List.set_cons_zero, List.set_cons_succ]
                refine wpAnyK_take (i := 16) (v := undef) rfl (by kernel_rfl) (by kernel_rfl) (by kernel_rfl) (by kernel_rfl) (fun _ _ _ h => h) (Or.inr ⟨by rfl, rfl⟩) hHeld ?_
                simp only [List.getElem_toArray, List.getElem_cons_zero, List.getElem_cons_succ, Act.put, List.setIfInBounds_toArray, List.set_cons_zero, List.set_cons_succ]
                refine wpAnyK_take (i := 17) (v := undef) rfl (by kernel_rfl) (by kernel_rfl) (by kernel_rfl) (by kernel_rfl) (fun _ _ _ h => h) (Or.inr ⟨by rfl, rfl⟩) hHeld ?_
                simp only [List.getElem_toArray, List.getElem_cons_zero, List.getElem_cons_succ, Act.put, List.setIfInBounds_toArray, List.set_cons_zero, List.set_cons_succ]
                refine wpAnyK_take (i := 18) (v := undef) rfl (by kernel_rfl) (by kernel_rfl) (by kernel_rfl) (by kernel_rfl) (fun _ _ _ h => h) (Or.inr ⟨by rfl, rfl⟩) hHeld ?_
                simp only [List.getElem_toArray, List.getElem_cons_zero, List.getElem_cons_succ, Act.put, List.setIfInBounds_toArray, List.set_cons_zero, List.set_cons_succ]
                refine wpAnyK_take (i := 19) (v := undef) rfl (by kernel_rfl) (by kernel_rfl) (by kernel_rfl) (by kernel_rfl) (fun _ _ _ h => h) (Or.inr ⟨by rfl, rfl⟩) hHeld ?_
                simp only [List.getElem_toArray, List.getElem_cons_zero, List.getElem_cons_succ, Act.put, List.setIfInBounds_toArray, List.set_cons_zero, List.set_cons_succ]
                refine wpAnyK_take (i := 20) (v := undef) rfl (by kernel_rfl) (by kernel_rfl) (by kernel_rfl) (by kernel_rfl) (fun _ _ _ h => h) (Or.inr ⟨by rfl, rfl⟩) hHeld ?_
                simp only [List.getElem_toArray, List.getElem_cons_zero, List.getElem_cons_succ, Act.put, List.setIfInBounds_toArray, List.set_cons_zero, List.set_cons_succ]
                refine wpAnyK_take (i := 21) (v := undef) rfl (by kernel_rfl) (by kernel_rfl) (by kernel_rfl) (by kernel_rfl) (fun _ _ _ h => h) (Or.inr ⟨by rfl, rfl⟩) hHeld ?_
                simp only [List.getElem_toArray, List.getElem_cons_zero, List.getElem_cons_succ, Act.put, List.setIfInBounds_toArray, List.set_cons_zero, List.set_cons_succ]
                refine wpAnyK_take (i := 22) (v := undef) rfl (by kernel_rfl) (by kernel_rfl) (by kernel_rfl) (by kernel_rfl) (fun _ _ _ h => h) (Or.inr ⟨by rfl, rfl⟩) hHeld ?_
                simp only [List.getElem_toArray, List.getElem_cons_zero, List.getElem_cons_succ, Act.put, List.setIfInBounds_toArray, List.set_cons_zero, List.set_cons_succ]
                refine wpAnyK_take (i := 23) (v := undef) rfl (by kernel_rfl) (by kernel_rfl) (by kernel_rfl) (by kernel_rfl) (fun _ _ _ h => h) (Or.inr ⟨by rfl, rfl⟩) hHeld ?_
                simp only [List.getElem_toArray, List.getElem_cons_zero, List.getElem_cons_succ, Act.put, List.setIfInBounds_toArray, List.set_cons_zero, List.set_cons_succ]
                refine wpAnyK_take (i := 24) (v := .bool false) rfl (by kernel_rfl) (by kernel_rfl) (by kernel_rfl) (by kernel_rfl) (fun _ _ _ h => h) (Or.inl ⟨by rfl, fun w hSw => by go_simp⟩) hHeld ?_
                simp only [List.getElem_toArray, List.getElem_cons_zero, List.getElem_cons_succ, Act.put, List.setIfInBounds_toArray, List.set_cons_zero, List.set_cons_succ]
                refine wpAnyK_done (by kernel_rfl) ?_ _
                go_wp2_with fail
                go_meet
                case rel => exact ⟨rfl, false, rfl, nofun, fun _ x => hk3 x.1⟩
              rw [hk3] at c0
              by_cases hLc : L = []
              · have HNM : Hid (¬ (e'.kd = 3 ∧ ∃ y, (L.map (·.1)).getLast? = some y ∧ y.kd = 3 ∧ y.st = e'.st)) := fun x => by
                  obtain ⟨_, y, y1, _⟩ := x
                  rw [hLc] at y1
                  cases y1
                have hlm : ¬ (0 : Int) ≤ lst := by have := HLS.out; rw [hLc] at this; simp at this; omega
                clear c14 c15 hLc
                refine plain_region16 (fun V => V.cell? ⟨b6, 0, none⟩ = some (.int .i64 3)) 25 (by kernel_rfl) c0 (fun hHeld => ?_)
                refine wpAnyK_take (i := 0) (v := .pointer (some ⟨b6, 0, none⟩)) rfl (by kernel_rfl) (by kernel_rfl) (by kernel_rfl) (by kernel_rfl) (fun _ _ _ h => h) (Or.inl ⟨by rfl, fun w hSw => by go_simp⟩) hHeld ?_
                simp only [List.getElem_toArray, List.getElem_cons_zero, Act.put, List.setIfInBounds_toArray, List.set_cons_zero, List.set_cons_succ]
                refine wpAnyK_take (i := 1) (v := .int .i64 3) rfl (by kernel_rfl) (by kernel_rfl) (by kernel_rfl) (by kernel_rfl) (fun _ _ _ h => h) (Or.inl ⟨by rfl, fun w hSw => by go_simp⟩) hHeld ?_
                simp only [List.getElem_toArray, List.getElem_cons_zero, List.getElem_cons_succ, Act.put, List.setIfInBounds_toArray, List.set_cons_zero, List.set_cons_succ]
                refine wpAnyK_take (i := 2) (v := .bool true) rfl (by kernel_rfl) (by kernel_rfl) (by kernel_rfl) (by kernel_rfl) (fun _ _ _ h => h) (Or.inl ⟨by rfl, fun w hSw => by go_simp⟩) hHeld ?_
                simp only [List.getElem_toArray, List.getElem_cons_zero, List.getElem_cons_succ, Act.put, List.setIfInBounds_toArray, List.set_cons_zero, List.set_cons_succ]
                refine wpAnyK_take (i := 3) (v := .bool true) rfl (by kernel_rfl) (by kernel_rfl) (by kernel_rfl) (by kernel_rfl) (fun _ _ _ h => h) (Or.inl ⟨by rfl, fun w hSw => by go_simp⟩) hHeld ?_
                simp only [List.getElem_toArray, List.getElem_cons_zero, List.getElem_cons_succ, Act.put, List.setIfInBounds_toArray, List.set_cons_zero, List.set_cons_succ]
                refine wpAnyK_take (i := 4) (v := .int .i64 lst) rfl (by kernel_rfl) (by kernel_rfl) (by kernel_rfl) (by kernel_rfl) (fun _ _ _ h => h) (Or.inl ⟨by rfl, fun w hSw => by go_simp⟩) hHeld ?_
                simp only [List.getElem_toArray, List.getElem_cons_zero, List.getElem_cons_succ, Act.put, List.setIfInBounds_toArray, List.set_cons_zero, List.set_cons_succ]
                refine wpAnyK_take (i := 5) (v := .bool false) rfl (by kernel_rfl) (by kernel_rfl) (by kernel_rfl) (by kernel_rfl) (fun _ _ _ h => h) (Or.inl ⟨by rfl, fun w hSw => by go_simp⟩) hHeld ?_
                simp only [List.getElem_toArray, List.getElem_cons_zero, List.getElem_cons_succ, Act.put, List.setIfInBounds_toArray, List.set_cons_zero, List.set_cons_succ]
                refine wpAnyK_take (i := 6) (v := .bool false) rfl (by kernel_rfl) (by kernel_rfl) (by kernel_rfl) (by kernel_rfl) (fun _ _ _ h => h) (Or.inl ⟨by rfl, fun w hSw => by go_simp⟩) hHeld ?_
                simp only [List.getElem_toArray, List.getElem_cons_zero, List.getElem_cons_succ, Act.put, List.setIfInBounds_toArray, List.set_cons_zero, List.set_cons_succ]
                refine wpAnyK_take (i := 7) (v := .bool false) rfl (by kernel_rfl) (by kernel_rfl) (by kernel_rfl) (by kernel_rfl) (fun _ _ _ h => h) (Or.inl ⟨by rfl, fun w hSw => by go_simp⟩) hHeld ?_
                simp only [List.getElem_toArray, List.getElem_cons_zero, List.getElem_cons_succ, Act.put, List.setIfInBounds_toArray, List.set_cons_zero, List.set_cons_succ]
                refine wpAnyK_take (i := 8) (v := undef) rfl (by kernel_rfl) (by kernel_rfl) (by kernel_rfl) (by kernel_rfl) (fun _ _ _ h => h) (Or.inr ⟨by rfl, rfl⟩) hHeld ?_
                simp only [List.getElem_toArray, List.getElem_cons_zero, List.getElem_cons_succ, Act.put, List.setIfInBounds_toArray, List.set_cons_zero, List.set_cons_succ]
                refine wpAnyK_take (i := 9) (v := undef) rfl (by kernel_rfl) (by kernel_rfl) (by kernel_rfl) (by kernel_rfl) (fun _ _ _ h => h) (Or.inr ⟨by rfl, rfl⟩) hHeld ?_
                simp only [List.getElem_toArray, List.getElem_cons_zero, List.getElem_cons_succ, Act.put, List.setIfInBounds_toArray, List.set_cons_zero, List.set_cons_succ]
                refine wpAnyK_take (i := 10) (v := undef) rfl (by kernel_rfl) (by kernel_rfl) (by kernel_rfl) (by kernel_rfl) (fun _ _ _ h => h) (Or.inr ⟨by rfl, rfl⟩) hHeld ?_
                simp only [List.getElem_toArray, List.getElem_cons_zero, List.getElem_cons_succ, Act.put, List.setIfInBounds_toArray, List.set_cons_zero, List.set_cons_succ]
                refine wpAnyK_take (i := 11) (v := undef) rfl (by kernel_rfl) (by kernel_rfl) (by kernel_rfl) (by kernel_rfl) (fun _ _ _ h => h) (Or.inr ⟨by rfl, rfl⟩) hHeld ?_
                simp only [List.getElem_toArray, List.getElem_cons_zero, List.getElem_cons_succ, Act.put, List.setIfInBounds_toArray, List.set_cons_zero, List.set_cons_succ]
                refine wpAnyK_take (i := 12) (v := undef) rfl (by kernel_rfl) (by kernel_rfl) (by kernel_rfl) (by kernel_rfl) (fun _ _ _ h => h) (Or.inr ⟨by rfl, rfl⟩) hHeld ?_
                simp only [List.getElem_toArray, List.getElem_cons_zero, List.getElem_cons_succ, Act.put, List.setIfInBounds_toArray, List.set_cons_zero, List.set_cons_succ]
                refine wpAnyK_take (i := 13) (v := undef) rfl (by kernel_rfl) (by kernel_rfl) (by kernel_rfl) (by kernel_rfl) (fun _ _ _ h => h) (Or.inr ⟨by rfl, rfl⟩) hHeld ?_
                simp only [List.getElem_toArray, List.getElem_cons_zero, List.getElem_cons_succ, Act.put, List.setIfInBounds_toArray, List.set_cons_zero, List.set_cons_succ]
                refine wpAnyK_take (i := 14) (v := .bool false) rfl (by kernel_rfl) (by kernel_rfl) (by kernel_rfl) (by kernel_rfl) (fun _ _ _ h => h) (Or.inl ⟨by rfl, fun w hSw => by go_simp⟩) hHeld ?_
                simp only [List.getElem_toArray, List.getElem_cons_zero, List.getElem_cons_succ, Act.put, List.setIfInBounds_toArray, List.set_cons_zero, List.set_cons_succ]
                refine wpAnyK_take (i := 15) (v := .bool false) rfl (by kernel_rfl) (by kernel_rfl) (by kernel_rfl) (by kernel_rfl) (fun _ _ _ h => h) (Or.inl ⟨by rfl, fun w hSw => by go_simp⟩) hHeld ?_
                simp only [List.getElem_toArray, List.getElem_cons_zero, List.getElem_cons_succ, Act.put, List.setIfInBounds_toArray, List.set_cons_zero, List.set_cons_succ]
                refine wpAnyK_take (i := 16) (v := undef) rfl (by kernel_rfl) (by kernel_rfl) (by kernel_rfl) (by kernel_rfl) (fun _ _ _ h => h) (Or.inr ⟨by rfl, rfl⟩) hHeld ?_
                simp only [List.getElem_toArray, List.getElem_cons_zero, List.getElem_cons_succ, Act.put, List.setIfInBounds_toArray, List.set_cons_zero, List.set_cons_succ]
                refine wpAnyK_take (i := 17) (v := undef) rfl (by kernel_rfl) (by kernel_rfl) (by kernel_rfl) (by kernel_rfl) (fun _ _ _ h => h) (Or.inr ⟨by rfl, rfl⟩) hHeld ?_
                simp only [List.getElem_toArray, List.getElem_cons_zero, List.getElem_cons_succ, Act.put, List.setIfInBounds_toArray, List.set_cons_zero, List.set_cons_succ]
                refine wpAnyK_take (i := 18) (v := undef) rfl (by kernel_rfl) (by kernel_rfl) (by kernel_rfl) (by kernel_rfl) (fun _ _ _ h => h) (Or.inr ⟨by rfl, rfl⟩) hHeld ?_
                simp only [List.getElem_toArray, List.getElem_cons_zero, List.getElem_cons_succ, Act.put, List.setIfInBounds_toArray, List.set_cons_zero, List.set_cons_succ]
                refine wpAnyK_take (i := 19) (v := undef) rfl (by kernel_rfl) (by kernel_rfl) (by kernel_rfl) (by kernel_rfl) (fun _ _ _ h => h) (Or.inr ⟨by rfl, rfl⟩) hHeld ?_
                simp only [List.getElem_toArray, List.getElem_cons_zero, List.getElem_cons_succ, Act.put, List.setIfInBounds_toArray, List.set_cons_zero, List.set_cons_succ]
                refine wpAnyK_take (i := 20) (v := undef) rfl (by kernel_rfl) (by kernel_rfl) (by kernel_rfl) (by kernel_rfl) (fun _ _ _ h => h) (Or.inr ⟨by rfl, rfl⟩) hHeld ?_
                simp only [List.getElem_toArray, List.getElem_cons_zero, List.getElem_cons_succ, Act.put, List.setIfInBounds_toArray, List.set_cons_zero, List.set_cons_succ]
                refine wpAnyK_take (i := 21) (v := undef) rfl (by kernel_rfl) (by kernel_rfl) (by kernel_rfl) (by kernel_rfl) (fun _ _ _ h => h) (Or.inr ⟨by rfl, rfl⟩) hHeld ?_
                simp only [List.getElem_toArray, List.getElem_cons_zero, List.getElem_cons_succ, Act.put, List.setIfInBounds_toArray, List.set_cons_zero, List.set_cons_succ]
                refine wpAnyK_take (i := 22) (v := undef) rfl (by kernel_rfl) (by kernel_rfl) (by kernel_rfl) (by kernel_rfl) (fun _ _ _ h => h) (Or.inr ⟨by rfl, rfl⟩) hHeld ?_
                simp only [List.getElem_toArray, List.getElem_cons_zero, List.getElem_cons_succ, Act.put, List.setIfInBounds_toArray, List.set_cons_zero, List.set_cons_succ]
                refine wpAnyK_take (i := 23) (v := undef) rfl (by kernel_rfl) (by kernel_rfl) (by kernel_rfl) (by kernel_rfl) (fun _ _ _ h => h) (Or.inr ⟨by rfl, rfl⟩) hHeld ?_
                simp only [List.getElem_toArray, List.getElem_cons_zero, List.getElem_cons_succ, Act.put, List.setIfInBounds_toArray, List.set_cons_zero, List.set_cons_succ]
                refine wpAnyK_take (i := 24) (v := .bool false) rfl (by kernel_rfl) (by kernel_rfl) (by kernel_rfl) (by kernel_rfl) (fun _ _ _ h => h) (Or.inl ⟨by rfl, fun w hSw => by go_simp⟩) hHeld ?_
                simp only [List.getElem_toArray, List.getElem_cons_zero, List.getElem_cons_succ, Act.put, List.setIfInBounds_toArray, List.set_cons_zero, List.set_cons_succ]
                refine wpAnyK_done (by kernel_rfl) ?_ _
                go_wp2_with fail
                go_meet
                case rel => exact ⟨rfl, false, rfl, nofun, fun _ => HNM.out⟩
              obtain ⟨M, y0, hML⟩ := List.eq_nil_or_concat L |>.resolve_left hLc
              obtain ⟨y, py, cy⟩ := y0
              obtain ⟨ml, hml⟩ : ∃ ml, ml = M.length := ⟨_, rfl⟩
              have hLl : L.length = ml + 1 := by rw [hML, hml]; simp
              obtain rfl : lst = (ml : Int) := by have := HLS.out; omega
              have HML : Hid (L = M ++ [(y, py, cy)] ∧ M.length = ml ∧ L.length = ml + 1) := ⟨by rw [hML]; simp, hml.symm, hLl⟩
              have hgt : L[ml]? = some (y, py, cy) := by rw [hML, hml]; simp
              obtain ⟨g, cg, hvg, hcg⟩ := H6.out.1.row hgt
              injection hvg with e1 e2 e3
              subst e1
              subst e3
              have f0 : w6.cell? ⟨g, ml * 16, none⟩ = some (.int .i64 y.kd) := hcg 0 (by omega)
              have f14 : w6.cell? ⟨g, ml * 16 + 14, none⟩ = some (.int .i64 y.st) := hcg 14 (by omega)
              have f15 : w6.cell? ⟨g, ml * 16 + 15, none⟩ = some (.slice py y.bs.length cy) := hcg 15 (by omega)
              have u1 : (0 : Int) ≤ (ml : Int) := by omega
              have u2 : (ml : Int) < (L.length : Int) := by omega
              have u3 : ml < L.length := by omega
              have u4 : ¬ (ml : Int) < 0 := by omega
              clear hcg hgt hml hML hLl hLc e2
              by_cases hy3 : y.kd = 3
              rotate_left
              · have HNM : Hid (¬ (e'.kd = 3 ∧ ∃ y, (L.map (·.1)).getLast? = some y ∧ y.kd = 3 ∧ y.st = e'.st)) := fun x => by
                  obtain ⟨_, y', y1, y2, _⟩ := x
                  rw [HML.out.1] at y1
                  simp at y1
                  rw [y1] at hy3
                  exact hy3 y2
                clear c14 c15 f14 f15
                refine plain_region16 (fun V => V.cell? ⟨b6, 0, none⟩ = some (.int .i64 3) ∧ V.cell? ⟨g, ml * 16, none⟩ = some (.int .i64 y.kd)) 25 (by kernel_rfl) ⟨c0, f0⟩ (fun hHeld => ?_)
                refine wpAnyK_take (i := 0) (v := .pointer (some ⟨b6, 0, none⟩)) rfl (by kernel_rfl) (by kernel_rfl) (by kernel_rfl) (by kernel_rfl) (fun _ _ _ h => h) (Or.inl ⟨by rfl, fun w hSw => by go_simp⟩) hHeld ?_
                simp only [List.getElem_toArray, List.getElem_cons_zero, Act.put, List.setIfInBounds_toArray, List.set_cons_zero, List.set_cons_succ]
                refine wpAnyK_take (i := 1) (v := .int .i64 3) rfl (by kernel_rfl) (by kernel_rfl) (by kernel_rfl) (by kernel_rfl) (fun _ _ _ h => h) (Or.inl ⟨by rfl, fun w hSw => by go_simp⟩) hHeld ?_
                simp only [List.getElem_toArray, List.getElem_cons_zero, List.getElem_cons_succ, Act.put, List.setIfInBounds_toArray, List.set_cons_zero, List.set_cons_succ]
                refine wpAnyK_take (i := 2) (v := .bool true) rfl (by kernel_rfl) (by kernel_rfl) (by kernel_rfl) (by kernel_rfl) (fun _ _ _ h => h) (Or.inl ⟨by rfl, fun w hSw => by go_simp⟩) hHeld ?_
                simp only [List.getElem_toArray, List.getElem_cons_zero, List.getElem_cons_succ, Act.put, List.setIfInBounds_toArray, List.set_cons_zero, List.set_cons_succ]
                refine wpAnyK_take (i := 3) (v := .bool true) rfl (by kernel_rfl) (by kernel_rfl) (by kernel_rfl) (by kernel_rfl) (fun _ _ _ h => h) (Or.inl ⟨by rfl, fun w hSw => by go_simp⟩) hHeld ?_
                simp only [List.getElem_toArray, List.getElem_cons_zero, List.getElem_cons_succ, Act.put, List.setIfInBounds_toArray, List.set_cons_zero, List.set_cons_succ]
                refine wpAnyK_take (i := 4) (v := .int .i64 (ml : Int)) rfl (by kernel_rfl) (by kernel_rfl) (by kernel_rfl) (by kernel_rfl) (fun _ _ _ h => h) (Or.inl ⟨by rfl, fun w hSw => by go_simp⟩) hHeld ?_
                simp only [List.getElem_toArray, List.getElem_cons_zero, List.getElem_cons_succ, Act.put, List.setIfInBounds_toArray, List.set_cons_zero, List.set_cons_succ]
                refine wpAnyK_take (i := 5) (v := .bool true) rfl (by kernel_rfl) (by kernel_rfl) (by kernel_rfl) (by kernel_rfl) (fun _ _ _ h => h) (Or.inl ⟨by rfl, fun w hSw => by go_simp⟩) hHeld ?_
                simp only [List.getElem_toArray, List.getElem_cons_zero, List.getElem_cons_succ, Act.put, List.setIfInBounds_toArray, List.set_cons_zero, List.set_cons_succ]
                refine wpAnyK_take (i := 6) (v := .bool true) rfl (by kernel_rfl) (by kernel_rfl) (by kernel_rfl) (by kernel_rfl) (fun _ _ _ h => h) (Or.inl ⟨by rfl, fun w hSw => by go_simp⟩) hHeld ?_
                simp only [List.getElem_toArray, List.getElem_cons_zero, List.getElem_cons_succ, Act.put, List.setIfInBounds_toArray, List.set_cons_zero, List.set_cons_succ]
                refine wpAnyK_take (i := 7) (v := .bool true) rfl (by kernel_rfl) (by kernel_rfl) (by kernel_rfl) (by kernel_rfl) (fun _ _ _ h => h) (Or.inl ⟨by rfl, fun w hSw => by go_simp⟩) hHeld ?_
                simp only [List.getElem_toArray, List.getElem_cons_zero, List.getElem_cons_succ, Act.put, List.setIfInBounds_toArray, List.set_cons_zero, List.set_cons_succ]
                refine wpAnyK_take (i := 8) (v := .slice (some ⟨g, 0, none⟩) L.length cL) rfl (by kernel_rfl) (by kernel_rfl) (by kernel_rfl) (by kernel_rfl) (fun _ _ _ h => h) (Or.inl ⟨by rfl, fun w hSw => by go_simp⟩) hHeld ?_
                simp only [List.getElem_toArray, List.getElem_cons_zero, List.getElem_cons_succ, Act.put, List.setIfInBounds_toArray, List.set_cons_zero, List.set_cons_succ]
                refine wpAnyK_take (i := 9) (v := .int .i64 (ml : Int)) rfl (by kernel_rfl) (by kernel_rfl) (by kernel_rfl) (by kernel_rfl) (fun _ _ _ h => h) (Or.inl ⟨by rfl, fun w hSw => by go_simp⟩) hHeld ?_
                simp only [List.getElem_toArray, List.getElem_cons_zero, List.getElem_cons_succ, Act.put, List.setIfInBounds_toArray, List.set_cons_zero, List.set_cons_succ]
                refine wpAnyK_take (i := 10) (v := .pointer (some ⟨g, ml * 16, none⟩)) rfl (by kernel_rfl) (by kernel_rfl) (by kernel_rfl) (by kernel_rfl) (fun _ _ _ h => h) (Or.inl ⟨by rfl, fun w hSw => by go_simp⟩) hHeld ?_
                simp only [List.getElem_toArray, List.getElem_cons_zero, List.getElem_cons_succ, Act.put, List.setIfInBounds_toArray, List.set_cons_zero, List.set_cons_succ]
                refine wpAnyK_take (i := 11) (v := .pointer (some ⟨g, ml * 16, none⟩)) rfl (by kernel_rfl) (by kernel_rfl) (by kernel_rfl) (by kernel_rfl) (fun _ _ _ h => h) (Or.inl ⟨by rfl, fun w hSw => by go_simp⟩) hHeld ?_
                simp only [List.getElem_toArray, List.getElem_cons_zero, List.getElem_cons_succ, Act.put, List.setIfInBounds_toArray, List.set_cons_zero, List.set_cons_succ]
                refine wpAnyK_take (i := 12) (v := .int .i64 y.kd) rfl (by kernel_rfl) (by kernel_rfl) (by kernel_rfl) (by kernel_rfl) (fun _ _ _ h => h) (Or.inl ⟨by rfl, fun w hSw => by go_simp⟩) hHeld ?_
                simp only [List.getElem_toArray, List.getElem_cons_zero, List.getElem_cons_succ, Act.put, List.setIfInBounds_toArray, List.set_cons_zero, List.set_cons_succ]
                refine wpAnyK_take (i := 13) (v := .bool false) rfl (by kernel_rfl) (by kernel_rfl) (by kernel_rfl) (by kernel_rfl) (fun _ _ _ h => h) (Or.inl ⟨by rfl, fun w hSw => by go_simp⟩) hHeld ?_
                simp only [List.getElem_toArray, List.getElem_cons_zero, List.getElem_cons_succ, Act.put, List.setIfInBounds_toArray, List.set_cons_zero, List.set_cons_succ]
                refine wpAnyK_take (i := 14) (v := .bool false) rfl (by kernel_rfl) (by kernel_rfl) (by kernel_rfl) (by kernel_rfl) (fun _ _ _ h => h) (Or.inl ⟨by rfl, fun w hSw => by go_simp⟩) hHeld ?_
                simp only [List.getElem_toArray, List.getElem_cons_zero, List.getElem_cons_succ, Act.put, List.setIfInBounds_toArray, List.set_cons_zero, List.set_cons_succ]
                refine wpAnyK_take (i := 15) (v := .bool false) rfl (by kernel_rfl) (by kernel_rfl) (by kernel_rfl) (by kernel_rfl) (fun _ _ _ h => h) (Or.inl ⟨by rfl, fun w hSw => by go_simp⟩) hHeld ?_
                simp only [List.getElem_toArray, List.getElem_cons_zero, List.getElem_cons_succ, Act.put, List.setIfInBounds_toArray, List.set_cons_zero, List.set_cons_succ]
                refine wpAnyK_take (i := 16) (v := undef) rfl (by kernel_rfl) (by kernel_rfl) (by kernel_rfl) (by kernel_rfl) (fun _ _ _ h => h) (Or.inr ⟨by rfl, rfl⟩) hHeld ?_
                simp only [List.getElem_toArray, List.getElem_cons_zero, List.getElem_cons_succ, Act.put, List.setIfInBounds_toArray, List.set_cons_zero, List.set_cons_succ]
                refine wpAnyK_take (i := 17) (v := undef) rfl (by kernel_rfl) (by kernel_rfl) (by kernel_rfl) (by kernel_rfl) (fun _ _ _ h => h) (Or.inr ⟨by rfl, rfl⟩) hHeld ?_
                simp only [List.getElem_toArray, List.getElem_cons_zero, List.getElem_cons_succ, Act.put, List.setIfInBounds_toArray, List.set_cons_zero, List.set_cons_succ]
                refine wpAnyK_take (i := 18) (v := undef) rfl (by kernel_rfl) (by kernel_rfl) (by kernel_rfl) (by kernel_rfl) (fun _ _ _ h => h) (Or.inr ⟨by rfl, rfl⟩) hHeld ?_
                simp only [List.getElem_toArray, List.getElem_cons_zero, List.getElem_cons_succ, Act.put, List.setIfInBounds_toArray, List.set_cons_zero, List.set_cons_succ]
                refine wpAnyK_take (i := 19) (v := undef) rfl (by kernel_rfl) (by kernel_rfl) (by kernel_rfl) (by kernel_rfl) (fun _ _ _ h => h) (Or.inr ⟨by rfl, rfl⟩) hHeld ?_
                simp only [List.getElem_toArray, List.getElem_cons_zero, List.getElem_cons_succ, Act.put, List.setIfInBounds_toArray, List.set_cons_zero, List.set_cons_succ]
                refine wpAnyK_take (i := 20) (v := undef) rfl (by kernel_rfl) (by kernel_rfl) (by kernel_rfl) (by kernel_rfl) (fun _ _ _ h => h) (Or.inr ⟨by rfl, rfl⟩) hHeld ?_
                simp only [List.getElem_toArray, List.getElem_cons_zero, List.getElem_cons_succ, Act.put, List.setIfInBounds_toArray, List.set_cons_zero, List.set_cons_succ]
                refine wpAnyK_take (i := 21) (v := undef) rfl (by kernel_rfl) (by kernel_rfl) (by kernel_rfl) (by kernel_rfl) (fun _ _ _ h => h) (Or.inr ⟨by rfl, rfl⟩) hHeld ?_
                simp only [List.getElem_toArray, List.getElem_cons_zero, List.getElem_cons_succ, Act.put, List.setIfInBounds_toArray, List.set_cons_zero, List.set_cons_succ]
                refine wpAnyK_take (i := 22) (v := undef) rfl (by kernel_rfl) (by kernel_rfl) (by kernel_rfl) (by kernel_rfl) (fun _ _ _ h => h) (Or.inr ⟨by rfl, rfl⟩) hHeld ?_
                simp only [List.getElem_toArray, List.getElem_cons_zero, List.getElem_cons_succ, Act.put, List.setIfInBounds_toArray, List.set_cons_zero, List.set_cons_succ]
                refine wpAnyK_take (i := 23) (v := undef) rfl (by kernel_rfl) (by kernel_rfl) (by kernel_rfl) (by kernel_rfl) (fun _ _ _ h => h) (Or.inr ⟨by rfl, rfl⟩) hHeld ?_
                simp only [List.getElem_toArray, List.getElem_cons_zero, List.getElem_cons_succ, Act.put, List.setIfInBounds_toArray, List.set_cons_zero, List.set_cons_succ]
                refine wpAnyK_take (i := 24) (v := .bool false) rfl (by kernel_rfl) (by kernel_rfl) (by kernel_rfl) (by kernel_rfl) (fun _ _ _ h => h) (Or.inl ⟨by rfl, fun w hSw => by go_simp⟩) hHeld ?_
                simp only [List.getElem_toArray, List.getElem_cons_zero, List.getElem_cons_succ, Act.put, List.setIfInBounds_toArray, List.set_cons_zero, List.set_cons_succ]
                refine wpAnyK_done (by kernel_rfl) ?_ _
                go_wp2_with fail
                go_meet
                case rel => exact ⟨rfl, false, rfl, nofun, fun _ => HNM.out⟩
              have HY3 : Hid (y.kd = 3) := hy3
              rw [hy3] at f0
              by_cases hys : y.st = e'.st
              rotate_left
              · have HNM : Hid (¬ (e'.kd = 3 ∧ ∃ y, (L.map (·.1)).getLast? = some y ∧ y.kd = 3 ∧ y.st = e'.st)) := fun x => by
                  obtain ⟨_, y', y1, y2, y3⟩ := x
                  rw [HML.out.1] at y1
                  simp at y1
                  rw [y1] at hys
                  exact hys y3
                clear c15 f15
                refine plain_region16 (fun V => V.cell? ⟨b6, 0, none⟩ = some (.int .i64 3) ∧ V.cell? ⟨g, ml * 16, none⟩ = some (.int .i64 3) ∧ V.cell? ⟨g, ml * 16 + 14, none⟩ = some (.int .i64 y.st) ∧ V.cell? ⟨b6, 14, none⟩ = some (.int .i64 e'.st)) 25 (by kernel_rfl) ⟨c0, f0, f14, c14⟩ (fun hHeld => ?_)
                refine wpAnyK_take (i := 0) (v := .pointer (some ⟨b6, 0, none⟩)) rfl (by kernel_rfl) (by kernel_rfl) (by kernel_rfl) (by kernel_rfl) (fun _ _ _ h => h) (Or.inl ⟨by rfl, fun w hSw => by go_simp⟩) hHeld ?_
                simp only [List.getElem_toArray, List.getElem_cons_zero, Act.put, List.setIfInBounds_toArray, List.set_cons_zero, List.set_cons_succ]
                refine wpAnyK_take (i := 1) (v := .int .i64 3) rfl (by kernel_rfl) (by kernel_rfl) (by kernel_rfl) (by kernel_rfl) (fun _ _ _ h => h) (Or.inl ⟨by rfl, fun w hSw => by go_simp⟩) hHeld ?_
                simp only [List.getElem_toArray, List.getElem_cons_zero, List.getElem_cons_succ, Act.put, List.setIfInBounds_toArray, List.set_cons_zero, List.set_cons_succ]
                refine wpAnyK_take (i := 2) (v := .bool true) rfl (by kernel_rfl) (by kernel_rfl) (by kernel_rfl) (by kernel_rfl) (fun _ _ _ h => h) (Or.inl ⟨by rfl, fun w hSw => by go_simp⟩) hHeld ?_
                simp only [List.getElem_toArray, List.getElem_cons_zero, List.getElem_cons_succ, Act.put, List.setIfInBounds_toArray, List.set_cons_zero, List.set_cons_succ]
                refine wpAnyK_take (i := 3) (v := .bool true) rfl (by kernel_rfl) (by kernel_rfl) (by kernel_rfl) (by kernel_rfl) (fun _ _ _ h => h) (Or.inl ⟨by rfl, fun w hSw => by go_simp⟩) hHeld ?_
                simp only [List.getElem_toArray, List.getElem_cons_zero, List.getElem_cons_succ, Act.put, List.setIfInBounds_toArray, List.set_cons_zero, List.set_cons_succ]
                refine wpAnyK_take (i := 4) (v := .int .i64 (ml : Int)) rfl (by kernel_rfl) (by kernel_rfl) (by kernel_rfl) (by kernel_rfl) (fun _ _ _ h => h) (Or.inl ⟨by rfl, fun w hSw => by go_simp⟩) hHeld ?_
                simp only [List.getElem_toArray, List.getElem_cons_zero, List.getElem_cons_succ, Act.put, List.setIfInBounds_toArray, List.set_cons_zero, List.set_cons_succ]
                refine wpAnyK_take (i := 5) (v := .bool true) rfl (by kernel_rfl) (by kernel_rfl) (by kernel_rfl) (by kernel_rfl) (fun _ _ _ h => h) (Or.inl ⟨by rfl, fun w hSw => by go_simp⟩) hHeld ?_
                simp only [List.getElem_toArray, List.getElem_cons_zero, List.getElem_cons_succ, Act.put, List.setIfInBounds_toArray, List.set_cons_zero, List.set_cons_succ]
                refine wpAnyK_take (i := 6) (v := .bool true) rfl (by kernel_rfl) (by kernel_rfl) (by kernel_rfl) (by kernel_rfl) (fun _ _ _ h => h) (Or.inl ⟨by rfl, fun w hSw => by go_simp⟩) hHeld ?_
                simp only [List.getElem_toArray, List.getElem_cons_zero, List.getElem_cons_succ, Act.put, List.setIfInBounds_toArray, List.set_cons_zero, List.set_cons_succ]
                refine wpAnyK_take (i := 7) (v := .bool true) rfl (by kernel_rfl) (by kernel_rfl) (by kernel_rfl) (by kernel_rfl) (fun _ _ _ h => h) (Or.inl ⟨by rfl, fun w hSw => by go_simp⟩) hHeld ?_
                simp only [List.getElem_toArray, List.getElem_cons_zero, List.getElem_cons_succ, Act.put, List.setIfInBounds_toArray, List.set_cons_zero, List.set_cons_succ]
                refine wpAnyK_take (i := 8) (v := .slice (some ⟨g, 0, none⟩) L.length cL) rfl (by kernel_rfl) (by kernel_rfl) (by kernel_rfl) (by kernel_rfl) (fun _ _ _ h => h) (Or.inl ⟨by rfl, fun w hSw => by go_simp⟩) hHeld ?_
                simp only [List.getElem_toArray, List.getElem_cons_zero, List.getElem_cons_succ, Act.put, List.setIfInBounds_toArray, List.set_cons_zero, List.set_cons_succ]
                refine wpAnyK_take (i := 9) (v := .int .i64 (ml : Int)) rfl (by kernel_rfl) (by kernel_rfl) (by kernel_rfl) (by kernel_rfl) (fun _ _ _ h => h) (Or.inl ⟨by rfl, fun w hSw => by go_simp⟩) hHeld ?_
                simp only [List.getElem_toArray, List.getElem_cons_zero, List.getElem_cons_succ, Act.put, List.setIfInBounds_toArray, List.set_cons_zero, List.set_cons_succ]
                refine wpAnyK_take (i := 10) (v := .pointer (some ⟨g, ml * 16, none⟩)) rfl (by kernel_rfl) (by kernel_rfl) (by kernel_rfl) (by kernel_rfl) (fun _ _ _ h => h) (Or.inl ⟨by rfl, fun w hSw => by go_simp⟩) hHeld ?_
                simp only [List.getElem_toArray, List.getElem_cons_zero, List.getElem_cons_succ, Act.put, List.setIfInBounds_toArray, List.set_cons_zero, List.set_cons_succ]
                refine wpAnyK_take (i := 11) (v := .pointer (some ⟨g, ml * 16, none⟩)) rfl (by kernel_rfl) (by kernel_rfl) (by kernel_rfl) (by kernel_rfl) (fun _ _ _ h => h) (Or.inl ⟨by rfl, fun w hSw => by go_simp⟩) hHeld ?_
                simp only [List.getElem_toArray, List.getElem_cons_zero, List.getElem_cons_succ, Act.put, List.setIfInBounds_toArray, List.set_cons_zero, List.set_cons_succ]
                refine wpAnyK_take (i := 12) (v := .int .i64 3) rfl (by kernel_rfl) (by kernel_rfl) (by kernel_rfl) (by kernel_rfl) (fun _ _ _ h => h) (Or.inl ⟨by rfl, fun w hSw => by go_simp⟩) hHeld ?_
                simp only [List.getElem_toArray, List.getElem_cons_zero, List.getElem_cons_succ, Act.put, List.setIfInBounds_toArray, List.set_cons_zero, List.set_cons_succ]
                refine wpAnyK_take (i := 13) (v := .bool true) rfl (by kernel_rfl) (by kernel_rfl) (by kernel_rfl) (by kernel_rfl) (fun _ _ _ h => h) (Or.inl ⟨by rfl, fun w hSw => by go_simp⟩) hHeld ?_
                simp only [List.getElem_toArray, List.getElem_cons_zero, List.getElem_cons_succ, Act.put, List.setIfInBounds_toArray, List.set_cons_zero, List.set_cons_succ]
                refine wpAnyK_take (i := 14) (v := .bool true) rfl (by kernel_rfl) (by kernel_rfl) (by kernel_rfl) (by kernel_rfl) (fun _ _ _ h => h) (Or.inl ⟨by rfl, fun w hSw => by go_simp⟩) hHeld ?_
                simp only [List.getElem_toArray, List.getElem_cons_zero, List.getElem_cons_succ, Act.put, List.setIfInBounds_toArray, List.set_cons_zero, List.set_cons_succ]
                refine wpAnyK_take (i := 15) (v := .bool true) rfl (by kernel_rfl) (by kernel_rfl) (by kernel_rfl) (by kernel_rfl) (fun _ _ _ h => h) (Or.inl ⟨by rfl, fun w hSw => by go_simp⟩) hHeld ?_
                simp only [List.getElem_toArray, List.getElem_cons_zero, List.getElem_cons_succ, Act.put, List.setIfInBounds_toArray, List.set_cons_zero, List.set_cons_succ]
                refine wpAnyK_take (i := 16) (v := .slice (some ⟨g, 0, none⟩) L.length cL) rfl (by kernel_rfl) (by kernel_rfl) (by kernel_rfl) (by kernel_rfl) (fun _ _ _ h => h) (Or.inl ⟨by rfl, fun w hSw => by go_simp⟩) hHeld ?_
                simp only [List.getElem_toArray, List.getElem_cons_zero, List.getElem_cons_succ, Act.put, List.setIfInBounds_toArray, List.set_cons_zero, List.set_cons_succ]
                refine wpAnyK_take (i := 17) (v := .int .i64 (ml : Int)) rfl (by kernel_rfl) (by kernel_rfl) (by kernel_rfl) (by kernel_rfl) (fun _ _ _ h => h) (Or.inl ⟨by rfl, fun w hSw => by go_simp⟩) hHeld ?_
                simp only [List.getElem_toArray, List.getElem_cons_zero, List.getElem_cons_succ, Act.put, List.setIfInBounds_toArray, List.set_cons_zero, List.set_cons_succ]
                refine wpAnyK_take (i := 18) (v := .pointer (some ⟨g, ml * 16, none⟩)) rfl (by kernel_rfl) (by kernel_rfl) (by kernel_rfl) (by kernel_rfl) (fun _ _ _ h => h) (Or.inl ⟨by rfl, fun w hSw => by go_simp⟩) hHeld ?_
                simp only [List.getElem_toArray, List.getElem_cons_zero, List.getElem_cons_succ, Act.put, List.setIfInBounds_toArray, List.set_cons_zero, List.set_cons_succ]
                refine wpAnyK_take (i := 19) (v := .pointer (some ⟨g, ml * 16 + 14, none⟩)) rfl (by kernel_rfl) (by kernel_rfl) (by kernel_rfl) (by kernel_rfl) (fun _ _ _ h => h) (Or.inl ⟨by rfl, fun w hSw => by go_simp⟩) hHeld ?_
                simp only [List.getElem_toArray, List.getElem_cons_zero, List.getElem_cons_succ, Act.put, List.setIfInBounds_toArray, List.set_cons_zero, List.set_cons_succ]
                refine wpAnyK_take (i := 20) (v := .int .i64 y.st) rfl (by kernel_rfl) (by kernel_rfl) (by kernel_rfl) (by kernel_rfl) (fun _ _ _ h => h) (Or.inl ⟨by rfl, fun w hSw => by go_simp⟩) hHeld ?_
                simp only [List.getElem_toArray, List.getElem_cons_zero, List.getElem_cons_succ, Act.put, List.setIfInBounds_toArray, List.set_cons_zero, List.set_cons_succ]
                refine wpAnyK_take (i := 21) (v := .pointer (some ⟨b6, 14, none⟩)) rfl (by kernel_rfl) (by kernel_rfl) (by kernel_rfl) (by kernel_rfl) (fun _ _ _ h => h) (Or.inl ⟨by rfl, fun w hSw => by go_simp⟩) hHeld ?_
                simp only [List.getElem_toArray, List.getElem_cons_zero, List.getElem_cons_succ, Act.put, List.setIfInBounds_toArray, List.set_cons_zero, List.set_cons_succ]
                refine wpAnyK_take (i := 22) (v := .int .i64 e'.st) rfl (by kernel_rfl) (by kernel_rfl) (by kernel_rfl) (by kernel_rfl) (fun _ _ _ h => h) (Or.inl ⟨by rfl, fun w hSw => by go_simp⟩) hHeld ?_
                simp only [List.getElem_toArray, List.getElem_cons_zero, List.getElem_cons_succ, Act.put, List.setIfInBounds_toArray, List.set_cons_zero, List.set_cons_succ]
                refine wpAnyK_take (i := 23) (v := .bool false) rfl (by kernel_rfl) (by kernel_rfl) (by kernel_rfl) (by kernel_rfl) (fun _ _ _ h => h) (Or.inl ⟨by rfl, fun w hSw => by go_simp⟩) hHeld ?_
                simp only [List.getElem_toArray, List.getElem_cons_zero, List.getElem_cons_succ, Act.put, List.setIfInBounds_toArray, List.set_cons_zero, List.set_cons_succ]
                refine wpAnyK_take (i := 24) (v := .bool false) rfl (by kernel_rfl) (by kernel_rfl) (by kernel_rfl) (by kernel_rfl) (fun _ _ _ h => h) (Or.inl ⟨by rfl, fun w hSw => by go_simp⟩) hHeld ?_
                simp only [List.getElem_toArray, List.getElem_cons_zero, List.getElem_cons_succ, Act.put, List.setIfInBounds_toArray, List.set_cons_zero, List.set_cons_succ]
                refine wpAnyK_done (by kernel_rfl) ?_ _
                go_wp2_with fail
                go_meet
                case rel => exact ⟨rfl, false, rfl, nofun, fun _ => HNM.out⟩
              have HK3 : Hid (e'.kd = 3) := hk3
              have HYS : Hid (y.st = e'.st) := hys
              clear c15 f15
              refine plain_region16 (fun V => V.cell? ⟨b6, 0, none⟩ = some (.int .i64 3) ∧ V.cell? ⟨g, ml * 16, none⟩ = some (.int .i64 3) ∧ V.cell? ⟨g, ml * 16 + 14, none⟩ = some (.int .i64 y.st) ∧ V.cell? ⟨b6, 14, none⟩ = some (.int .i64 e'.st)) 25 (by kernel_rfl) ⟨c0, f0, f14, c14⟩ (fun hHeld => ?_)
              refine wpAnyK_take (i := 0) (v := .pointer (some ⟨b6, 0, none⟩)) rfl (by kernel_rfl) (by kernel_rfl) (by kernel_rfl) (by kernel_rfl) (fun _ _ _ h => h) (Or.inl ⟨by rfl, fun w hSw => by go_simp⟩) hHeld ?_
              simp only [List.getElem_toArray, List.getElem_cons_zero, Act.put, List.setIfInBounds_toArray, List.set_cons_zero, List.set_cons_succ]
              refine wpAnyK_take (i := 1) (v := .int .i64 3) rfl (by kernel_rfl) (by kernel_rfl) (by kernel_rfl) (by kernel_rfl) (fun _ _ _ h => h) (Or.inl ⟨by rfl, fun w hSw => by go_simp⟩) hHeld ?_
              simp only [List.getElem_toArray, List.getElem_cons_zero, List.getElem_cons_succ, Act.put, List.setIfInBounds_toArray, List.set_cons_zero, List.set_cons_succ]
              refine wpAnyK_take (i := 2) (v := .bool true) rfl (by kernel_rfl) (by kernel_rfl) (by kernel_rfl) (by kernel_rfl) (fun _ _ _ h => h) (Or.inl ⟨by rfl, fun w hSw => by go_simp⟩) hHeld ?_
              simp only [List.getElem_toArray, List.getElem_cons_zero, List.getElem_cons_succ, Act.put, List.setIfInBounds_toArray, List.set_cons_zero, List.set_cons_succ]
              refine wpAnyK_take (i := 3) (v := .bool true) rfl (by kernel_rfl) (by kernel_rfl) (by kernel_rfl) (by kernel_rfl) (fun _ _ _ h => h) (Or.inl ⟨by rfl, fun w hSw => by go_simp⟩) hHeld ?_
              simp only [List.getElem_toArray, List.getElem_cons_zero, List.getElem_cons_succ, Act.put, List.setIfInBounds_toArray, List.set_cons_zero, List.set_cons_succ]
              refine wpAnyK_take (i := 4) (v := .int .i64 (ml : Int)) rfl (by kernel_rfl) (by kernel_rfl) (by kernel_rfl) (by kernel_rfl) (fun _ _ _ h => h) (Or.inl ⟨by rfl, fun w hSw => by go_simp⟩) hHeld ?_
              simp only [List.getElem_toArray, List.getElem_cons_zero, List.getElem_cons_succ, Act.put, List.setIfInBounds_toArray, List.set_cons_zero, List.set_cons_succ]
              refine wpAnyK_take (i := 5) (v := .bool true) rfl (by kernel_rfl) (by kernel_rfl) (by kernel_rfl) (by kernel_rfl) (fun _ _ _ h => h) (Or.inl ⟨by rfl, fun w hSw => by go_simp⟩) hHeld ?_
              simp only [List.getElem_toArray, List.getElem_cons_zero, List.getElem_cons_succ, Act.put, List.setIfInBounds_toArray, List.set_cons_zero, List.set_cons_succ]
              refine wpAnyK_take (i := 6) (v := .bool true) rfl (by kernel_rfl) (by kernel_rfl) (by kernel_rfl) (by kernel_rfl) (fun _ _ _ h => h) (Or.inl ⟨by rfl, fun w hSw => by go_simp⟩) hHeld ?_
              simp only [List.getElem_toArray, List.getElem_cons_zero, List.getElem_cons_succ, Act.put, List.setIfInBounds_toArray, List.set_cons_zero, List.set_cons_succ]
              refine wpAnyK_take (i := 7) (v := .bool true) rfl (by kernel_rfl) (by kernel_rfl) (by kernel_rfl) (by kernel_rfl) (fun _ _ _ h => h) (Or.inl ⟨by rfl, fun w hSw => by go_simp⟩) hHeld ?_
              simp only [List.getElem_toArray, List.getElem_cons_zero, List.getElem_cons_succ, Act.put, List.setIfInBounds_toArray, List.set_cons_zero, List.set_cons_succ]
              refine wpAnyK_take (i := 8) (v := .slice (some ⟨g, 0, none⟩) L.length cL) rfl (by kernel_rfl) (by kernel_rfl) (by kernel_rfl) (by kernel_rfl) (fun _ _ _ h => h) (Or.inl ⟨by rfl, fun w hSw => by go_simp⟩) hHeld ?_
              simp only [List.getElem_toArray, List.getElem_cons_zero, List.getElem_cons_succ, Act.put, List.setIfInBounds_toArray, List.set_cons_zero, List.set_cons_succ]
              refine wpAnyK_take (i := 9) (v := .int .i64 (ml : Int)) rfl (by kernel_rfl) (by kernel_rfl) (by kernel_rfl) (by kernel_rfl) (fun _ _ _ h => h) (Or.inl ⟨by rfl, fun w hSw => by go_simp⟩) hHeld ?_
              simp only [List.getElem_toArray, List.getElem_cons_zero, List.getElem_cons_succ, Act.put, List.setIfInBounds_toArray, List.set_cons_zero, List.set_cons_succ]
              refine wpAnyK_take (i := 10) (v := .pointer (some ⟨g, ml * 16, none⟩)) rfl (by kernel_rfl) (by kernel_rfl) (by kernel_rfl) (by kernel_rfl) (fun _ _ _ h => h) (Or.inl ⟨by rfl, fun w hSw => by go_simp⟩) hHeld ?_
              simp only [List.getElem_toArray, List.getElem_cons_zero, List.getElem_cons_succ, Act.put, List.setIfInBounds_toArray, List.set_cons_zero, List.set_cons_succ]
              refine wpAnyK_take (i := 11) (v := .pointer (some ⟨g, ml * 16, none⟩)) rfl (by kernel_rfl) (by kernel_rfl) (by kernel_rfl) (by kernel_rfl) (fun _ _ _ h => h) (Or.inl ⟨by rfl, fun w hSw => by go_simp⟩) hHeld ?_
              simp only [List.getElem_toArray, List.getElem_cons_zero, List.getElem_cons_succ, Act.put, List.setIfInBounds_toArray, List.set_cons_zero, List.set_cons_succ]
              refine wpAnyK_take (i := 12) (v := .int .i64 3) rfl (by kernel_rfl) (by kernel_rfl) (by kernel_rfl) (by kernel_rfl) (fun _ _ _ h => h) (Or.inl ⟨by rfl, fun w hSw => by go_simp⟩) hHeld ?_
              simp only [List.getElem_toArray, List.getElem_cons_zero, List.getElem_cons_succ, Act.put, List.setIfInBounds_toArray, List.set_cons_zero, List.set_cons_succ]
              refine wpAnyK_take (i := 13) (v := .bool true) rfl (by kernel_rfl) (by kernel_rfl) (by kernel_rfl) (by kernel_rfl) (fun _ _ _ h => h) (Or.inl ⟨by rfl, fun w hSw => by go_simp⟩) hHeld ?_
              simp only [List.getElem_toArray, List.getElem_cons_zero, List.getElem_cons_succ, Act.put, List.setIfInBounds_toArray, List.set_cons_zero, List.set_cons_succ]
              refine wpAnyK_take (i := 14) (v := .bool true) rfl (by kernel_rfl) (by kernel_rfl) (by kernel_rfl) (by kernel_rfl) (fun _ _ _ h => h) (Or.inl ⟨by rfl, fun w hSw => by go_simp⟩) hHeld ?_
              simp only [List.getElem_toArray, List.getElem_cons_zero, List.getElem_cons_succ, Act.put, List.setIfInBounds_toArray, List.set_cons_zero, List.set_cons_succ]
              refine wpAnyK_take (i := 15) (v := .bool true) rfl (by kernel_rfl) (by kernel_rfl) (by kernel_rfl) (by kernel_rfl) (fun _ _ _ h => h) (Or.inl ⟨by rfl, fun w hSw => by go_simp⟩) hHeld ?_
              simp only [List.getElem_toArray, List.getElem_cons_zero, List.getElem_cons_succ, Act.put, List.setIfInBounds_toArray, List.set_cons_zero, List.set_cons_succ]
              refine wpAnyK_take (i := 16) (v := .slice (some ⟨g, 0, none⟩) L.length cL) rfl (by kernel_rfl) (by kernel_rfl) (by kernel_rfl) (by kernel_rfl) (fun _ _ _ h => h) (Or.inl ⟨by rfl, fun w hSw => by go_simp⟩) hHeld ?_
              simp only [List.getElem_toArray, List.getElem_cons_zero, List.getElem_cons_succ, Act.put, List.setIfInBounds_toArray, List.set_cons_zero, List.set_cons_succ]
              refine wpAnyK_take (i := 17) (v := .int .i64 (ml : Int)) rfl (by kernel_rfl) (by kernel_rfl) (by kernel_rfl) (by kernel_rfl) (fun _ _ _ h => h) (Or.inl ⟨by rfl, fun w hSw => by go_simp⟩) hHeld ?_
              simp only [List.getElem_toArray, List.getElem_cons_zero, List.getElem_cons_succ, Act.put, List.setIfInBounds_toArray, List.set_cons_zero, List.set_cons_succ]
              refine wpAnyK_take (i := 18) (v := .pointer (some ⟨g, ml * 16, none⟩)) rfl (by kernel_rfl) (by kernel_rfl) (by kernel_rfl) (by kernel_rfl) (fun _ _ _ h => h) (Or.inl ⟨by rfl, fun w hSw => by go_simp⟩) hHeld ?_
              simp only [List.getElem_toArray, List.getElem_cons_zero, List.getElem_cons_succ, Act.put, List.setIfInBounds_toArray, List.set_cons_zero, List.set_cons_succ]
              refine wpAnyK_take (i := 19) (v := .pointer (some ⟨g, ml * 16 + 14, none⟩)) rfl (by kernel_rfl) (by kernel_rfl) (by kernel_rfl) (by kernel_rfl) (fun _ _ _ h => h) (Or.inl ⟨by rfl, fun w hSw => by go_simp⟩) hHeld ?_
              simp only [List.getElem_toArray, List.getElem_cons_zero, List.getElem_cons_succ, Act.put, List.setIfInBounds_toArray, List.set_cons_zero, List.set_cons_succ]
              refine wpAnyK_take (i := 20) (v := .int .i64 y.st) rfl (by kernel_rfl) (by kernel_rfl) (by kernel_rfl) (by kernel_rfl) (fun _ _ _ h => h) (Or.inl ⟨by rfl, fun w hSw => by go_simp⟩) hHeld ?_
              simp only [List.getElem_toArray, List.getElem_cons_zero, List.getElem_cons_succ, Act.put, List.setIfInBounds_toArray, List.set_cons_zero, List.set_cons_succ]
              refine wpAnyK_take (i := 21) (v := .pointer (some ⟨b6, 14, none⟩)) rfl (by kernel_rfl) (by kernel_rfl) (by kernel_rfl) (by kernel_rfl) (fun _ _ _ h => h) (Or.inl ⟨by rfl, fun w hSw => by go_simp⟩) hHeld ?_
              simp only [List.getElem_toArray, List.getElem_cons_zero, List.getElem_cons_succ, Act.put, List.setIfInBounds_toArray, List.set_cons_zero, List.set_cons_succ]
              refine wpAnyK_take (i := 22) (v := .int .i64 e'.st) rfl (by kernel_rfl) (by kernel_rfl) (by kernel_rfl) (by kernel_rfl) (fun _ _ _ h => h) (Or.inl ⟨by rfl, fun w hSw => by go_simp⟩) hHeld ?_
              simp only [List.getElem_toArray, List.getElem_cons_zero, List.getElem_cons_succ, Act.put, List.setIfInBounds_toArray, List.set_cons_zero, List.set_cons_succ]
              refine wpAnyK_take (i := 23) (v := .bool true) rfl (by kernel_rfl) (by kernel_rfl) (by kernel_rfl) (by kernel_rfl) (fun _ _ _ h => h) (Or.inl ⟨by rfl, fun w hSw => by go_simp⟩) hHeld ?_
              simp only [List.getElem_toArray, List.getElem_cons_zero, List.getElem_cons_succ, Act.put, List.setIfInBounds_toArray, List.set_cons_zero, List.set_cons_succ]
              refine wpAnyK_take (i := 24) (v := .bool true) rfl (by kernel_rfl) (by kernel_rfl) (by kernel_rfl) (by kernel_rfl) (fun _ _ _ h => h) (Or.inl ⟨by rfl, fun w hSw => by go_simp⟩) hHeld ?_
              simp only [List.getElem_toArray, List.getElem_cons_zero, List.getElem_cons_succ, Act.put, List.setIfInBounds_toArray, List.set_cons_zero, List.set_cons_succ]
              refine wpAnyK_done (by kernel_rfl) ?_ _
              go_wp2_with fail
              go_meet
              case rel => exact ⟨rfl, true, rfl, fun _ => ⟨HK3.out, M, y, py, cy, HML.out.1, HY3.out, HYS.out⟩, nofun⟩
            case rest =>
              obtain ⟨hwc, cb, rfl, hcT, hcF⟩ := hcut
              subst wc
              obtain ⟨W, hW⟩ : ∃ W, W = w6.drew := ⟨_, rfl⟩
              rw [← hW]
              have bW : Below w6.heap.size w6 W := by rw [hW]; exact (Below.refl _ _).drew
              cases cb with
              | false =>
                have HNM : Hid (¬ (e'.kd = 3 ∧ ∃ y, (L.map (·.1)).getLast? = some y ∧ y.kd = 3 ∧ y.st = e'.st)) := hcF rfl
                clear hcT hcF
                by_cases hk0 : e'.kd = 0
                · have hE : e' = e019 := by
                    rcases HRU.out.ac with x | ⟨x, _⟩ | ⟨_, x, _⟩
                    · exact x
                    · exact absurd hk0 x
                    · have x : e'.kd = 3 := x
                      rw [hk0] at x; cases x
                  obtain ⟨h61, h62, h63, h64, h65⟩ := H6.out
                  have kWr : Kp (fun k => pb ≤ k) wr W := h64.trans (Kp.of_below (S := fun _ => False) bW) (fun _ _ x => x.elim)
                  have BN : Below pb w1 W := HHI.out.bl.trans (kWr.below (fun _ x => x) (Nat.le_of_lt HHI.out.sz))
                  have HN := hidm19 (HHI.out.go n HKN.out.2 (0, kk, s', e') (by rw [← HPC.out]; exact HRU.out) (L' := L) (vL' := .slice pL L.length cL) (by show _ = psh19 _ e'; rw [hE, psh19_none]) HHI.out.ne (h63.old bW) (h61.old bW) (HLW.out.2.old (by rw [HPB.out.1]; exact BN)) kWr)
                  have HLB2 : Hid (∀ x ∈ L, x.1.bs.length ≤ a2) := fun x hx => by have := HLB.out x hx; have := HA2.out; omega
                  rw [hk0] at c0
                  have d0 : W.cell? ⟨b6, 0, none⟩ = some (.int .i64 0) := by rw [hW]; exact c0
                  clear c0 c14 c15 hE h61 h62 h63 h64 h65 kWr BN bW hW
                  go_wp2_with fail
                  exact ⟨⟨_, L, a2, 0, k + 1, _, rfl, by first | rfl | simp, rfl, by first | rfl | simp, fun _ => by have := HK.out.1 trivial; have := HNK.out; have := HA2.out; omega, by have := HK.out.1 trivial; omega, HLB2.out, by rw [HA2.out]; exact HN.out⟩, by simp [intOf]; have := HK.out.1 trivial; have := HM.out; omega⟩
                have HK0 : Hid (e'.kd ≠ 0) := hk0
                have HLB2 : Hid (∀ x ∈ L ++ [(e', p, c)], x.1.bs.length ≤ a2) := fun x hx => by
                  have h2 := HA2.out
                  rcases List.mem_append.1 hx with y | y
                  · have := HLB.out x y; omega
                  · obtain rfl := List.mem_singleton.1 y
                    have h3 : e'.bs.length ≤ kk := HEL.out
                    show e'.bs.length ≤ a2
                    omega
                clear c14 c15
                have hWs : W.heap.size = w6.heap.size := by rw [hW]; rfl
                have hWh : ∀ i : Nat, W.heap[i]? = w6.heap[i]? := fun i => by rw [hW]; rfl
                have HQW : Hid (W.heap[b6]? = some (.cells (e'.cs p c) 39 (0, 0))) := (hWh b6).trans HQ6.out
                have d0 : W.cell? ⟨b6, 0, none⟩ = some (.int .i64 e'.kd) := by rw [hW]; exact c0
                obtain ⟨h61, h62, h63, h64, h65⟩ := H6.out
                obtain ⟨t1, t2, t3, t4, t5⟩ := HB46.out
                have hpp : ∀ x off, p = some ⟨x, off, none⟩ → 0 < e'.bs.length → pb + 1 ≤ x ∧ (Value.slice pL L.length cL).ownBlock ≠ some x := fun x off e hp => by
                  have h1 := (h65 x off e hp).1
                  refine ⟨by omega, fun y => ?_⟩
                  have := (HHI.out.le.own.lt x y).2
                  omega
                obtain ⟨gn, rc, w8, hr8, L8, k8⟩ := (h61.old bW).push e' p c HLL.out (by omega) (h62.old bW) hpp
                have kw8 : Kp (fun k => pb ≤ k) wr w8 := (h64.trans (Kp.of_below (S := fun _ => False) bW) (fun _ _ x => x.elim)).trans k8 (fun q _ x => by have x : pb + 1 ≤ q := x; show pb ≤ q; omega)
                have q8 : St19 w8 pb 60 (tk19 s' (s.tk + kk)) := (h63.old bW).kp k8 (fun x => by have x : pb + 1 ≤ pb := x; omega)
                have BN : Below pb w1 w8 := HHI.out.bl.trans (kw8.below (fun _ x => x) (Nat.le_of_lt HHI.out.sz))
                have hL8 : (L ++ [(e', p, c)]).map (·.1) = psh19 (L.map (·.1)) e' := by
                  rw [psh19_new HK0.out HNM.out, List.map_append]; rfl
                have hne8 : ∀ x ∈ L ++ [(e', p, c)], x.1.kd = 3 → x.1.bs ≠ [] := fun x hx => by
                  rcases List.mem_append.1 hx with y | y
                  · exact HHI.out.ne x y
                  · obtain rfl := List.mem_singleton.1 y
                    exact HSM.out
                have HN := hidm19 (HHI.out.go n HKN.out.2 (0, kk, s', e') (by rw [← HPC.out]; exact HRU.out) (L' := L ++ [(e', p, c)]) (vL' := .slice (some ⟨gn, 0, none⟩) (L.length + 1) rc) hL8 hne8 q8 L8 (HLW.out.2.old (by rw [HPB.out.1]; exact BN)) kw8)
                obtain ⟨w7, hw7⟩ : ∃ w7, w7 = W.alloc (.cells (e'.cs p c) 39) := ⟨_, rfl⟩
                have HW7 : Hid (W.alloc (.cells (e'.cs p c) 39) = w7) := hw7.symm
                rw [← hw7] at hr8
                have HR8 := hidm19 hr8
                obtain ⟨i0, hi, hz0, hz1, hz2⟩ := info_parts info_ev20
                have HIE : Hid (Tryz.prog.info? 39 = some i0 ∧ i0.zero = some (.agg #[.int .i64 0, .int .i64 0, .int .i64 0, .int .u32 0, .int .u32 0, .int .i64 0, .int .i64 0, .int .i64 0, .int .i64 0, .int .i64 0, .int .i64 0, .int .i64 0, .int .i64 0, .int .i64 0, .int .i64 0, .slice none 0 0]) ∧ i0.size = 16) := ⟨hi, hz0, hz1⟩
                have hkn := HK0.out
                clear hi hz0 hz1 hz2 hW bW hWs hWh h61 h62 h63 h64 h65 t1 t2 t3 t4 t5 hpp hr8 L8 k8 kw8 q8 BN hL8 hne8 hw7
                go_wp2_with (first
                  | (refine wpList_load_row rfl 39 (.tmp 13) rfl b6 rfl _ _ _ _ HQW.out Tryz.underlying39 rfl info_ev19 ?_)
                  | (refine wpList_buildSlice rfl 24 39 1 _ rfl (e'.cs p c) i0 _ Tryz.underlying24 HIE.out.1 HIE.out.2.1 (by rw [HIE.out.2.2]; decide) (by rw [HIE.out.2.2]; decide) (by first | exact fill19 e' p c i0 HIE.out.2.2 | (simp only [List.map_toArray, List.map_cons, List.map_nil, List.toList_toArray]; exact fill19 e' p c i0 HIE.out.2.2) | (refine Eq.trans (congrArg _ ?_) (fill19 e' p c i0 HIE.out.2.2); first | rfl | kernel_rfl)) ?_; rw [HW7.out])
                  | (refine wpList_app19 rfl (.tmp 146) (.tmp 148) 24 rfl rfl rfl HR8.out ?_))
                exact ⟨⟨_, L ++ [(e', p, c)], a2, 0, k + 1, _, rfl, by first | rfl | simp, rfl, by first | rfl | simp, fun _ => by have := HK.out.1 trivial; have := HNK.out; have := HA2.out; omega, by have := HK.out.1 trivial; omega, HLB2.out, by rw [HA2.out]; exact HN.out⟩, by simp [intOf]; have := HK.out.1 trivial; have := HM.out; omega⟩
              | true =>
                obtain ⟨hk3, M, y, py, cy, hML, hy3, hys⟩ := hcT rfl
                clear hcT hcF
                obtain ⟨ml, hml⟩ : ∃ ml, ml = M.length := ⟨_, rfl⟩
                have hLl : L.length = ml + 1 := by rw [hML, hml]; simp
                obtain rfl : lst = (ml : Int) := by have := HLS.out; omega
                have hgt : L[ml]? = some (y, py, cy) := by rw [hML, hml]; simp
                have hmem : (y, py, cy) ∈ L := by rw [hML]; simp
                obtain ⟨h61, h62, h63, h64, h65⟩ := H6.out
                obtain ⟨t1, t2, t3, t4, t5⟩ := HB46.out
                obtain ⟨g, cg, hvg, hcg⟩ := h61.row hgt
                injection hvg with e1 e2 e3
                subst e1
                subst e3
                have f15 : w6.cell? ⟨g, ml * 16 + 15, none⟩ = some (.slice py y.bs.length cy) := hcg 15 (by omega)
                have hgl := h61.own.lt g rfl
                have HSC : Hid (∀ V, Below w6.heap.size w6 V → V.cell? ⟨g, ml * 16 + 15, none⟩ = some (.slice py y.bs.length cy) ∧ V.cell? ⟨b6, 15, none⟩ = some (.slice p e'.bs.length c)) := fun V hV =>
                  ⟨(hV.cell (p := ⟨g, ml * 16 + 15, none⟩) hgl.2).trans f15, (hV.cell (p := ⟨b6, 15, none⟩) t3).trans c15⟩
                obtain ⟨V0, hV0⟩ : ∃ V0, V0 = W.drew := ⟨_, rfl⟩
                have b0 : Below w6.heap.size w6 V0 := by rw [hV0]; exact bW.drew
                have s0 : V0.heap.size = w6.heap.size := by rw [hV0, hW]; rfl
                obtain ⟨V1, hV1⟩ : ∃ V1, V1 = V0.alloc (.cells #[] 5) := ⟨_, rfl⟩
                have b1 : Below w6.heap.size w6 V1 := by rw [hV1]; exact b0.alloc (by omega) _
                have z1 : V1.heap.size = V0.heap.size + 1 := by rw [hV1]; simp
                have o1 : V1.ownsRow V0.heap.size 5 1 (.slice (some ⟨V0.heap.size, 0, none⟩) 0 0) 0 [] := by rw [hV1]; exact World.ownsRow_made V0 #[] 0 (Nat.le_refl _) (by unfold maxLen; omega) rfl
                have sy : Seg V1 py y.bs := (h61.old b1).seg (y, py, cy) hmem
                have sp : Seg V1 p e'.bs := h62.old b1
                have hyl : 0 < y.bs.length := List.length_pos_iff.2 (HHI.out.ne (y, py, cy) hmem hy3)
                have hel : 0 < e'.bs.length := List.length_pos_iff.2 (HSM.out hk3)
                have hbd : y.bs.length + e'.bs.length ≤ a2 ∧ a2 ≤ z.length := by
                  have q1 : y.bs.length ≤ a := HLB.out (y, py, cy) hmem
                  have q2 := HEL.out
                  have q3 := HA2.out
                  have q4 := HKN.out
                  have q5 := HHI.out.at_
                  omega
                have hlz := hal.2.1
                obtain ⟨g1, rc1, V2, hr1, o2, k2⟩ := appg19 V1 py cy y.bs o1 sy hyl (by omega) (by omega)
                have k2' : Kp (fun k => w6.heap.size ≤ k) V1 V2 := k2.mono (fun q _ x => by
                  have x : some V0.heap.size = some q := x
                  injection x with x
                  show w6.heap.size ≤ q
                  omega)
                have sp2 : Seg V2 p e'.bs := sp.kp k2' (fun b off e hp x => by
                  have x : w6.heap.size ≤ b := x
                  have := (h65 b off e hp).2
                  omega)
                obtain ⟨g2, rc2, V3, hr2, o3, k3⟩ := appg19 V2 p c e'.bs o2 sp2 hel (by omega) (by have := k2.size; omega)
                have hg1 := o2.lt g1 rfl
                have hg2 := o3.lt g2 rfl
                have k3' : Kp (fun k => w6.heap.size ≤ k) V2 V3 := k3.mono (fun q _ x => by
                  have x : some g1 = some q := x
                  injection x with x
                  show w6.heap.size ≤ q
                  omega)
                have K2 : Kp (fun k => w6.heap.size ≤ k) w6 V2 := (Kp.of_below (S := fun k => w6.heap.size ≤ k) b1).trans k2' (fun _ _ x => x)
                have K3 : Kp (fun k => w6.heap.size ≤ k) w6 V3 := K2.trans k3' (fun _ _ x => x)
                have b2 : Below w6.heap.size w6 V2 := K2.below (fun _ x => x) (Nat.le_refl _)
                have b3 : Below w6.heap.size w6 V3 := K3.below (fun _ x => x) (Nat.le_refl _)
                have hnn : 0 + y.bs.length + e'.bs.length = (y.bs ++ e'.bs).length := by simp
                rw [hnn] at hr2 o3
                rw [show ([] ++ y.bs.map (Value.int .u8) ++ e'.bs.map (Value.int .u8) : List Value) = (y.bs ++ e'.bs).map (Value.int .u8) by simp] at o3
                obtain ⟨-, q1, q2, hq, sg3, -, -, -⟩ := own_seg o3 (M := 255) (by decide) (fun v hv => by
                  rcases List.mem_append.1 hv with x | x
                  · exact sy.mem v x
                  · exact sp.mem v x)
                injection hq with x1 x2 x3
                subst x1
                have LE3 : Le19 (pb + 1) (.slice (some ⟨g, 0, none⟩) (M ++ [(y, py, cy)]).length cL) (M ++ [(y, py, cy)]) V3 := by rw [← hML]; exact h61.old b3
                have LE4 := LE3.upd (y.bs ++ e'.bs) (some ⟨g2, 0, none⟩) rc2 sg3 (fun b off e hp => by
                  injection e with e
                  injection e with e
                  subst e
                  exact ⟨by omega, by omega⟩)
                rw [← hML, ← hml] at LE4
                obtain ⟨bl, hbl⟩ : ∃ bl, bl = (y.bs ++ e'.bs).length := ⟨_, rfl⟩
                rw [← hbl] at LE4 hr2
                obtain ⟨V4, hV4⟩ : ∃ V4, V4 = V3.setCell ⟨g, ml * 16 + 15, none⟩ (.slice (some ⟨g2, 0, none⟩) bl rc2) := ⟨_, rfl⟩
                rw [← hV4] at LE4
                have k4 : Kp (fun k => k = g) V3 V4 := by rw [hV4]; exact Kp.set (S := fun k => k = g) rfl _
                have q8 : St19 V4 pb 60 (tk19 s' (s.tk + kk)) := St19.kp (s := tk19 s' (s.tk + kk)) (h63.old b3) k4 (fun x => by have x : pb = g := x; omega)
                have kw8 : Kp (fun k => pb ≤ k) wr V4 := (h64.trans (K3.mono (S' := fun k => pb ≤ k) (fun q _ x => by have x : w6.heap.size ≤ q := x; show pb ≤ q; omega)) (fun _ _ x => x)).trans k4 (fun q _ x => by have x : q = g := x; show pb ≤ q; omega)
                have BN : Below pb w1 V4 := HHI.out.bl.trans (kw8.below (fun _ x => x) (Nat.le_of_lt HHI.out.sz))
                have hL8 : (M ++ [(({ y with bs := y.bs ++ e'.bs } : E19), (some ⟨g2, 0, none⟩ : Option Addr), rc2)]).map (·.1) = psh19 (L.map (·.1)) e' := by
                  rw [psh19_old hk3 (y := y) (by rw [hML]; simp) ⟨hy3, hys⟩, hML]; simp
                have hne8 : ∀ x ∈ M ++ [(({ y with bs := y.bs ++ e'.bs } : E19), (some ⟨g2, 0, none⟩ : Option Addr), rc2)], x.1.kd = 3 → x.1.bs ≠ [] := fun x hx => by
                  rcases List.mem_append.1 hx with u | u
                  · exact HHI.out.ne x (by rw [hML]; exact List.mem_append_left _ u)
                  · obtain rfl := List.mem_singleton.1 u
                    intro _ h
                    have h : y.bs ++ e'.bs = [] := h
                    rw [List.append_eq_nil_iff] at h
                    rw [h.1] at hyl
                    exact absurd hyl (by simp)
                have HLB2 : Hid (∀ x ∈ M ++ [(({ y with bs := y.bs ++ e'.bs } : E19), (some ⟨g2, 0, none⟩ : Option Addr), rc2)], x.1.bs.length ≤ a2) := fun x hx => by
                  rcases List.mem_append.1 hx with u | u
                  · have := HLB.out x (by rw [hML]; exact List.mem_append_left _ u)
                    have := HA2.out
                    omega
                  · obtain rfl := List.mem_singleton.1 u
                    show (y.bs ++ e'.bs).length ≤ a2
                    rw [List.length_append]
                    omega
                have HN := hidm19 (HHI.out.go n HKN.out.2 (0, kk, s', e') (by rw [← HPC.out]; exact HRU.out) (L' := M ++ [(({ y with bs := y.bs ++ e'.bs } : E19), (some ⟨g2, 0, none⟩ : Option Addr), rc2)]) (vL' := .slice (some ⟨g, 0, none⟩) L.length cL) hL8 hne8 q8 LE4 (HLW.out.2.old (by rw [HPB.out.1]; exact BN)) kw8)
                have sc0 := HSC.out V0 b0
                have HS1 : Hid (V1.cell? ⟨g, ml * 16 + 15, none⟩ = some (.slice py y.bs.length cy) ∧ V1.cell? ⟨b6, 15, none⟩ = some (.slice p e'.bs.length c)) := HSC.out V1 b1
                have HS2 : Hid (V2.cell? ⟨g, ml * 16 + 15, none⟩ = some (.slice py y.bs.length cy) ∧ V2.cell? ⟨b6, 15, none⟩ = some (.slice p e'.bs.length c)) := HSC.out V2 b2
                have HS3 : Hid (V3.cell? ⟨g, ml * 16 + 15, none⟩ = some (.slice py y.bs.length cy) ∧ V3.cell? ⟨b6, 15, none⟩ = some (.slice p e'.bs.length c)) := HSC.out V3 b3
                have HV4 : Hid (V3.setCell ⟨g, ml * 16 + 15, none⟩ (.slice (some ⟨g2, 0, none⟩) bl rc2) = V4 ∧ V0.alloc (.cells #[] 5) = V1) := ⟨hV4.symm, hV1.symm⟩
                obtain ⟨i0, hi, hz0, hz1', hz2⟩ := info_parts info_u8g
                have HIU : Hid (Tryz.prog.info? 5 = some i0) := hi
                have u1 : (0 : Int) ≤ (ml : Int) := by omega
                have u2 : (ml : Int) < (L.length : Int) := by omega
                have u3 : ml < L.length := by omega
                have u4 : ¬ (ml : Int) < 0 := by omega
                have fz3 : V3.frozen? ⟨g, ml * 16 + 15, none⟩ = false := (h61.old b3).own.frozenAt (ml * 16 + 15)
                generalize y.bs.length = yl at *
                generalize e'.bs.length = el at *
                clear hi hz0 hz1' hz2 LE3 LE4 hL8 hne8 q8 kw8 BN k4 sg3 hnn o1 o2 o3 k2 k3 k2' k3' K2 K3 b0 b1 b2 b3 sy sp sp2 hyl hel hbd hlz hg1 hg2 hgl f15 hcg hgt hmem h61 h62 h63 h64 h65 t1 t2 t3 t4 t5 hML hml hLl hy3 hys hk3 hV1 hV4 s0 z1 bW hbl x2 x3 e2 c0 c14 c15 hW
                go_wp2_with fail
                refine plain_region16 (fun V => V.cell? ⟨g, ml * 16 + 15, none⟩ = some (.slice py yl cy) ∧ V.cell? ⟨b6, 15, none⟩ = some (.slice p el c)) 14 (by kernel_rfl) (by rw [← hV0]; exact sc0) (fun hHeld => ?_)
                refine wpAnyK_take (i := 0) (v := .slice (some ⟨g, 0, none⟩) L.length cL) rfl (by kernel_rfl) (by kernel_rfl) (by kernel_rfl) (by kernel_rfl) (fun _ _ _ h => h) (Or.inl ⟨by rfl, fun w hSw => by go_simp⟩) hHeld ?_
                simp only [List.getElem_toArray, List.getElem_cons_zero, Act.put, List.setIfInBounds_toArray, List.set_cons_zero, List.set_cons_succ]
                refine wpAnyK_take (i := 1) (v := .int .i64 (ml : Int)) rfl (by kernel_rfl) (by kernel_rfl) (by kernel_rfl) (by kernel_rfl) (fun _ _ _ h => h) (Or.inl ⟨by rfl, fun w hSw => by go_simp⟩) hHeld ?_
                simp only [List.getElem_toArray, List.getElem_cons_zero, List.getElem_cons_succ, Act.put, List.setIfInBounds_toArray, List.set_cons_zero, List.set_cons_succ]
                refine wpAnyK_take (i := 3) (v := .slice (some ⟨g, 0, none⟩) L.length cL) rfl (by kernel_rfl) (by kernel_rfl) (by kernel_rfl) (by kernel_rfl) (fun _ _ _ h => h) (Or.inl ⟨by rfl, fun w hSw => by go_simp⟩) hHeld ?_
                simp only [List.getElem_toArray, List.getElem_cons_zero, List.getElem_cons_succ, Act.put, List.setIfInBounds_toArray, List.set_cons_zero, List.set_cons_succ]
                refine wpAnyK_take (i := 4) (v := .int .i64 (ml : Int)) rfl (by kernel_rfl) (by kernel_rfl) (by kernel_rfl) (by kernel_rfl) (fun _ _ _ h => h) (Or.inl ⟨by rfl, fun w hSw => by go_simp⟩) hHeld ?_
                simp only [List.getElem_toArray, List.getElem_cons_zero, List.getElem_cons_succ, Act.put, List.setIfInBounds_toArray, List.set_cons_zero, List.set_cons_succ]
                refine wpAnyK_take (i := 5) (v := .pointer (some ⟨g, ml * 16, none⟩)) rfl (by kernel_rfl) (by kernel_rfl) (by kernel_rfl) (by kernel_rfl) (fun _ _ _ h => h) (Or.inl ⟨by rfl, fun w hSw => by go_simp⟩) hHeld ?_
                simp only [List.getElem_toArray, List.getElem_cons_zero, List.getElem_cons_succ, Act.put, List.setIfInBounds_toArray, List.set_cons_zero, List.set_cons_succ]
                refine wpAnyK_take (i := 6) (v := .pointer (some ⟨g, ml * 16 + 15, none⟩)) rfl (by kernel_rfl) (by kernel_rfl) (by kernel_rfl) (by kernel_rfl) (fun _ _ _ h => h) (Or.inl ⟨by rfl, fun w hSw => by go_simp⟩) hHeld ?_
                simp only [List.getElem_toArray, List.getElem_cons_zero, List.getElem_cons_succ, Act.put, List.setIfInBounds_toArray, List.set_cons_zero, List.set_cons_succ]
                refine wpAnyK_take (i := 7) (v := .slice py yl cy) rfl (by kernel_rfl) (by kernel_rfl) (by kernel_rfl) (by kernel_rfl) (fun _ _ _ h => h) (Or.inl ⟨by rfl, fun w hSw => by go_simp⟩) hHeld ?_
                simp only [List.getElem_toArray, List.getElem_cons_zero, List.getElem_cons_succ, Act.put, List.setIfInBounds_toArray, List.set_cons_zero, List.set_cons_succ]
                refine wpAnyK_take (i := 9) (v := .pointer (some ⟨b6, 15, none⟩)) rfl (by kernel_rfl) (by kernel_rfl) (by kernel_rfl) (by kernel_rfl) (fun _ _ _ h => h) (Or.inl ⟨by rfl, fun w hSw => by go_simp⟩) hHeld ?_
                simp only [List.getElem_toArray, List.getElem_cons_zero, List.getElem_cons_succ, Act.put, List.setIfInBounds_toArray, List.set_cons_zero, List.set_cons_succ]
                refine wpAnyK_take (i := 10) (v := .slice p el c) rfl (by kernel_rfl) (by kernel_rfl) (by kernel_rfl) (by kernel_rfl) (fun _ _ _ h => h) (Or.inl ⟨by rfl, fun w hSw => by go_simp⟩) hHeld ?_
                simp only [List.getElem_toArray, List.getElem_cons_zero, List.getElem_cons_succ, Act.put, List.setIfInBounds_toArray, List.set_cons_zero, List.set_cons_succ]
                rw [← hV0] at hHeld ⊢
                clear hV0
                refine wpAnyK_one (i := 2) (by kernel_rfl) rfl (fun K hK => ?_)
                simp only [List.getElem_toArray, List.getElem_cons_zero, List.getElem_cons_succ]
                rw [if_pos (by rfl)]
                refine wp_bs0 22 5 rfl i0 Tryz.underlying22 HIU.out ?_
                rw [HV4.out.2]
                refine hK.out _ _ (fun _ => HS1.out) (fun hHeld0 => ?_)
                have hHeld := hHeld0 (by decide)
                clear hHeld0 hK K
                (try simp only [List.getElem_toArray, List.getElem_cons_zero, List.getElem_cons_succ, Act.put, List.setIfInBounds_toArray, List.set_cons_zero, List.set_cons_succ])
                refine wpAnyK_one (i := 8) (by kernel_rfl) rfl (fun K hK => ?_)
                simp only [List.getElem_toArray, List.getElem_cons_zero, List.getElem_cons_succ]
                rw [if_pos (by rfl)]
                refine operwp_app16 _ _ _ rfl rfl rfl hr1 ?_
                refine hK.out _ _ (fun _ => HS2.out) (fun hHeld0 => ?_)
                have hHeld := hHeld0 (by decide)
                clear hHeld0 hK K
                (try simp only [List.getElem_toArray, List.getElem_cons_zero, List.getElem_cons_succ, Act.put, List.setIfInBounds_toArray, List.set_cons_zero, List.set_cons_succ])
                refine wpAnyK_one (i := 11) (by kernel_rfl) rfl (fun K hK => ?_)
                simp only [List.getElem_toArray, List.getElem_cons_zero, List.getElem_cons_succ]
                rw [if_pos (by rfl)]
                refine operwp_app16 _ _ _ rfl rfl rfl hr2 ?_
                refine hK.out _ _ (fun _ => HS3.out) (fun hHeld0 => ?_)
                have hHeld := hHeld0 (by decide)
                clear hHeld0 hK K
                (try simp only [List.getElem_toArray, List.getElem_cons_zero, List.getElem_cons_succ, Act.put, List.setIfInBounds_toArray, List.set_cons_zero, List.set_cons_succ])
                refine wpAnyK_one (i := 12) (by kernel_rfl) rfl (fun K hK => ?_)
                (try simp only [List.getElem_toArray, List.getElem_cons_zero, List.getElem_cons_succ, Act.put, List.setIfInBounds_toArray, List.set_cons_zero, List.set_cons_succ])
                go_simp
                refine hK.out _ _ (fun _ => HS3.out) (fun hHeld0 => ?_)
                have hHeld := hHeld0 (by decide)
                clear hHeld0 hK K
                (try simp only [List.getElem_toArray, List.getElem_cons_zero, List.getElem_cons_succ, Act.put, List.setIfInBounds_toArray, List.set_cons_zero, List.set_cons_succ])
                refine wpAnyK_take (i := 13) (v := .pointer (some ⟨g, ml * 16 + 15, none⟩)) rfl (by kernel_rfl) (by kernel_rfl) (by kernel_rfl) (by kernel_rfl) (fun _ _ _ h => h) (Or.inl ⟨by rfl, fun w hSw => by go_simp⟩) hHeld ?_
                simp only [List.getElem_toArray, List.getElem_cons_zero, List.getElem_cons_succ, Act.put, List.setIfInBounds_toArray, List.set_cons_zero, List.set_cons_succ]
                have s15 := HS3.out.1
                refine wpAnyK_one (i := 14) (by kernel_rfl) rfl (fun K hK => ?_)
                simp only [List.getElem_toArray, List.getElem_cons_zero, List.getElem_cons_succ, Act.put]
                go_simp
                (try rw [HV4.out.1])
                refine hK.out _ _ (fun h => absurd rfl h) (fun _ => ?_)
                clear hK K
                (try simp only [List.getElem_toArray, List.getElem_cons_zero, List.getElem_cons_succ, Act.put, List.setIfInBounds_toArray, List.set_cons_zero, List.set_cons_succ])
                refine wpAnyK_done (by kernel_rfl) ?_ _
                go_wp2_with fail
                exact ⟨⟨_, M ++ [(({ y with bs := y.bs ++ e'.bs } : E19), (some ⟨g2, 0, none⟩ : Option Addr), rc2)], a2, 0, k + 1, _, rfl, by first | rfl | simp, rfl, by first | rfl | simp, fun _ => by have := HK.out.1 trivial; have := HNK.out; have := HA2.out; omega, by have := HK.out.1 trivial; omega, HLB2.out, by rw [HA2.out]; exact HN.out⟩, by simp [intOf]; have := HK.out.1 trivial; have := HM.out; omega⟩
end Go.Proofs.YtpodakndckflgaaGreatDoor
