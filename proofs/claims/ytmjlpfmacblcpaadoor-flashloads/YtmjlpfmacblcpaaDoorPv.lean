import Derived.Test.YtmjlpfmacblcpaaDoorPu
import Derived.Test.YtmjlpfmacblcpaaDoorPi
import Derived.Test.YtmjlpfmacblcpaaDoorPa
import Derived.Laws.Rows
import Derived.Laws.Tables
import Derived.Deep.MidRow
import Derived.Deep.CutRange
import Derived.Deep.CutBlock
namespace Go.Proofs.YtmjlpfmacblcpaaDoor
open Go.RowKit Go.Shelf
set_option linter.unusedVariables false
set_option linter.unusedSimpArgs false
theorem info_pg24 : (Tryd.prog.info? 110).map (·.size) = some 3 := by kernel_rfl
theorem wpList_bs024 {P : Program} {ops : Array Oper} {rest : List Oper} {o : Oper} {a : Act} {w : World} {Q : Exit → Act → World → Prop} (hg : o.guard = none) (t e : TypeId) (ho : o.op = .buildSlice t 0 #[]) (ie : TypeInfo)
    (hu : P.underlying t = some (.slice e)) (hie : P.info? e = some ie) (h : wpList P ops Q rest (a.put o.dst (.slice (some ⟨w.heap.size, 0, none⟩) 0 0)) (w.alloc (.cells #[] e))) : wpList P ops Q (o :: rest) a w := by
  have hr : (Instr.buildSlice t 0 #[]).run P w = .ok (.slice (some ⟨w.heap.size, 0, none⟩) 0 0) (w.alloc (.cells #[] e)) := by
    have r0 : Array.range 0 = #[] := by first | rfl | simp | decide
    simp [Instr.buildSlice, run_underlying hu, sizeOf, typeInfo, hie, Instr.fill, newRow, r0]
  have e0 : Array.map (fun x : Nat × Operand => (x.1, a.eval x.2)) #[] = #[] := by simp
  refine wpList_plain hg fun K hK => ?_
  unfold Oper.wp execOp
  simp only [ho, Sem.run_bind, e0, hr, Result.andThen_ok]
  exact hK _ _ h
theorem yields_row24 {P : Program} {ops : Array Oper} {S : World → Prop} {op : Oper} {a : Act} (hw : Region.wanted op (yielded ops a.tmps) = true) (ty : TypeId) (x : Operand) (ho : op.op = .load ty x) (g : Nat) (hx : a.eval x = .pointer (some ⟨g, 0, none⟩)) (t : TypeId) (cs : Array Value) (fr : Nat × Nat) (d : TypeDesc) (hS : ∀ w, S w → w.heap[g]? = some (.cells cs t fr))
    (hu : P.underlying ty = some d) (hd : (match d with | .struct _ | .array _ _ => true | _ => false) = true) (hi : (P.info? ty).map (·.size) = some cs.size) : YieldsIf P ops S op (.agg cs) a :=
  .inl ⟨hw, fun w hw' => by
    unfold execOp
    simp only [ho, hx, Instr.loadAt, Instr.sureAddr, Sem.run_bind, Sem.run_pure, Result.andThen_ok, run_loadVar_row w g t ty cs fr d (hS w hw') hu hd hi]⟩
set_option maxRecDepth 100000 in
set_option maxHeartbeats 32000000 in
theorem rload24 (w : World) (a : Option Addr) (n k : Nat) (B : List Int) (hs : Seg w a B) (hn : Hid (B.length = n)) (hk : n ≤ k) (hz : a = none → k = 0) (hl : n ≤ 140737488351232) :
    Calls Tryd.prog 9 #[.slice a n k] w fun e w' => RLQ24 w B e w' := by
  have hbd := hs.mem
  obtain ⟨S0, hS0⟩ : ∃ S0, S0 = ls24 (hd24 B) := ⟨_, rfl⟩
  have hLD : ld24 B = true → Ok21 S0 ∧ B = sav21 S0 := fun h => by
    obtain ⟨h1, h2, h3, h4⟩ := sav_ld24 hbd h
    rw [hS0]
    exact ⟨h2, h1.symm⟩
  have HLD : Hid (ld24 B = true → Ok21 S0 ∧ B = sav21 S0) := hLD
  have HS0 : Hid (S0 = ls24 (hd24 B)) := hS0
  have HC : Hid (Seg w a B ∧ n ≤ k ∧ (a = none → k = 0) ∧ n ≤ 140737488351232 ∧ (∀ z ∈ B, 0 ≤ z ∧ z ≤ 255)) := ⟨hs, hk, hz, hl, hbd⟩
  by_cases h5 : n < 5
  · have h5i : (n : Int) < 5 := by omega
    have hf : ld24 B = false := by
      cases h : ld24 B
      · rfl
      · exfalso
        obtain ⟨-, hB⟩ := hLD h
        have h1 := hdb21_len S0
        have h2 := hn.out
        rw [hB] at h2
        unfold sav21 svb21 at h2
        simp only [List.length_append] at h2
        omega
    have HF : Hid (ld24 B = false) := hf
    clear hf hLD hS0 hs hk hz hl hbd h5
    go_enter Tryd.func9, Tryd.ntmps9
    go_wp2_with fail
    go_ret2
    exact ⟨Below.refl _ _, .inl ⟨HF.out, rfl⟩⟩
  · have h5i : ¬ (n : Int) < 5 := by omega
    have X1 := slice_hi22 a n k 5 hk (by omega) hz
    rw [show ((5 : Nat) : Int) = 5 from rfl] at X1
    have hl5 : (B.take 5).length = 5 := by rw [List.length_take, hn.out]; omega
    have hcv := run_conv22 (P := Tryd.prog) (w := w) 5 k hl5 (hs.take 5) 22 5 9 Tryd.underlying22 Tryd.underlying5 Tryd.underlying9
    have hmg := mgs24 (X := B.take 5) (fun z hz => hbd z (List.mem_of_mem_take hz))
    by_cases hM : B.take 5 = mg21
    · rw [decide_eq_true hM] at hmg
      have hH0 : Hv24 w (w.alloc (.cells #[.int .u64 0, .int .u64 0, .int .u64 0, .int .u64 0] 100)) w.heap.size B S0 0 5 (fun _ => 0) :=
        ⟨(Below.refl _ _).alloc (Nat.le_refl _) _, Nat.le_refl _, heap_alloc_new w _, by rw [hn.out]; omega, fun _ => by omega, fun h => ⟨rfl, fun j hj => by omega⟩⟩
      obtain ⟨g, hg⟩ : ∃ g, g = w.heap.size := ⟨_, rfl⟩
      obtain ⟨w1, hw1⟩ : ∃ w1, w1 = w.alloc (.cells #[.int .u64 0, .int .u64 0, .int .u64 0, .int .u64 0] 100) := ⟨_, rfl⟩
      have HW1 : Hid (w.alloc (.cells #[.int .u64 0, .int .u64 0, .int .u64 0, .int .u64 0] 100) = w1 ∧ w.heap.size = g) := ⟨hw1.symm, hg.symm⟩
      rw [← hw1, ← hg] at hH0
      have HH0 : Hid (Hv24 w w1 g B S0 0 5 (fun _ => 0)) := hH0
      clear hLD hS0 hs hk hz hl hbd h5 hM hl5 hw1 hg hH0
      go_enter Tryd.func9, Tryd.ntmps9
      go_wp2_with fail
      (try rw [HW1.out.1])
      (try rw [HW1.out.2])
      go_loopw [4, 29] (fun t4 ti wr => ∃ (i at_ : Nat) (vf : Nat → Int), i ≤ 4 ∧ t4 = .int .i64 (at_ : Int) ∧ ti = .int .i64 (i : Int) ∧ Hid (Hv24 w wr g B S0 i at_ vf)) (fun _ ti _ => 4 - (intOf ti).toNat)
      case atStart => exact ⟨0, 5, fun _ => 0, by omega, rfl, rfl, HH0.out⟩
      case round =>
        obtain ⟨i, at_, vf, hi4, rfl, rfl, hH⟩ := hrel
        by_cases hi : i < 4
        · as_aux_lemma =>
          have hii : (i : Int) < 4 := by omega
          have hiw : IntKind.i64.wrap ((i : Int) + 1) = ((i + 1 : Nat) : Int) := by rw [IntWalk.i64_in _ (by omega)]; omega
          have hatn : at_ ≤ n := by rw [← hn.out]; exact hH.out.al
          have X2 := slice_lo24 a n k at_ HC.out.2.1 hatn HC.out.2.2.1
          have hsd : Seg wr (rs24 a k at_) (B.drop at_) := (seg_rs24 HC.out.1 (by rw [hn.out]; exact hatn) (by rw [hn.out]; exact HC.out.2.1)).old hH.out.bl
          have hld : (B.drop at_).length = n - at_ := by rw [List.length_drop, hn.out]
          have HRD := read_any (rs24 a k at_) (B.drop at_) (k - at_) wr hsd (by have := HC.out.2.2.2.1; omega) (by have := HC.out.2.1; omega)
          obtain ⟨dv, dn, de, hd⟩ : ∃ dv dn de, decL 0 0 (B.drop at_) = (dv, dn, de) := ⟨_, _, _, rfl⟩
          rw [hld, hd] at HRD
          have HDD : Hid (decL 0 0 (B.drop at_) = (dv, dn, de)) := hd
          have hfact : de = 0 → ∃ m : Nat, 1 ≤ m ∧ m ≤ n - at_ ∧ dn = (m : Int) ∧ 0 ≤ dv ∧ dv ≤ 18446744073709551615 := by
            intro he
            rw [he] at hd
            obtain ⟨m, g1, g2, g3, g4, g5, _⟩ := decI_ok (B.drop at_) dv dn (fun z hz => HC.out.2.2.2.2 z (List.mem_of_mem_drop hz)) hd
            exact ⟨m, g1, by omega, g3, g4, g5⟩
          have HAT : Hid (at_ ≤ n) := hatn
          clear hsd hld hd hatn HH0 hmg hcv X1
          by_cases hE : de = 0
          · obtain ⟨m, g1, g2, rfl, g4, g5⟩ := hfact hE
            subst hE
            have HM : Hid (m ≤ n - at_ ∧ 1 ≤ m) := ⟨g2, g1⟩
            by_cases hbig : 1099511627776 < dv
            · have HF : Hid (ld24 B = false) := ld_at24 HLD.out hH.out hi HDD.out (.inr hbig)
              clear hfact g1 g2
              go_wp2_with fail
              refine HRD.mono ?_
              rintro e vv ⟨rfl, hw⟩
              subst vv
              clear HRD
              go_wp2_with fail
              go_ret2
              exact ⟨hH.out.bl, .inl ⟨HF.out, rfl⟩⟩
            · have c0 : ∃ u, wr.cell? ⟨g, i, none⟩ = some u := by
                have h := hH.out.hb
                rcases (show i = 0 ∨ i = 1 ∨ i = 2 ∨ i = 3 by omega) with rfl | rfl | rfl | rfl <;> exact ⟨_, by simp [World.cell?, h]; rfl⟩
              obtain ⟨u, c0⟩ := c0
              have f0 : wr.frozen? ⟨g, i, none⟩ = false := by simp [World.frozen?, hH.out.hb]
              have haw : IntKind.i64.wrap ((at_ : Int) + (m : Int)) = ((at_ + m : Nat) : Int) := by have := HAT.out; have := HC.out.2.2.2.1; rw [IntWalk.i64_in _ (by omega)]; omega
              obtain ⟨vn, hvn⟩ : ∃ vn, vn = wr.setCell ⟨g, i, none⟩ (.int .u64 dv) := ⟨_, rfl⟩
              have HVN : Hid (wr.setCell ⟨g, i, none⟩ (.int .u64 dv) = vn) := hvn.symm
              have HN : Hid (Hv24 w vn g B S0 (i + 1) (at_ + m) (fun j => if j = i then dv else vf j)) := hH.out.next hi HLD.out HDD.out (by rw [hn.out]; exact g2) g4 (by omega) hvn
              clear hfact g1 g2 hvn
              go_wp2_with fail
              refine HRD.mono ?_
              rintro e vv ⟨rfl, hw⟩
              subst vv
              clear HRD
              go_wp2_with fail
              (try rw [HVN.out])
              go_roundw
              case rel => exact ⟨i + 1, at_ + m, _, by omega, by simp, by go_num, HN.out⟩
              case measure => simp [intOf]; omega
          · have HF : Hid (ld24 B = false) := ld_at24 HLD.out hH.out hi HDD.out (.inl hE)
            clear hfact
            go_wp2_with fail
            refine HRD.mono ?_
            rintro e vv ⟨rfl, hw⟩
            subst vv
            clear HRD
            go_wp2_with fail
            go_ret2
            exact ⟨hH.out.bl, .inl ⟨HF.out, rfl⟩⟩
        · as_aux_lemma =>
          obtain rfl : i = 4 := by omega
          have hii : ¬ ((4 : Nat) : Int) < 4 := by omega
          obtain ⟨P0, hP0⟩ : ∃ x, x = vf 0 := ⟨_, rfl⟩
          obtain ⟨P1, hP1⟩ : ∃ x, x = vf 1 := ⟨_, rfl⟩
          obtain ⟨P2, hP2⟩ : ∃ x, x = vf 2 := ⟨_, rfl⟩
          obtain ⟨P3, hP3⟩ : ∃ x, x = vf 3 := ⟨_, rfl⟩
          have hb := hH.out.hb
          rw [← hP0, ← hP1, ← hP2, ← hP3] at hb
          have c0 : wr.cell? ⟨g, 0, none⟩ = some (.int .u64 P0) := by simp [World.cell?, hb]
          have c1 : wr.cell? ⟨g, 1, none⟩ = some (.int .u64 P1) := by simp [World.cell?, hb]
          have c2 : wr.cell? ⟨g, 2, none⟩ = some (.int .u64 P2) := by simp [World.cell?, hb]
          have c3 : wr.cell? ⟨g, 3, none⟩ = some (.int .u64 P3) := by simp [World.cell?, hb]
          have z0 := hH.out.vb 0
          have z1 := hH.out.vb 1
          have z2 := hH.out.vb 2
          have z3 := hH.out.vb 3
          rw [← hP0] at z0
          rw [← hP1] at z1
          rw [← hP2] at z2
          rw [← hP3] at z3
          have u0 : IntKind.i64.wrap P0 = P0 := IntWalk.i64_in _ (by omega)
          have u1 : IntKind.i64.wrap P1 = P1 := IntWalk.i64_in _ (by omega)
          have u2 : IntKind.i64.wrap P2 = P2 := IntWalk.i64_in _ (by omega)
          have u3 : IntKind.i64.wrap P3 = P3 := IntWalk.i64_in _ (by omega)
          have HSP : Hid (ld24 B = true → P0 = (S0.pg : Int) ∧ P1 = (S0.ps : Int) ∧ P2 = S0.ac ∧ P3 = S0.lm ∧ at_ = (hdb21 S0).length) := fun h => by
            obtain ⟨e1, e2⟩ := hH.out.sp h
            exact ⟨by rw [hP0, e2 0 (by omega)]; rfl, by rw [hP1, e2 1 (by omega)]; rfl, by rw [hP2, e2 2 (by omega)]; rfl, by rw [hP3, e2 3 (by omega)]; rfl, e1⟩
          have HAT : Hid (at_ ≤ B.length ∧ Below w.heap.size w wr ∧ 0 ≤ P3 ∧ P3 ≤ 1099511627776 ∧ wr.heap[g]? = some (.cells #[.int .u64 P0, .int .u64 P1, .int .u64 P2, .int .u64 P3] 100 (0, 0))) := ⟨hH.out.al, hH.out.bl, z3.1, z3.2, hb⟩
          clear hP0 hP1 hP2 hP3 hb hH hcv hmg X1 HH0
          by_cases hE : mb21 P0 P1 = false ∨ P2 < 0 ∨ 2 ≤ P2
          · have HRN := rnewn21 (w := wr) P0 P1 P2 ⟨by omega, by omega⟩ ⟨by omega, by omega⟩ none none 0 0 0 0 (by unfold nwE21; rw [if_pos hE])
            have HF : Hid (ld24 B = false) := by
              show _ = _
              cases h : ld24 B
              · rfl
              · exfalso
                obtain ⟨e0, e1, e2, -⟩ := HSP.out h
                have hO := (HLD.out h).1
                have h1 := hO.pg
                have h2 := hO.ps
                have h3 := hO.ac
                rcases hE with hE | hE
                · rw [e0, e1] at hE
                  unfold mb21 at hE
                  simp at hE
                  omega
                · omega
            clear z0 z1 z2 z3 hE
            go_wp2_with fail
            refine HRN.mono ?_
            rintro e v2 ⟨rfl, b2⟩
            have B2 : Hid (Below w.heap.size w v2) := HAT.out.2.1.trans (b2.mono HAT.out.2.1.size)
            clear HRN b2 c0 c1 c2 c3
            go_wp2_with fail
            go_ret2
            exact ⟨B2.out, .inl ⟨HF.out, rfl⟩⟩
          · have hPQ : ∃ P Q : Nat, P0 = (P : Int) ∧ P1 = (Q : Int) ∧ (64 ≤ P ∧ P ≤ 4096) ∧ (1 ≤ Q ∧ Q ≤ 4096) ∧ (P2 = 0 ∨ P2 = 1) := by
              have zm : mb21 P0 P1 = true := by cases h : mb21 P0 P1; exact absurd (.inl h) hE; rfl
              unfold mb21 at zm
              simp at zm
              exact ⟨P0.toNat, P1.toNat, by omega, by omega, ⟨by omega, by omega⟩, ⟨by omega, by omega⟩, by omega⟩
            obtain ⟨P, Q, rfl, rfl, hP, hQ, hac⟩ := hPQ
            have HRN := rnew21 (w := wr) P Q P2 hP hQ hac none none [] [] 0 0 0 0 (SegK.nil (by decide) _ _) (SegK.nil (by decide) _ _) rfl rfl (Nat.zero_le _) (Nat.zero_le _)
            have HPQ : Hid ((64 ≤ P ∧ P ≤ 4096) ∧ (1 ≤ Q ∧ Q ≤ 4096) ∧ (P2 = 0 ∨ P2 = 1)) := ⟨hP, hQ, hac⟩
            clear z0 z1 z2 z3 hE hP hQ hac
            go_wp2_with fail
            refine HRN.mono ?_
            rintro e v2 ⟨b, G, rfl, hR, hG, b2⟩
            have hgl := (Array.getElem?_eq_some_iff.1 HAT.out.2.2.2.2).1
            have q2 := (b2.block g hgl).trans HAT.out.2.2.2.2
            have d3 : v2.cell? ⟨g, 3, none⟩ = some (.int .u64 P3) := by simp [World.cell?, q2]
            obtain ⟨S1, hS1⟩ : ∃ S1, S1 = nw21 P Q P2 [] [] := ⟨_, rfl⟩
            rw [← hS1] at hR
            obtain ⟨hR2, k10, f10, c10⟩ := hR.lm24 P3
            obtain ⟨v3, hv3⟩ : ∃ v3, v3 = v2.setCell ⟨b, 10, none⟩ (.int .i64 P3) := ⟨_, rfl⟩
            have HV3 : Hid (v2.setCell ⟨b, 10, none⟩ (.int .i64 P3) = v3) := hv3.symm
            rw [← hv3] at hR2 k10
            have hok : Ok21 S1 := by rw [hS1]; exact ok21_new P Q P2 [] [] HPQ.out.1 HPQ.out.2.1 HPQ.out.2.2
            have hpa : ∀ x y, S1.pa x y = none := fun x y => by
              rw [hS1]
              show pj21 P (Ls21 [] []) 2 0 x y = none
              unfold pj21 ck21 Ls21
              split
              · rw [if_neg (by split <;> simp)]
              · rfl
            have HP0 : Hid (Pv24 w v3 b G B S0 { S1 with lm := P3 } 0 0 at_) := by
              have hw := HAT.out.2.1
              have hGw : ∀ k, G k → w.heap.size ≤ k := fun k e => by have := hG k e; have := hw.size; omega
              have bw2 := hw.trans (b2.mono hw.size)
              refine ⟨bw2.trans (k10.below hGw bw2.size), hR2, hGw, ⟨hok.pg, hok.ps, hok.ac, ⟨HAT.out.2.2.1, HAT.out.2.2.2.1⟩, hok.lf, hok.tn, hok.sh⟩, fun x y z hz => ?_, by rw [hS1]; rfl, by rw [hS1]; rfl, by rw [hS1]; rfl, by rw [hS1]; rfl, HAT.out.1, fun hl => ?_⟩
              · have : (sh21 { S1 with lm := P3 } x y).b = [] := by
                  show ((S1.pa x y).getD _).b = []
                  rw [hpa]
                  rfl
                rw [this] at hz
                cases hz
              · obtain ⟨e0, e1, e2, e3, e4⟩ := HSP.out hl
                refine ⟨by rw [hS1]; show P = S0.pg; omega, by rw [hS1]; show Q = S0.ps; omega, by rw [hS1]; exact e2, e3, ?_, fun x y h0 h1 h2 h3 => by omega⟩
                rw [e4]
                have z1 : arl21 S0 0 = [] := rfl
                have z2 : pgl21 S0 ((0 : Nat) : Int) 0 = [] := rfl
                rw [z1, z2]
                simp
            clear hgl q2 hS1 hR hR2 k10 hv3 hok hpa hG b2 HRN c0 c1 c2 c3
            go_wp2_with fail
            rw [HV3.out]
            go_loopw [4, 12] (fun t4 t12 wr => ∃ (a at_ : Nat) (G : Nat → Prop) (S : Fs21), a ≤ 3 ∧ t4 = .int .i64 (at_ : Int) ∧ t12 = .int .i64 (a : Int) ∧ Hid (Pv24 w wr b G B S0 S a 0 at_)) (fun _ t12 _ => 3 - (intOf t12).toNat)
            case atStart => exact ⟨0, at_, G, _, by omega, rfl, rfl, HP0.out⟩
            case round =>
              obtain ⟨a', at2, G2, S2, ha3, rfl, rfl, hP⟩ := hrel
              by_cases ha : a' < 3
              · as_aux_lemma =>
                have hii : (a' : Int) < 3 := by omega
                have haw : IntKind.i64.wrap ((a' : Int) + 1) = ((a' + 1 : Nat) : Int) := by rw [IntWalk.i64_in _ (by omega)]; omega
                have hpn0 : (0 : Int) < pn21 S2.ps (a' : Int) := by
                  have := hP.out.ok.ps
                  unfold pn21
                  split
                  · omega
                  · split <;> omega
                obtain ⟨q, len, cap, cq, hlen, -, hlc, -⟩ := hP.out.rl.lay24 a' 0 ha (by simpa using hpn0)
                have HPA : Hid (Pv24 w wr b G2 B S0 S2 a' 0 at2 ∧ pn21 S2.ps (a' : Int) = (len : Int) ∧ a' < 3) := ⟨hP.out, hlen.symm, ha⟩
                clear hP HP0 hpn0 hlen hlc
                go_wp2_with fail
                go_loopw [4, 86] (fun t4 t86 wr => ∃ (i at_ : Nat) (G : Nat → Prop) (S : Fs21), i ≤ len ∧ t4 = .int .i64 (at_ : Int) ∧ t86 = .int .i64 (i : Int) ∧ Hid (Pv24 w wr b G B S0 S a' i at_ ∧ pn21 S.ps (a' : Int) = (len : Int))) (fun _ t86 _ => len - (intOf t86).toNat)
                case atStart => exact ⟨0, at2, G2, S2, by omega, rfl, rfl, HPA.out.1, HPA.out.2.1⟩
                case round =>
                  obtain ⟨i, at3, G3, S3, hil, rfl, rfl, hQ⟩ := hrel
                  by_cases hi : i < len
                  · as_aux_lemma =>
                    have hjj : (i : Int) < (len : Int) := by omega
                    have hl4 := pn21_bd S3.ps (a' : Int) hQ.out.1.ok.ps.2
                    rw [hQ.out.2] at hl4
                    have hiw : IntKind.i64.wrap ((i : Int) + 1) = ((i + 1 : Nat) : Int) := by rw [IntWalk.i64_in _ (by omega)]; omega
                    have hatn : at3 ≤ n := by rw [← hn.out]; exact hQ.out.1.al
                    have hpi : (i : Int) < pn21 S3.ps (a' : Int) := by rw [hQ.out.2]; exact hjj
                    have HPI : Hid ((i : Int) < pn21 S3.ps (a' : Int)) := hpi
                    have X2 := slice_lo24 a n k at3 HC.out.2.1 hatn HC.out.2.2.1
                    have hsd : Seg wr (rs24 a k at3) (B.drop at3) := (seg_rs24 HC.out.1 (by rw [hn.out]; exact hatn) (by rw [hn.out]; exact HC.out.2.1)).old hQ.out.1.bl
                    have hld : (B.drop at3).length = n - at3 := by rw [List.length_drop, hn.out]
                    have HRD := read_any (rs24 a k at3) (B.drop at3) (k - at3) wr hsd (by have := HC.out.2.2.2.1; omega) (by have := HC.out.2.1; omega)
                    obtain ⟨dv, dn, de, hd⟩ : ∃ dv dn de, decL 0 0 (B.drop at3) = (dv, dn, de) := ⟨_, _, _, rfl⟩
                    rw [hld, hd] at HRD
                    have HPR : Hid (ld24 B = true → de = 0 ∧ dv = (sh21 S0 (a' : Int) (i : Int)).wr ∧ dv ≤ 1099511627776 ∧ dn = ((encI dv).length : Int) ∧ at3 + (encI dv).length < B.length ∧ S3.pg = S0.pg ∧
                        (((sh21 S0 (a' : Int) (i : Int)).er = true ∧ B.getD (at3 + (encI dv).length) 0 = 1 ∧ fb21 S0 (a' : Int) (i : Int) = List.replicate S0.pg 255 ∧ (svp21 S0.pg (sh21 S0 (a' : Int) (i : Int))).length = (encI dv).length + 1) ∨
                         ((sh21 S0 (a' : Int) (i : Int)).er = false ∧ B.getD (at3 + (encI dv).length) 0 = 0 ∧ at3 + (encI dv).length + 1 + S0.pg ≤ B.length ∧ (B.drop (at3 + (encI dv).length + 1)).take S0.pg = fb21 S0 (a' : Int) (i : Int) ∧ (svp21 S0.pg (sh21 S0 (a' : Int) (i : Int))).length = (encI dv).length + 1 + S0.pg))) := fun h => hQ.out.1.read HLD.out HPA.out.2.2 hpi hd h
                    have hbadn : de ≠ 0 → dn = 0 := fun h => by
                      have := dec_bad (B.drop at3) 0 0 (by rw [hd]; exact h)
                      rw [hd] at this
                      exact this.2
                    have HRD0 : Hid True := trivial
                    have hfact : de = 0 → ∃ m : Nat, 1 ≤ m ∧ m ≤ n - at3 ∧ dn = (m : Int) ∧ 0 ≤ dv ∧ dv ≤ 18446744073709551615 := by
                      intro he
                      rw [he] at hd
                      obtain ⟨m, g1, g2, g3, g4, g5, _⟩ := decI_ok (B.drop at3) dv dn (fun z hz => HC.out.2.2.2.2 z (List.mem_of_mem_drop hz)) hd
                      exact ⟨m, g1, by omega, g3, g4, g5⟩
                    have HAT : Hid (at3 ≤ n) := hatn
                    clear hsd hld hd hatn hpi hl4
                    by_cases hE : de = 0
                    rotate_left
                    · obtain rfl := hbadn hE
                      have HF : Hid (ld24 B = false) := by
                        show _ = _
                        cases h : ld24 B
                        · rfl
                        · exfalso
                          obtain ⟨r1, r2, r3, r4, r5, r6, r7⟩ := HPR.out h
                          exact hE r1
                      have haw : IntKind.i64.wrap ((at3 : Int) + 0) = (at3 : Int) := by have := HAT.out; have := HC.out.2.2.2.1; rw [IntWalk.i64_in _ (by omega)]; omega
                      clear hfact HRD0
                      go_wp2_with fail
                      refine HRD.mono ?_
                      rintro e vv ⟨rfl, hw⟩
                      subst vv
                      clear HRD
                      go_wp2_with fail
                      go_ret2
                      exact ⟨hQ.out.1.bl, .inl ⟨HF.out, rfl⟩⟩
                    obtain ⟨m, g1, g2, rfl, g4, g5⟩ := hfact hE
                    subst hE
                    obtain ⟨p, hp⟩ : ∃ p, p = at3 + m := ⟨_, rfl⟩
                    have HM : Hid (m ≤ n - at3 ∧ 1 ≤ m ∧ p = at3 + m ∧ n ≤ 140737488351232 ∧ 0 ≤ dv) := ⟨g2, g1, hp, HC.out.2.2.2.1, g4⟩
                    have haw : IntKind.i64.wrap ((at3 : Int) + (m : Int)) = (p : Int) := by have := HAT.out; have := HC.out.2.2.2.1; rw [IntWalk.i64_in _ (by omega)]; omega
                    have hpn : p ≤ n := by have := HAT.out; omega
                    clear g1 g2 hp hbadn
                    by_cases hbig : 1099511627776 < dv
                    · have HF : Hid (ld24 B = false) := by
                        show _ = _
                        cases h : ld24 B
                        · rfl
                        · exfalso
                          obtain ⟨r1, r2, r3, r4, r5, r6, r7⟩ := HPR.out h
                          omega
                      clear hfact HRD0
                      go_wp2_with fail
                      refine HRD.mono ?_
                      rintro e vv ⟨rfl, hw⟩
                      subst vv
                      clear HRD
                      go_wp2_with fail
                      go_ret2
                      exact ⟨hQ.out.1.bl, .inl ⟨HF.out, rfl⟩⟩
                    have hbig' : ¬ 1099511627776 < dv := hbig
                    by_cases hend : n ≤ p
                    · have hendi : (n : Int) ≤ (p : Int) := by omega
                      have HF : Hid (ld24 B = false) := by
                        show _ = _
                        cases h : ld24 B
                        · rfl
                        · exfalso
                          obtain ⟨r1, r2, r3, r4, r5, r6, r7⟩ := HPR.out h
                          have e4 : (m : Int) = ((encI dv).length : Int) := r4
                          have h1 := HM.out.2.2.1
                          have h2 := hn.out
                          omega
                      clear hfact HRD0
                      go_wp2_with fail
                      refine HRD.mono ?_
                      rintro e vv ⟨rfl, hw⟩
                      subst vv
                      clear HRD
                      go_wp2_with fail
                      go_ret2
                      exact ⟨hQ.out.1.bl, .inl ⟨HF.out, rfl⟩⟩
                    have hendi : ¬ (n : Int) ≤ (p : Int) := by omega
                    have hpl : p < B.length := by rw [hn.out]; omega
                    obtain ⟨ga, go, hga, -⟩ := HC.out.1.at_ p hpl
                    subst hga
                    obtain ⟨z, hz⟩ : ∃ z, z = B.getD p 0 := ⟨_, rfl⟩
                    have hzb := HC.out.1.bd p
                    rw [← hz] at hzb
                    have HZ : Hid (∀ V, Below w.heap.size w V → V.cell? ⟨ga, go + p, none⟩ = some (.int .u8 z)) := fun V hV => by
                      obtain ⟨g', o', e', c'⟩ := (HC.out.1.old hV).at_ p hpl
                      simp only [Option.some.injEq, Addr.mk.injEq, and_true] at e'
                      obtain ⟨rfl, rfl⟩ := e'
                      rw [hz]
                      exact c'
                    have cz := HZ.out wr hQ.out.1.bl
                    have HZB : Hid (B.getD p 0 = z ∧ p < n) := ⟨hz.symm, by omega⟩
                    have hpi2 : (p : Int) < (n : Int) := by omega
                    by_cases hz1 : 1 < z
                    · have HF : Hid (ld24 B = false) := by
                        show _ = _
                        cases h : ld24 B
                        · rfl
                        · exfalso
                          obtain ⟨r1, r2, r3, r4, r5, r6, r7⟩ := HPR.out h
                          have e4 : (m : Int) = ((encI dv).length : Int) := r4
                          have h1 := HM.out.2.2.1
                          have h2 := HZB.out.1
                          have h3 : at3 + (encI dv).length = p := by omega
                          rw [h3] at r7
                          rcases r7 with ⟨-, q, -⟩ | ⟨-, q, -⟩ <;> omega
                      clear hz hzb hpl
                      clear hfact HRD0
                      go_wp2_with fail
                      refine HRD.mono ?_
                      rintro e vv ⟨rfl, hw⟩
                      subst vv
                      clear HRD
                      go_wp2_with fail
                      go_ret2
                      exact ⟨hQ.out.1.bl, .inl ⟨HF.out, rfl⟩⟩
                    have hz1' : ¬ 1 < z := hz1
                    have hzz : z = 0 ∨ z = 1 := by omega
                    have HZZ : Hid (z = 0 ∨ z = 1) := hzz
                    obtain ⟨p1, hp1⟩ : ∃ x, x = p + 1 := ⟨_, rfl⟩
                    have hbw : IntKind.i64.wrap ((p : Int) + 1) = (p1 : Int) := by have := HM.out.2.2.2.1; rw [IntWalk.i64_in _ (by omega)]; omega
                    have hcw : IntKind.i64.wrap ((p1 : Int) - 1) = (p : Int) := by have := HM.out.2.2.2.1; rw [IntWalk.i64_in _ (by omega)]; omega
                    have HP1 : Hid (p1 = p + 1) := hp1
                    have hdw : IntKind.i64.wrap dv = dv := IntWalk.i64_in _ ⟨by omega, by omega⟩
                    obtain ⟨pg, hpg⟩ : ∃ x, x = S3.pg := ⟨_, rfl⟩
                    have d0 := hQ.out.1.rl.pg24
                    rw [← hpg] at d0
                    have hpgb := hQ.out.1.ok.pg
                    rw [← hpg] at hpgb
                    have HPG : Hid (S3.pg = pg ∧ 64 ≤ pg ∧ pg ≤ 4096) := ⟨hpg.symm, hpgb.1, hpgb.2⟩
                    have HDV : Hid (dv ≤ 1099511627776) := by show dv ≤ _; omega
                    have HBK := rblk21 pg (by omega) wr
                    clear hfact HRD0 hz hzb hpl hp1 hpg hpgb hzz hz1
                    go_wp2_with fail
                    refine HRD.mono ?_
                    rintro e vv ⟨rfl, hw⟩
                    subst vv
                    clear HRD
                    go_wp2_with fail
                    refine HBK.mono ?_
                    rintro e v5 ⟨rfl, hbk, b5⟩
                    have hsz5 := (Array.getElem?_eq_some_iff.1 hbk).1
                    obtain ⟨gk, hgk⟩ : ∃ x, x = wr.heap.size := ⟨_, rfl⟩
                    rw [← hgk] at hbk hsz5
                    rw [← hgk]
                    obtain ⟨gp, hgp⟩ : ∃ x, x = v5.heap.size := ⟨_, rfl⟩
                    obtain ⟨v6, hv6⟩ : ∃ x, x = v5.alloc (.cells #[.slice (some ⟨gk, 0, none⟩) pg pg, .bool true, .int .i64 dv] 110) := ⟨_, rfl⟩
                    have HV6 : Hid (v5.alloc (.cells #[.slice (some ⟨gk, 0, none⟩) pg pg, .bool true, .int .i64 dv] 110) = v6 ∧ v5.heap.size = gp) := ⟨hv6.symm, hgp.symm⟩
                    have b56 : Below wr.heap.size wr v6 := by rw [hv6]; exact b5.alloc b5.size _
                    have h6 : v6.heap[gk]? = some (.cells ((List.replicate pg (255 : Int)).map (Value.int .u8)).toArray 5 (0, 0)) := by rw [hv6, heap_alloc_old _ _ hsz5]; exact hbk
                    have h7 : v6.heap[gp]? = some (.cells #[.slice (some ⟨gk, 0, none⟩) pg pg, .bool true, .int .i64 dv] 110 (0, 0)) := by rw [hv6, hgp]; exact heap_alloc_new _ _
                    have H6 : Hid (v6.heap[gk]? = some (.cells ((List.replicate pg (255 : Int)).map (Value.int .u8)).toArray 5 (0, 0)) ∧ v6.heap[gp]? = some (.cells #[.slice (some ⟨gk, 0, none⟩) pg pg, .bool true, .int .i64 dv] 110 (0, 0)) ∧ Below w.heap.size w v6 ∧ Rl21d v6 b G3 S3 ∧ ¬ G3 gk ∧ ¬ G3 gp ∧ w.heap.size ≤ gk ∧ gk < gp ∧ gp < v6.heap.size) := by
                      have hwz := hQ.out.1.bl.size
                      have hlts := hQ.out.1.rl.lts
                      have h5z := b5.size
                      exact ⟨h6, h7, hQ.out.1.bl.trans (b56.mono hwz), hQ.out.1.rl.old b56, fun e => by have := hlts _ e; omega, fun e => by have := hlts _ e; omega, by omega, by omega, (Array.getElem?_eq_some_iff.1 h7).1⟩
                    clear hbk b5 hsz5 hgk hgp hv6 b56 h6 h7 HBK cz
                    go_upto_region 30 with fail
                    rw [HV6.out.1, HV6.out.2]
                    clear HV6
                    have cz := HZ.out v6 H6.out.2.2.1
                    have d6 := H6.out.2.2.2.1.pg24
                    rw [HPG.out.1] at d6
                    have HD6 : Hid (v6.cell? ⟨b, 0, none⟩ = some (.int .i64 (pg : Int))) := d6
                    clear d6 d0
                    have hz0 : z = 0 ∨ ¬ z = 0 := by omega
                    go_upto_if 134 with fail
                    go_cut [4] from 117 to 162 (fun s4 wc => ∃ (p2 k0 cc : Nat) (s : Sh21), s4 = .int .i64 (p2 : Int) ∧ Ly24 w wc b G3 B S0 S3 a' i at3 gp p2 k0 cc s)
                    case first =>
                      rcases HZZ.out with hzv | hzv
                      · subst hzv
                        have hpp : p1 ≤ n := by have h2 := HP1.out; have h3 := HZB.out.2; omega
                        have hsw : IntKind.i64.wrap ((n : Int) - (p1 : Int)) = ((n - p1 : Nat) : Int) := by have := HM.out.2.2.2.1; rw [IntWalk.i64_in _ (by omega)]; omega
                        have d6 := HD6.out
                        by_cases hsh : n - p1 < pg
                        · have hshi : ((n - p1 : Nat) : Int) < (pg : Int) := by omega
                          have HF : Hid (ld24 B = false) := by
                            show _ = _
                            cases h : ld24 B
                            · rfl
                            · exfalso
                              obtain ⟨r1, r2, r3, r4, r5, r6, r7⟩ := HPR.out h
                              have e4 : (m : Int) = ((encI dv).length : Int) := r4
                              have h1 := HM.out.2.2.1
                              have h2 := HZB.out.1
                              have h3 : at3 + (encI dv).length = p := by omega
                              rw [h3] at r7
                              rcases r7 with ⟨-, q, -⟩ | ⟨-, -, q, -⟩
                              · omega
                              · have := HPG.out.1; have := HP1.out; have := hn.out; omega
                          clear hsh hpp hz0 cz
                          have cz := HZ.out v6 H6.out.2.2.1
                          go_wp2_with fail
                          go_ret2
                          exact ⟨H6.out.2.2.1, .inl ⟨HF.out, rfl⟩⟩
                        · have hshi : ¬ ((n - p1 : Nat) : Int) < (pg : Int) := by omega
                          obtain ⟨p2, hp2⟩ : ∃ x, x = p1 + pg := ⟨_, rfl⟩
                          have haw2 : IntKind.i64.wrap ((p1 : Int) + (pg : Int)) = (p2 : Int) := by have := HM.out.2.2.2.1; rw [IntWalk.i64_in _ (by omega)]; omega
                          have hp2n : p2 ≤ n := by omega
                          have X3 := slice_lohi24 ⟨ga, go, none⟩ n k p1 p2 HC.out.2.1 (by omega) hp2n (by have := HC.out.2.1; have := HPG.out.2.1; omega)
                          rw [show p2 - p1 = pg by omega] at X3
                          have HP2 : Hid (p2 = p1 + pg ∧ p2 ≤ n) := ⟨hp2, hp2n⟩
                          obtain ⟨i0, hi0, hz0', hz1'', hz2'⟩ := info_parts info_y21
                          have HI0 : Hid (Tryd.prog.info? 5 = some i0) := hi0
                          obtain ⟨X, hX⟩ : ∃ X, X = (B.drop p1).take pg := ⟨_, rfl⟩
                          have hXl : X.length = pg := by rw [hX, List.length_take, List.length_drop, hn.out]; omega
                          have hXb : ∀ y ∈ X, 0 ≤ y ∧ y ≤ 255 := fun y hy => HC.out.2.2.2.2 y (by rw [hX] at hy; exact List.mem_of_mem_drop (List.mem_of_mem_take hy))
                          obtain ⟨sx, hsx⟩ : ∃ x, x = some ((⟨ga, go, none⟩ : Addr).add p1) := ⟨_, rfl⟩
                          rw [← hsx] at X3
                          have X4 := X3
                          rw [show (p2 : Int) = (p1 : Int) + (pg : Int) by have := HP2.out.1; omega] at X4
                          obtain ⟨v7, hv7⟩ : ∃ x, x = v6.alloc (.cells #[] 5) := ⟨_, rfl⟩
                          obtain ⟨gl, hgl⟩ : ∃ x, x = v6.heap.size := ⟨_, rfl⟩
                          have HV7 : Hid (v6.alloc (.cells #[] 5) = v7 ∧ v6.heap.size = gl) := ⟨hv7.symm, hgl.symm⟩
                          have b67 : Below v6.heap.size v6 v7 := by rw [hv7]; exact (Below.refl _ _).alloc (Nat.le_refl _) _
                          have hsX : Seg v7 sx X := by
                            have h1 := SegK.take (seg_rs24 (c := k) (d := p1) HC.out.1 (by rw [hn.out]; omega) (by rw [hn.out]; exact HC.out.2.1)) pg
                            rw [← hX] at h1
                            have h2 : rs24 (some ⟨ga, go, none⟩) k p1 = sx := by
                              unfold rs24
                              rw [if_neg (by have := HC.out.2.1; have := HPG.out.2.1; omega), hsx]
                              rfl
                            rw [h2] at h1
                            exact (h1.old H6.out.2.2.1).old b67
                          have own0 : v7.ownsRow gl 5 1 (.slice (some ⟨gl, 0, none⟩) ([] : List Int).length 0) ([] : List Int).length (([] : List Int).map (Value.int .u8)) := ⟨rfl, .inr ⟨gl, 0, #[], rfl, Nat.le_refl _, by rw [hv7, hgl]; exact heap_alloc_new _ _, Nat.le_refl _, Nat.zero_le _, rfl, rfl⟩⟩
                          obtain ⟨g9, rc, v8, hr8, own8, b78, k78, hg9⟩ := app21g v7 (c2 := k - p1) (N := X) (by simp) own0 hsX hXl (by have := HPG.out.2.1; omega) (by have := HPG.out.2.2; show 0 + pg ≤ _; omega) (by rw [hgl]; exact b67.size)
                          obtain ⟨-, a8, c8, hv8, sg8, hx8, hc8, -⟩ := own_seg (M := 255) own8 (by decide) hXb
                          injection hv8 with y1 y2 y3
                          subst y1
                          subst y3
                          rw [hXl] at hr8 hc8
                          have hg9l : gl ≤ g9 ∧ g9 < v8.heap.size := ⟨(hx8 _ rfl).2.2.1, (hx8 _ rfl).2.2.2⟩
                          have h68 : Below v6.heap.size v6 v8 := b67.trans (by rw [hgl] at b78; exact b78)
                          have q8 : v8.heap[gp]? = some (.cells #[.slice (some ⟨gk, 0, none⟩) pg pg, .bool true, .int .i64 dv] 110 (0, 0)) := (h68.block gp H6.out.2.2.2.2.2.2.2.2).trans H6.out.2.1
                          obtain ⟨v9, hv9⟩ : ∃ x, x = (v8.setCell ⟨gp, 0, none⟩ (.slice (some ⟨g9, 0, none⟩) pg rc)).setCell ⟨gp, 1, none⟩ (.bool false) := ⟨_, rfl⟩
                          have HV9 : Hid ((v8.setCell ⟨gp, 0, none⟩ (.slice (some ⟨g9, 0, none⟩) pg rc)).setCell ⟨gp, 1, none⟩ (.bool false) = v9) := hv9.symm
                          have q9 : v9.heap[gp]? = some (.cells #[.slice (some ⟨g9, 0, none⟩) pg rc, .bool false, .int .i64 dv] 110 (0, 0)) := by rw [hv9]; simp [World.setCell, Array.getElem?_modify, q8]
                          have k89 : Kp (fun j => j = gp) v8 v9 := by rw [hv9]; exact (Kp.set (S := fun j => j = gp) rfl _).trans (Kp.set (S := fun j => j = gp) rfl _) (fun _ _ e => e)
                          have hne : g9 ≠ gp := by have := H6.out.2.2.2.2.2.2.2.2; omega
                          have sg9 : Seg v9 (some ⟨g9, 0, none⟩) X := sg8.of_cells (fun b' off' i' v' hi' ha' hcl => by
                            cases ha'
                            rw [World.cell?_of_block (a := ⟨g9, 0 + i', none⟩) (k89.block g9 hg9l.2 hne)]
                            exact hcl)
                          have hlts := H6.out.2.2.2.1.lts
                          have r9 : Rl21d v9 b G3 S3 := (H6.out.2.2.2.1.old h68).kp (fun k hk => k89.block k (by have := hlts k hk; have := h68.size; omega) (fun e => H6.out.2.2.2.2.2.1 (by have e' : k = gp := e; rw [← e']; exact hk))) k89.size
                          have HPX : Hid (ld24 B = true → (sh21 S0 (a' : Int) (i : Int)).er = false ∧ dv = (sh21 S0 (a' : Int) (i : Int)).wr ∧ X = fb21 S0 (a' : Int) (i : Int) ∧ S0.pg = pg ∧ (svp21 S0.pg (sh21 S0 (a' : Int) (i : Int))).length = m + 1 + pg) := fun h => by
                            obtain ⟨r1, r2, r3, r4, r5, r6, r7⟩ := HPR.out h
                            have e4 : (m : Int) = ((encI dv).length : Int) := r4
                            have h1 := HM.out.2.2.1
                            have h2 := HZB.out.1
                            have h3 : at3 + (encI dv).length = p := by omega
                            have h5 : S0.pg = pg := by rw [← r6]; exact HPG.out.1
                            rw [h3] at r7
                            rcases r7 with ⟨-, q, -⟩ | ⟨q1, -, -, q2, q3⟩
                            · omega
                            · refine ⟨q1, r2, ?_, h5, by omega⟩
                              rw [hX, ← q2, HP1.out, h5]
                          have HLY : Hid (Ly24 w v9 b G3 B S0 S3 a' i at3 gp p2 g9 rc ⟨X, false, dv⟩) := by
                            have hh := H6.out
                            have hw6 := hh.2.2.1.size
                            have hgpw : w.heap.size ≤ gp := by omega
                            have hb8 : Below w.heap.size w v8 := hh.2.2.1.trans (h68.mono hw6)
                            have e0 : S3.pg - X.length = 0 := by rw [hXl, HPG.out.1]; omega
                            refine ⟨hb8.trans (k89.below (fun k e => by subst e; exact hgpw) hb8.size), r9, by rw [HPG.out.1]; exact q9, ?_, by rw [HPG.out.1]; exact hc8, fun e => by have := hlts _ e; omega, hh.2.2.2.2.2.1, by have := k89.size; omega, by omega, ?_, by rw [HPG.out.1]; exact Nat.le_of_eq hXl, ⟨HM.out.2.2.2.2, HDV.out⟩, (fun h => by cases h), hXb, fun h => ?_⟩
                            · show Seg v9 (some ⟨g9, 0, none⟩) (X ++ List.replicate (S3.pg - X.length) 255)
                              rw [e0, List.replicate_zero, List.append_nil]
                              exact sg9
                            · have h1 := HM.out; have h2 := HP1.out; have h3 := HP2.out; have h4 := hn.out
                              exact ⟨by omega, by omega⟩
                            · obtain ⟨q1, q2, q3, q4, q5⟩ := HPX.out h
                              refine ⟨q1.symm, q2, ?_, by rw [q5]; have h1 := HM.out; have h2 := HP1.out; have h3 := HP2.out; omega⟩
                              show X ++ List.replicate (S0.pg - X.length) 255 = _
                              rw [show S0.pg - X.length = 0 by rw [hXl, q4]; omega, List.replicate_zero, List.append_nil]
                              exact q3
                          have d7 : v7.cell? ⟨b, 0, none⟩ = some (.int .i64 (pg : Int)) := (b67.cell (p := ⟨b, 0, none⟩) (World.block_lt_of_cell? v6 _ HD6.out)).trans HD6.out
                          have d9 : v9.cell? ⟨b, 0, none⟩ = some (.int .i64 (pg : Int)) := by have h := r9.pg24; rw [HPG.out.1] at h; exact h
                          have f80 : v8.cell? ⟨gp, 0, none⟩ = some (.slice (some ⟨gk, 0, none⟩) pg pg) := by simp [World.cell?, q8]
                          have f81 : v8.cell? ⟨gp, 1, none⟩ = some (.bool true) := by simp [World.cell?, q8]
                          have f82 : v8.frozen? ⟨gp, 0, none⟩ = false := by simp [World.frozen?, q8]
                          have f83 : v8.frozen? ⟨gp, 1, none⟩ = false := by simp [World.frozen?, q8]
                          have HR8 : Hid ((Builtin.append_ #[22, 22] 22 #[.slice (some ⟨gl, 0, none⟩) 0 0, .slice sx pg (k - p1)]).run Tryd.prog v7 = .ok (.slice (some ⟨g9, 0, none⟩) pg rc) v8) := hr8
                          have hz00 : Hid True := trivial
                          clear hi0 hz0' hz1'' hz2' hX hXl hXb hsx hv7 hgl b67 hsX own0 hr8 own8 b78 k78 hg9 y2 sg8 hx8 hc8 hg9l h68 q8 hv9 q9 k89 hne sg9 hlts r9
                          go_upto_region 34 with (first | (refine wpList_bs024 rfl 22 5 rfl i0 Tryd.underlying22 HI0.out ?_; rw [HV7.out.1, HV7.out.2]) | refine wpList_app21 rfl (.tmp 144) (.tmp 153) 22 rfl (u := .slice (some ⟨gl, 0, none⟩) 0 0) (v := .slice sx pg (k - p1)) rfl rfl HR8.out ?_)
                          rw [HV9.out]
                          go_wp2_with fail
                          go_meet
                          case rel => exact ⟨p2, g9, rc, _, (by first | rfl | (congr 1; have := HP2.out.1; omega)), HLY.out⟩
                      · subst hzv
                        have HPX : Hid (ld24 B = true → (sh21 S0 (a' : Int) (i : Int)).er = true ∧ dv = (sh21 S0 (a' : Int) (i : Int)).wr ∧ fb21 S0 (a' : Int) (i : Int) = List.replicate S0.pg 255 ∧ (svp21 S0.pg (sh21 S0 (a' : Int) (i : Int))).length = m + 1) := fun h => by
                          obtain ⟨r1, r2, r3, r4, r5, r6, r7⟩ := HPR.out h
                          have e4 : (m : Int) = ((encI dv).length : Int) := r4
                          have h1 := HM.out.2.2.1
                          have h2 := HZB.out.1
                          have h3 : at3 + (encI dv).length = p := by omega
                          rw [h3] at r7
                          rcases r7 with ⟨q1, -, q2, q3⟩ | ⟨-, q, -⟩
                          · exact ⟨q1, r2, q2, by omega⟩
                          · omega
                        have HLY : Hid (Ly24 w v6 b G3 B S0 S3 a' i at3 gp p1 gk pg ⟨[], true, dv⟩) := by
                          have hh := H6.out
                          refine ⟨hh.2.2.1, hh.2.2.2.1, by rw [HPG.out.1]; exact hh.2.1, ?_, by rw [HPG.out.1]; exact Nat.le_refl _, hh.2.2.2.2.1, hh.2.2.2.2.2.1, by have := hh.2.2.2.2.2.2.2; omega, hh.2.2.2.2.2.2.1, ?_, Nat.zero_le _, ⟨HM.out.2.2.2.2, HDV.out⟩, fun _ => rfl, fun z hz => (by cases hz), fun h => ?_⟩
                          · show Seg v6 (some ⟨gk, 0, none⟩) ([] ++ List.replicate (S3.pg - 0) 255)
                            rw [HPG.out.1]
                            simp only [List.nil_append, Nat.sub_zero]
                            exact seg_take21 (cur := (List.replicate pg (255 : Int)).map (Value.int .u8)) hh.1 (by rw [List.length_replicate]; exact List.take_of_length_le (by simp)) (fun z hz => by rw [List.eq_of_mem_replicate hz]; omega)
                          · have h1 := HM.out; have h2 := HP1.out; have h3 := HZB.out.2; have h4 := hn.out
                            exact ⟨by omega, by omega⟩
                          · obtain ⟨q1, q2, q3, q4⟩ := HPX.out h
                            exact ⟨q1.symm, q2, by rw [q3]; simp, by rw [q4]; have h1 := HM.out; have h2 := HP1.out; omega⟩
                        clear cz hz0
                        go_wp2_with fail
                        go_meet
                        case rel => exact ⟨p1, gk, pg, _, rfl, HLY.out⟩
                    case rest =>
                      obtain ⟨p2, k0, cc, s, rfl, hL⟩ := hcut
                      have b9 : Below wc.heap.size wc wc.drew := (Below.refl _ _).drew
                      obtain ⟨u, hu⟩ : ∃ u, u = wc.drew := ⟨_, rfl⟩
                      have HU : Hid (wc.drew = u) := hu.symm
                      rw [← hu] at b9
                      have hLu := hL.old b9
                      obtain ⟨q, len', cap', c1, c2, c3, c4, G4, S4, c5, c6⟩ := hLu.lay hQ.out.1 HLD.out HPA.out.2.2 HPI.out
                      have c3' : pn21 S4.ps (a' : Int) = (len : Int) := by rw [c5]; exact hQ.out.2
                      have hll : (i : Int) < (len' : Int) := by omega
                      obtain ⟨un, hun⟩ : ∃ x, x = u.setCells q (i * 3) [.slice (some ⟨k0, 0, none⟩) S3.pg cc, .bool s.er, .int .i64 s.wr] := ⟨_, rfl⟩
                      rw [← hun] at c6
                      have HN : Hid (Pv24 w un b G4 B S0 S4 a' (i + 1) p2 ∧ pn21 S4.ps (a' : Int) = (len : Int)) := ⟨c6, c3'⟩
                      have HST : Hid (u.there q (i * 3) 3 ∧ u.setCells q (i * 3) [.slice (some ⟨k0, 0, none⟩) S3.pg cc, .bool s.er, .int .i64 s.wr] = un) := ⟨c4, hun.symm⟩
                      have HHD : Hid (u.cell? ⟨b, 3 + a', none⟩ = some (.slice (some ⟨q, 0, none⟩) len' cap') ∧ u.heap[gp]? = some (.cells #[.slice (some ⟨k0, 0, none⟩) S3.pg cc, .bool s.er, .int .i64 s.wr] 110 (0, 0))) := ⟨c1, hLu.hgp⟩
                      have haa : (a' : Int) < 3 := by have := HPA.out.2.2; omega
                      clear b9 hu hL hLu c1 c3 c4 c5 c6 hun c3' cz hz0
                      go_upto_region 35 with fail
                      refine plain_region16 (fun V => V.cell? ⟨b, 3 + a', none⟩ = some (.slice (some ⟨q, 0, none⟩) len' cap') ∧ V.heap[gp]? = some (.cells #[.slice (some ⟨k0, 0, none⟩) S3.pg cc, .bool s.er, .int .i64 s.wr] 110 (0, 0))) 9 (by kernel_rfl) (by rw [HU.out]; exact HHD.out) (fun hHeld => ?_)
                      rw [HU.out] at hHeld ⊢
                      clear HU
                      refine wpAnyK_take (i := 0) (v := .pointer (some ⟨b, 0, none⟩)) rfl (by kernel_rfl) (by kernel_rfl) (by kernel_rfl) (by kernel_rfl) (fun _ _ _ h => h) (Or.inl ⟨by rfl, fun w hSw => by go_simp⟩) hHeld ?_
                      simp only [List.getElem_toArray, List.getElem_cons_zero, Act.put, List.setIfInBounds_toArray, List.set_cons_zero, List.set_cons_succ]
                      refine wpAnyK_take (i := 1) (v := .int .i64 (a' : Int)) rfl (by kernel_rfl) (by kernel_rfl) (by kernel_rfl) (by kernel_rfl) (fun _ _ _ h => h) (Or.inl ⟨by rfl, fun w hSw => by go_simp⟩) hHeld ?_
                      simp only [List.getElem_toArray, List.getElem_cons_zero, List.getElem_cons_succ, Act.put, List.setIfInBounds_toArray, List.set_cons_zero, List.set_cons_succ]
                      refine wpAnyK_take (i := 2) (v := .pointer (some ⟨b, 0, none⟩)) rfl (by kernel_rfl) (by kernel_rfl) (by kernel_rfl) (by kernel_rfl) (fun _ _ _ h => h) (Or.inl ⟨by rfl, fun w hSw => by go_simp⟩) hHeld ?_
                      simp only [List.getElem_toArray, List.getElem_cons_zero, List.getElem_cons_succ, Act.put, List.setIfInBounds_toArray, List.set_cons_zero, List.set_cons_succ]
                      refine wpAnyK_take (i := 3) (v := .pointer (some ⟨b, 3, none⟩)) rfl (by kernel_rfl) (by kernel_rfl) (by kernel_rfl) (by kernel_rfl) (fun _ _ _ h => h) (Or.inl ⟨by rfl, fun w hSw => by go_simp⟩) hHeld ?_
                      simp only [List.getElem_toArray, List.getElem_cons_zero, List.getElem_cons_succ, Act.put, List.setIfInBounds_toArray, List.set_cons_zero, List.set_cons_succ]
                      refine wpAnyK_take (i := 4) (v := .pointer (some ⟨b, 3 + a', none⟩)) rfl (by kernel_rfl) (by kernel_rfl) (by kernel_rfl) (by kernel_rfl) (fun _ _ _ h => h) (Or.inl ⟨by rfl, fun w hSw => by go_simp⟩) hHeld ?_
                      simp only [List.getElem_toArray, List.getElem_cons_zero, List.getElem_cons_succ, Act.put, List.setIfInBounds_toArray, List.set_cons_zero, List.set_cons_succ]
                      refine wpAnyK_take (i := 5) (v := .slice (some ⟨q, 0, none⟩) len' cap') rfl (by kernel_rfl) (by kernel_rfl) (by kernel_rfl) (by kernel_rfl) (fun _ _ _ h => h) (Or.inl ⟨by rfl, fun V hSw => by
                        have m11 := hSw.1
                        go_simp⟩) hHeld ?_
                      simp only [List.getElem_toArray, List.getElem_cons_zero, List.getElem_cons_succ, Act.put, List.setIfInBounds_toArray, List.set_cons_zero, List.set_cons_succ]
                      refine wpAnyK_take (i := 6) (v := .int .i64 (i : Int)) rfl (by kernel_rfl) (by kernel_rfl) (by kernel_rfl) (by kernel_rfl) (fun _ _ _ h => h) (Or.inl ⟨by rfl, fun w hSw => by go_simp⟩) hHeld ?_
                      simp only [List.getElem_toArray, List.getElem_cons_zero, List.getElem_cons_succ, Act.put, List.setIfInBounds_toArray, List.set_cons_zero, List.set_cons_succ]
                      refine wpAnyK_take (i := 7) (v := .agg #[.slice (some ⟨k0, 0, none⟩) S3.pg cc, .bool s.er, .int .i64 s.wr]) rfl (by kernel_rfl) (by kernel_rfl) (by kernel_rfl) (by kernel_rfl) (fun _ _ _ h => h) (yields_row24 (by rfl) 110 (.tmp 17) rfl gp rfl _ _ _ _ (fun w h => h.2) Tryd.underlying110 rfl info_pg24) hHeld ?_
                      (try simp only [List.getElem_toArray, List.getElem_cons_zero, List.getElem_cons_succ, Act.put, List.setIfInBounds_toArray, List.set_cons_zero, List.set_cons_succ])
                      refine wpAnyK_take (i := 8) (v := .pointer (some ⟨q, i * 3, none⟩)) rfl (by kernel_rfl) (by kernel_rfl) (by kernel_rfl) (by kernel_rfl) (fun _ _ _ h => h) (Or.inl ⟨by rfl, fun w hSw => by go_simp⟩) hHeld ?_
                      simp only [List.getElem_toArray, List.getElem_cons_zero, List.getElem_cons_succ, Act.put, List.setIfInBounds_toArray, List.set_cons_zero, List.set_cons_succ]
                      refine wpAnyK_one (i := 9) (by kernel_rfl) rfl (fun K hK => ?_)
                      (try simp only [List.getElem_toArray, List.getElem_cons_zero, List.getElem_cons_succ, Act.put, List.setIfInBounds_toArray, List.set_cons_zero, List.set_cons_succ])
                      rw [if_pos (by rfl)]
                      refine wp_store_mid 110 (.tmp 171) (.tmp 170) rfl q (i * 3) #[.slice (some ⟨k0, 0, none⟩) S3.pg cc, .bool s.er, .int .i64 s.wr] rfl rfl HST.out.1 info_pg24 (by simp [Value.oneCell']) ?_
                      rw [HST.out.2]
                      refine hK.out _ _ (fun h => absurd rfl h) (fun _ => ?_)
                      clear hK K
                      refine wpAnyK_done (by kernel_rfl) ?_ _
                      go_wp2_with fail
                      go_roundw
                      case rel => exact ⟨i + 1, p2, G4, S4, by omega, rfl, rfl, HN.out.1, HN.out.2⟩
                      case measure => simp [intOf]; omega
                  · as_aux_lemma =>
                    obtain rfl : i = len := by omega
                    have hjj : ¬ (i : Int) < (i : Int) := by omega
                    have HX : Hid (Pv24 w wr b G3 B S0 S3 (a' + 1) 0 at3) := hQ.out.1.area hQ.out.2.symm
                    clear hQ
                    go_wp2_with fail
                    exact ⟨⟨a' + 1, at3, G3, S3, by have := HPA.out.2.2; omega, rfl, by simp, HX.out⟩, by simp [intOf]; have := HPA.out.2.2; omega⟩
              · as_aux_lemma =>
                obtain rfl : a' = 3 := by omega
                have hii : ¬ ((3 : Nat) : Int) < 3 := by omega
                have HPE : Hid (Pv24 w wr b G2 B S0 S2 3 0 at2) := hP.out
                have hsv := rsave21 hP.out.rl hP.out.ok hP.out.byt
                clear hP HP0
                go_wp2_with fail
                refine hsv.mono ?_
                rintro e v4 ⟨h9, b9⟩
                rcases h9 with ⟨h9, -⟩ | ⟨-, pp, pc, rfl, hown⟩
                · rw [HPE.out.on] at h9; cases h9
                have hbs : ∀ z ∈ sav21 S2, 0 ≤ z ∧ z ≤ 255 := fun z hz => by
                  unfold sav21 at hz
                  rcases List.mem_append.1 hz with hz | hz
                  · exact svb21_bd HPE.out.ok HPE.out.byt z hz
                  · exact sm21_bd _ z hz
                obtain ⟨-, a'', c', hv, sg, -⟩ := own_seg (M := 255) hown (by decide) hbs
                injection hv with y1 y2 y3
                subst y1
                have B4 : Hid (Below w.heap.size w v4) := HPE.out.bl.trans (b9.mono HPE.out.bl.size)
                have hcA := run_conv22 (P := Tryd.prog) (w := v4) _ pc rfl sg 22 5 9 Tryd.underlying22 Tryd.underlying5 Tryd.underlying9
                have hcB := run_conv22 (P := Tryd.prog) (w := v4) n k hn.out (HC.out.1.old B4.out) 22 5 9 Tryd.underlying22 Tryd.underlying5 Tryd.underlying9
                have hst := str_injS hbs HC.out.2.2.2.2
                have HR4 : Hid (Rl21d v4 b G2 S2) := HPE.out.rl.old b9
                by_cases hEQ : sav21 S2 = B
                · have hld : ld24 B = true := by rw [← hEQ]; exact (ld24_sav HPE.out.ok).1
                  rw [hEQ, beq_self_eq_true] at hst
                  have HFI : Hid (ld24 B = true ∧ Rl21d v4 b G2 S0) := by
                    refine ⟨hld, ?_⟩
                    have hq := HPE.out
                    have hq4 : Pv24 w v4 b G2 B S0 S2 3 0 at2 := ⟨B4.out, HR4.out, hq.gw, hq.ok, hq.byt, hq.on, hq.lf, hq.tn, hq.lg, hq.al, hq.sp⟩
                    rw [HS0.out] at hq4 ⊢
                    exact hq4.fin hld rfl rfl rfl rfl
                  generalize (sav21 S2).length = sl at hcA ⊢
                  rw [hEQ] at hcA
                  generalize strOfNums B = st at hcA hcB
                  have hbb : (st.toList == st.toList) = true := beq_self_eq_true _
                  clear hbs hown sg y2 y3 hEQ hld hsv b9 hst
                  go_wp2_with fail
                  go_ret2
                  refine ⟨B4.out, .inr ⟨HFI.out.1, b, G2, rfl, ?_, HPE.out.gw⟩⟩
                  rw [← HS0.out]
                  exact HFI.out.2
                · have hst' : (sav21 S2 == B) = false := by simpa using hEQ
                  rw [hst'] at hst
                  have HF : Hid (ld24 B = false) := by
                    show _ = _
                    cases h : ld24 B
                    · rfl
                    · exfalso
                      apply hEQ
                      obtain ⟨hO, hB⟩ := HLD.out h
                      obtain ⟨e1, e2, e3, e4, -, e6⟩ := HPE.out.sp h
                      have hon : S0.on = true ∧ S0.lf = 0 ∧ S0.tn = [] := by rw [HS0.out]; exact ⟨rfl, rfl, rfl⟩
                      have htw : Tw24 S0 S2 := ⟨e1, e2, e3, by rw [hon.1]; exact HPE.out.on, e4, by rw [hon.2.1]; exact HPE.out.lf, by rw [hon.2.2]; exact HPE.out.tn, fun x y h0 h1 => by
                        have hx : 0 ≤ x ∧ x < 3 := by
                          unfold pn21 at h1
                          split at h1
                          · omega
                          · omega
                        exact e6 x y hx.1 h0 h1 (.inl hx.2)⟩
                      rw [htw.sav hO]
                      exact hB.symm
                  generalize (sav21 S2).length = sl at hcA ⊢
                  clear hbs hown sg y2 y3 hEQ hst' hsv b9
                  go_wp2_with fail
                  go_ret2
                  exact ⟨B4.out, .inl ⟨HF.out, rfl⟩⟩
    · rw [decide_eq_false hM] at hmg
      have hf : ld24 B = false := by
        cases h : ld24 B
        · rfl
        · exfalso
          obtain ⟨-, hB⟩ := hLD h
          apply hM
          rw [hB]
          unfold sav21 svb21 hdb21
          simp only [List.append_assoc]
          rfl
      have HF : Hid (ld24 B = false) := hf
      clear hf hLD hS0 hs hk hz hl hbd h5 hM hl5
      go_enter Tryd.func9, Tryd.ntmps9
      go_wp2_with fail
      go_ret2
      exact ⟨Below.refl _ _, .inl ⟨HF.out, rfl⟩⟩
end Go.Proofs.YtmjlpfmacblcpaaDoor
