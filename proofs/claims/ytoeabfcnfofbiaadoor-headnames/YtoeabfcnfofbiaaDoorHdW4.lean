
import Derived.Test.YtoeabfcnfofbiaaDoorHdW3
namespace Go.Proofs.YtoeabfcnfofbiaaDoor
open Go.RowKit
set_option linter.unusedVariables false

/-! The landed head: planned. -/
def PlQ (w : World) (lit dist : List Int) (e : Ending) (w' : World) : Prop :=
  (tld8 errC lit dist → ∃ za zc ra rc, e = .returned (.tuple #[.agg #[.int .i64 ((sht8 lit 257).length : Int), .int .i64 ((sht8 dist 1).length : Int), .slice za 19 zc, .int .i64 (tol8 (sz8 lit dist) 19 : Int), .slice ra (rs8 lit dist).length rc], .int .i64 0]) ∧ w'.ownsRow w.heap.size 3 1 (.slice za 19 zc) 19 ((sz8 lit dist).map (Value.int .i64)) ∧ w'.ownsRow w.heap.size 38 2 (.slice ra (rs8 lit dist).length rc) (rs8 lit dist).length (flatN (rs8 lit dist))) ∧
  (¬ tld8 errC lit dist → e = .returned (.tuple #[.agg #[.int .i64 0, .int .i64 0, .slice none 0 0, .int .i64 0, .slice none 0 0], .int .i64 80])) ∧ Below w.heap.size w w'
def five8 (w : World) (r : Nat) (x0 x1 x2 x3 x4 : Value) : World := ((((w.setCell ⟨r, 0, none⟩ x0).setCell ⟨r, 1, none⟩ x1).setCell ⟨r, 2, none⟩ x2).setCell ⟨r, 3, none⟩ x3).setCell ⟨r, 4, none⟩ x4
theorem five8_heap {w : World} {r : Nat} {a b c d e : Value} {t : TypeId} (h : w.heap[r]? = some (.cells #[a, b, c, d, e] t (0, 0))) (x0 x1 x2 x3 x4 : Value) : (five8 w r x0 x1 x2 x3 x4).heap[r]? = some (.cells #[x0, x1, x2, x3, x4] t (0, 0)) := by
  have h1 := heap_setCell_same w r 0 _ t x0 h
  have h2 := heap_setCell_same _ r 1 _ t x1 h1
  have h3 := heap_setCell_same _ r 2 _ t x2 h2
  have h4 := heap_setCell_same _ r 3 _ t x3 h3
  have h5 := heap_setCell_same _ r 4 _ t x4 h4
  unfold five8
  rw [h5]
  rfl
theorem five8_kp (w : World) (r : Nat) (x0 x1 x2 x3 x4 : Value) : Kp (fun k => k = r) w (five8 w r x0 x1 x2 x3 x4) :=
  ((((Kp.set (S := fun k => k = r) rfl x0).trans (S' := fun k => k = r) (Kp.set (S := fun k => k = r) rfl x1) (fun _ _ e => e)).trans (S' := fun k => k = r) (Kp.set (S := fun k => k = r) rfl x2) (fun _ _ e => e)).trans (S' := fun k => k = r) (Kp.set (S := fun k => k = r) rfl x3) (fun _ _ e => e)).trans (S' := fun k => k = r) (Kp.set (S := fun k => k = r) rfl x4) (fun _ _ e => e)
theorem five_cells {w : World} {r : Nat} {a b c d e : Value} {t : TypeId} (h : w.heap[r]? = some (.cells #[a, b, c, d, e] t (0, 0))) : (w.cell? ⟨r, 0, none⟩ = some a ∧ w.cell? ⟨r, 1, none⟩ = some b ∧ w.cell? ⟨r, 2, none⟩ = some c ∧ w.cell? ⟨r, 3, none⟩ = some d ∧ w.cell? ⟨r, 4, none⟩ = some e) ∧ w.frozen? ⟨r, 0, none⟩ = false ∧ w.frozen? ⟨r, 1, none⟩ = false ∧ w.frozen? ⟨r, 2, none⟩ = false ∧ w.frozen? ⟨r, 3, none⟩ = false ∧ w.frozen? ⟨r, 4, none⟩ = false :=
  ⟨⟨(cell_of_row w r 0 _ _ _ h).trans rfl, (cell_of_row w r 1 _ _ _ h).trans rfl, (cell_of_row w r 2 _ _ _ h).trans rfl, (cell_of_row w r 3 _ _ _ h).trans rfl, (cell_of_row w r 4 _ _ _ h).trans rfl⟩, frozen_of_row w r 0 _ _ h, frozen_of_row w r 1 _ _ h, frozen_of_row w r 2 _ _ h, frozen_of_row w r 3 _ _ h, frozen_of_row w r 4 _ _ h⟩
theorem own_kp8 {w w' : World} {S : Nat → Prop} {base n sz : Nat} {e : TypeId} {v : Value} {xs : List Value} (h : w.ownsRow base e sz v n xs) (hk : Kp S w w') (hne : ∀ k, v.ownBlock = some k → ¬ S k) : w'.ownsRow base e sz v n xs := by
  refine ⟨h.1, ?_⟩
  rcases h.2 with h | ⟨g, cap, cur, h1, h2, h3, h4⟩
  · exact .inl h
  · exact .inr ⟨g, cap, cur, h1, h2, (hk.block g (Array.getElem?_eq_some_iff.1 h3).1 (hne g (by rw [h1]; rfl))).trans h3, h4⟩
theorem row5_set {w : World} {r : Nat} {a b c d e : Value} {t : TypeId} (h : w.heap[r]? = some (.cells #[a, b, c, d, e] t (0, 0))) (x : Array Value) : (w.setRow r x).heap[r]? = some (.cells x t (0, 0)) := setRow_heap _ _ _ _ _ _ h
theorem results_ct8 {P : Program} {fn : Func} {p u : Tmp} {ty : TypeId} (h : fn.results = #[.cell p ty, .tmp u]) (tmps : Array Value) (w : World) (g : Nat) (t : TypeId) (cs : Array Value) (fr : Nat × Nat) (d : TypeDesc)
    (hp : tmps.getD p undef = .pointer (some ⟨g, 0, none⟩)) (hg : w.heap[g]? = some (.cells cs t fr))
    (hu : P.underlying ty = some d) (hd : (match d with | .struct _ | .array _ _ => true | _ => false) = true) (hi : (P.info? ty).map (·.size) = some cs.size) :
    (results fn tmps).run P w = .ok (.tuple #[.agg cs, tmps.getD u undef]) w := results_ct h tmps w g t cs fr d hp hg hu hd hi
theorem own_baseZ {w : World} {base base' n sz : Nat} {e : TypeId} {v : Value} {xs : List Value} (h : w.ownsRow base e sz v n xs) (hb : base' ≤ base) : w.ownsRow base' e sz v n xs := own_baseN h hb
set_option maxRecDepth 100000 in
set_option maxHeartbeats 1000000 in
theorem pplan8 (lit dist : List Int) (a b : Option Addr) (n m ca cb : Nat) (hn : Hid (lit.length = n)) (hm : Hid (dist.length = m)) (w : World) (hx : SegZ w a lit) (hy : SegZ w b dist) (hca : n ≤ ca) (hcb : m ≤ cb) (T : TabS w) (O : TabO w) :
    Calls Tryd.prog 35 #[.slice a n ca, .slice b m cb] w (PlQ w lit dist) := by
  obtain ⟨i0, hi, hz0, hz1, hz2⟩ := info_parts info_int
  have HX : Hid (SegZ w a lit) := hx
  have HY : Hid (SegZ w b dist) := hy
  have HTS : Hid (TabS w) := T
  have HTO : Hid (TabO w) := O
  obtain ⟨w0, hw0⟩ : ∃ w0, w0 = w.alloc (.cells #[.int .i64 0, .int .i64 0, .slice none 0 0, .int .i64 0, .slice none 0 0] 98) := ⟨_, rfl⟩
  have HW0 : Hid (w.alloc (.cells #[.int .i64 0, .int .i64 0, .slice none 0 0, .int .i64 0, .slice none 0 0] 98) = w0) := hw0.symm
  have h0 : w0.heap[w.heap.size]? = some (.cells #[.int .i64 0, .int .i64 0, .slice none 0 0, .int .i64 0, .slice none 0 0] 98 (0, 0)) := by rw [hw0]; exact heap_alloc_new w _
  have B0 : Below w.heap.size w w0 := by rw [hw0]; exact below_box8 w _
  have hw0s : w.heap.size < w0.heap.size := by rw [hw0]; simp
  have CT := ptell8 lit dist a b n m ca cb hn hm w0 (hx.old B0) (hy.old B0)
  clear hx hy T O hw0
  by_cases ht : tld8 errC lit dist
  · rw [decide_eq_true ht] at CT
    have HT : Hid (tld8 errC lit dist) := ht
    obtain ⟨_, _, hmay, hal, hbl⟩ := tld8_ok ht
    have hR := runs8_ok hmay
    have hE := fr8_err lit dist ht
    have hZ := sz8_ok ht
    have hn286 : n ≤ 286 ∧ m ≤ 30 := by
      obtain ⟨_, h2, h3, _⟩ := ht
      rw [hn.out] at h2
      rw [hm.out] at h3
      exact ⟨h2, h3⟩
    go_enter Tryd.func35, Tryd.ntmps35
    go_wp2_with fail
    rw [HW0.out]
    refine CT.mono ?_
    rintro e w1 ⟨rfl, B1⟩
    have x1 : Below w.heap.size w w1 := B0.trans (B1.mono B0.size)
    have g1 : w1.heap[w.heap.size]? = some (.cells #[.int .i64 0, .int .i64 0, .slice none 0 0, .int .i64 0, .slice none 0 0] 98 (0, 0)) := (B1.block _ hw0s).trans h0
    have s1 : w.heap.size < w1.heap.size := by have := B1.size; omega
    clear CT B0 B1 h0
    go_wp2_with fail
    refine (ptrim8 lit 257 a n ca hn w1 ((show SegZ w a lit from HX.out).old x1) hca (by omega) (by omega)).mono ?_
    rintro e w2 ⟨oa, oc, rfl, OA2, B2⟩
    have x2 : Below w.heap.size w w2 := x1.trans (B2.mono x1.size)
    obtain ⟨A, hA⟩ : ∃ A, A = sht8 lit 257 := ⟨_, rfl⟩
    obtain ⟨B, hB⟩ : ∃ B, B = sht8 dist 1 := ⟨_, rfl⟩
    have HAB : Hid (sht8 lit 257 = A ∧ sht8 dist 1 = B) := ⟨hA.symm, hB.symm⟩
    obtain ⟨nA, hnA⟩ : ∃ nA, nA = A.length := ⟨_, rfl⟩
    obtain ⟨nB, hnB⟩ : ∃ nB, nB = B.length := ⟨_, rfl⟩
    have HLA : Hid (A.length = nA) := hnA.symm
    have HLB : Hid (B.length = nB) := hnB.symm
    have hbA : 257 ≤ nA ∧ nA ≤ 286 ∧ 1 ≤ nB ∧ nB ≤ 30 := by
      rw [hA] at hnA
      rw [hB] at hnB
      omega
    rw [HAB.out.1, HLA.out] at OA2
    rw [HAB.out.1, HLA.out]
    clear hA hB hnA hnB
    go_wp2_with fail
    refine (ptrim8 dist 1 b m cb hm w2 ((show SegZ w b dist from HY.out).old x2) hcb (by omega) (by omega)).mono ?_
    rintro e w3 ⟨pa, pc, rfl, OB3, B3⟩
    have x3 : Below w.heap.size w w3 := x2.trans (B3.mono x2.size)
    rw [HAB.out.2, HLB.out] at OB3
    rw [HAB.out.2, HLB.out]
    have hAM : ∀ z ∈ A, -9223372036854775808 ≤ z ∧ z ≤ 9223372036854775807 := fun z hz => by
      have := hmay.2 z (by unfold rw8; rw [HAB.out.1]; exact List.mem_append_left _ hz)
      omega
    have hBM : ∀ z ∈ B, -9223372036854775808 ≤ z ∧ z ≤ 9223372036854775807 := fun z hz => by
      have := hmay.2 z (by unfold rw8; rw [HAB.out.2]; exact List.mem_append_right _ hz)
      omega
    have OA3 := own_below OA2 B3
    have SB3 := own_segZ OB3 hBM
    have hpnil : pa = none → pc = 0 := fun e => by
      obtain ⟨g, cp, hv, _⟩ := own_shape OB3 (by omega)
      rw [e] at hv
      simp at hv
    have g3 : w3.heap[w.heap.size]? = some (.cells #[.int .i64 0, .int .i64 0, .slice none 0 0, .int .i64 0, .slice none 0 0] 98 (0, 0)) := by
      rw [B3.block _ (by have := B2.size; omega), B2.block _ s1]
      exact g1
    have hs13 : w1.heap.size ≤ w3.heap.size := by have := B2.size; have := B3.size; omega
    clear OA2 OB3 B2 B3 g1
    rw [← HLB.out]
    go_wp2_with (first | (at_builtin; refine wpList_appZ rfl (.tmp 20) (.tmp 21) 22 rfl w1.heap.size 3 i0 (.int .i64 0) 8 Tryd.underlying22 hi hz0 hz1 hz2 rfl OA3 SB3 hpnil rfl rfl (by rw [HLB.out]; omega) (by rw [HLB.out]; omega) hs13 ?_; intro qa qc w4 OQ4 hg4 _ _))
    rw [HLB.out] at OQ4
    rw [HLB.out]
    have x4 : Below w1.heap.size w3 w4 := (Below.refl _ _).grown hg4 hs13 (fun k hk => (OA3.lt k hk).1)
    have g4 : w4.heap[w.heap.size]? = some (.cells #[.int .i64 0, .int .i64 0, .slice none 0 0, .int .i64 0, .slice none 0 0] 98 (0, 0)) := (x4.block _ s1).trans g3
    have y4 : Below w.heap.size w w4 := x3.trans (x4.mono x1.size)
    have hs4 : w1.heap.size ≤ w4.heap.size := by have := x4.size; omega
    clear x4 hg4 g3 OA3 SB3
    have HRW : Hid (A ++ B = rw8 lit dist) := by show _ = _; unfold rw8; rw [HAB.out.1, HAB.out.2]
    rw [← List.map_append, HRW.out] at OQ4
    have SQ4 : SegZ w4 qa (rw8 lit dist) := own_segZ OQ4 (fun z hz => by have := hmay.2 z hz; omega)
    have HLQ : Hid ((rw8 lit dist).length = nA + nB) := by show _ = _; rw [← HRW.out, List.length_append, HLA.out, HLB.out]
    have hqc : nA + nB ≤ qc := by
      obtain ⟨g, cp, hv, h2, _⟩ := own_shape OQ4 (by omega)
      simp only [Value.slice.injEq] at hv
      omega
    clear OQ4
    have CR := pruns8 (rw8 lit dist) qa (nA + nB) qc HLQ hqc w4 SQ4 (SegZ.old HTS.out y4)
    have HRR : Hid (rns8 (rw8 lit dist) = rs8 lit dist ∧ rer8 (rw8 lit dist) = 0) := by
      unfold rns8 rer8
      rw [if_pos hmay, if_pos hmay]
      exact ⟨rfl, rfl⟩
    rw [HRR.out.1, HRR.out.2] at CR
    obtain ⟨nR, hnR⟩ : ∃ nR, nR = (rs8 lit dist).length := ⟨_, rfl⟩
    have HNR : Hid ((rs8 lit dist).length = nR) := hnR.symm
    have hnR3 : nR ≤ 320 := by have := hR.2; have := hmay.1; unfold rs8 at hnR; omega
    clear hnR SQ4
    go_wp2_with fail
    refine CR.mono ?_
    rintro e w5 ⟨ra, rc, rfl, OR5, B5⟩
    rw [HNR.out] at OR5
    rw [HNR.out]
    have y5 : Below w.heap.size w w5 := y4.trans (B5.mono y4.size)
    have g5 := (B5.block w.heap.size (by omega)).trans g4
    have SR5 : SegN w5 ra (rs8 lit dist) := own_segN OR5 HNR.out
    have hRok : ∀ r ∈ rs8 lit dist, 0 ≤ r.sy ∧ r.sy ≤ 18 := fun r hr => by have := hR.1 r hr; unfold ok8 at this; omega
    have s5 : w1.heap.size ≤ w5.heap.size := by have := B5.size; omega
    clear CR g4
    go_wp2_with fail
    refine (ptally8 (rs8 lit dist) ra nR rc HNR w5 SR5 hRok (by omega)).mono ?_
    rintro e w6 ⟨fa, fc, rfl, OF6, B6⟩
    have HF19 : Hid ((tly8 (rs8 lit dist)).length = 19) := tly8_len _
    rw [HF19.out] at OF6
    rw [HF19.out]
    have y6 : Below w.heap.size w w6 := y5.trans (B6.mono y5.size)
    have g6 := (B6.block w.heap.size (by omega)).trans g5
    have OR6 := own_belowN OR5 B6
    have SF6 : SegZ w6 fa (fr8 lit dist) := own_segZ OF6 (fun z hz => by have := tly8_bd _ z hz; have h3 := HNR.out; omega)
    have s6 : w1.heap.size ≤ w6.heap.size := by have := B6.size; omega
    have CL := lengths_own 7 fa (fr8 lit dist) 19 fc HF19 w6 SF6 (by omega)
    unfold LenO at CL
    rw [hE.2.2.2, hE.2.2.1, hZ.2.1] at CL
    have s46 : w4.heap.size ≤ w6.heap.size := by have := B5.size; have := B6.size; omega
    clear g5 OR5 SR5 OF6
    go_wp2_with fail
    refine CL.mono ?_
    rintro e w7 ⟨za, zc, rfl, OZ7, B7⟩
    have y7 : Below w.heap.size w w7 := y6.trans (B7.mono y6.size)
    have g7 := (B7.block w.heap.size (by omega)).trans g6
    have OR7 := own_belowN OR6 B7
    have SZ7 : SegZ w7 za (sz8 lit dist) := own_segZ OZ7 (fun z hz => by
      obtain ⟨i, hi, rfl⟩ := List.mem_iff_getElem.1 hz
      have := hZ.2.2.1 i (by rw [hZ.2.1] at hi; exact hi)
      simp only [List.getD, List.getElem?_eq_getElem hi, Option.getD_some] at this
      omega)
    have CO := ptoldof8 (sz8 lit dist) za zc hZ.2.1 w7 SZ7 (SegZ.old HTO.out y7)
    clear CL g6 OR6 SF6
    obtain ⟨tq, htq⟩ : ∃ tq, tq = tol8 (sz8 lit dist) 19 := ⟨_, rfl⟩
    have HTQ : Hid (tol8 (sz8 lit dist) 19 = tq) := htq.symm
    rw [HTQ.out] at CO
    clear htq
    obtain ⟨⟨k0, k1, k2, k3, k4⟩, f0, f1, f2, f3, f4⟩ := five_cells g7
    go_wp2_with ((go_at_call 67; refine CO.mono ?_; rintro e w' ⟨rfl, hw'⟩; subst w'))
    have KF := five8_kp w7 w.heap.size (.int .i64 (nA : Int)) (.int .i64 (nB : Int)) (.slice za 19 zc) (.int .i64 (tq : Int)) (.slice ra nR rc)
    refine bodyPost_ret (v := .tuple #[.agg #[.int .i64 (nA : Int), .int .i64 (nB : Int), .slice za 19 zc, .int .i64 (tq : Int), .slice ra nR rc], .int .i64 0]) (results_ct8 (fn := Tryd.f35) (p := 4) (u := 5) (ty := 98) rfl _ _ w.heap.size _ _ _ _ rfl (five8_heap g7 _ _ _ _ _) Tryd.underlying98 rfl (by kernel_rfl)) rfl ?_
    refine ⟨fun _ => ⟨za, zc, ra, rc, ?_, ?_, ?_⟩, fun h => absurd HT.out h, y7.trans (KF.below (fun k e => by omega) y7.size)⟩
    · rw [HAB.out.1, HAB.out.2, HLA.out, HLB.out, HNR.out, HTQ.out]
    · refine own_kp8 (own_baseZ OZ7 y6.size) KF (fun k e e2 => ?_)
      have := (OZ7.lt _ e).1
      omega
    · rw [HNR.out]
      refine own_kp8 (own_baseN OR7 y4.size) KF (fun k e e2 => ?_)
      have := (OR7.lt _ e).1
      omega
  · rw [decide_eq_false ht] at CT
    have HF : Hid (¬ tld8 errC lit dist) := ht
    clear ht
    go_enter Tryd.func35, Tryd.ntmps35
    go_wp2_with fail
    rw [HW0.out]
    refine CT.mono ?_
    rintro e w1 ⟨rfl, B1⟩
    have x1 : Below w.heap.size w w1 := B0.trans (B1.mono B0.size)
    have g1 : w1.heap[w.heap.size]? = some (.cells #[.int .i64 0, .int .i64 0, .slice none 0 0, .int .i64 0, .slice none 0 0] 98 (0, 0)) := (B1.block _ hw0s).trans h0
    clear CT B0 B1 h0
    obtain ⟨⟨k0, k1, k2, k3, k4⟩, f0, f1, f2, f3, f4⟩ := five_cells g1
    go_wp2_with fail
    have KF := five8_kp w1 w.heap.size (.int .i64 0) (.int .i64 0) (.slice none 0 0) (.int .i64 0) (.slice none 0 0)
    refine bodyPost_ret (v := .tuple #[.agg #[.int .i64 0, .int .i64 0, .slice none 0 0, .int .i64 0, .slice none 0 0], .int .i64 80]) (results_ct8 (fn := Tryd.f35) (p := 4) (u := 5) (ty := 98) rfl _ _ w.heap.size _ _ _ _ rfl (five8_heap g1 _ _ _ _ _) Tryd.underlying98 rfl (by kernel_rfl)) rfl ?_
    exact ⟨fun h => absurd h HF.out, fun _ => rfl, x1.trans (KF.below (fun k e => by omega) x1.size)⟩
end Go.Proofs.YtoeabfcnfofbiaaDoor
