import Derived.Test.YtcifalelnfeggaaGreatDoorPl
import Derived.Test.YtcifalelnfeggaaGreatDoorProg
import Derived.Test.YtcifalelnfeggaaGreatDoorPa
import Derived.WalkKit
import Derived.WalkSpells
import Derived.Laws.BytesArg
import Derived.WalkLawsBesides
namespace Go.Proofs.YtcifalelnfeggaaGreatDoor
open Go.RowKit
set_option linter.unusedVariables false

/-! The landed head: planned. -/
def PlQ (w : World) (lit dist : List Int) (e : Ending) (w' : World) : Prop :=
  (tld8 errC lit dist → ∃ za zc ra rc, e = .returned (.tuple #[.agg #[.int .i64 ((sht8 lit 257).length : Int), .int .i64 ((sht8 dist 1).length : Int), .slice za 19 zc, .int .i64 (tol8 (sz8 lit dist) 19 : Int), .slice ra (rs8 lit dist).length rc], .int .i64 0]) ∧ w'.ownsRow w.heap.size 3 1 (.slice za 19 zc) 19 ((sz8 lit dist).map (Value.int .i64)) ∧ w'.ownsRow w.heap.size 211 2 (.slice ra (rs8 lit dist).length rc) (rs8 lit dist).length (flatN (rs8 lit dist))) ∧
  (¬ tld8 errC lit dist → e = .returned (.tuple #[.agg #[.int .i64 0, .int .i64 0, .slice none 0 0, .int .i64 0, .slice none 0 0], .int .i64 80])) ∧ Below w.heap.size w w'
def five8 (w : World) (r : Nat) (x0 x1 x2 x3 x4 : Value) : World := ((((w.setCell ⟨r, 0, none⟩ x0).setCell ⟨r, 1, none⟩ x1).setCell ⟨r, 2, none⟩ x2).setCell ⟨r, 3, none⟩ x3).setCell ⟨r, 4, none⟩ x4
theorem five8_heap {w : World} {r : Nat} {a b c d e : Value} {t : TypeId} (h : w.heap[r]? = some (.cells #[a, b, c, d, e] t (0, 0))) (x0 x1 x2 x3 x4 : Value) : (five8 w r x0 x1 x2 x3 x4).heap[r]? = some (.cells #[x0, x1, x2, x3, x4] t (0, 0)) := by
  have h1 := heap_setCell_same w r 0 _ t x0 h
  have h2 := heap_setCell_same _ r 1 _ t x1 h1
  have h3 := heap_setCell_same _ r 2 _ t x2 h2
  have h4 := heap_setCell_same _ r 3 _ t x3 h3
  have h5 := heap_setCell_same _ r 4 _ t x4 h4
  unfold five8
  rw [h5]
  rfl
theorem five8_kp (w : World) (r : Nat) (x0 x1 x2 x3 x4 : Value) : Kp (fun k => k = r) w (five8 w r x0 x1 x2 x3 x4) :=
  ((((Kp.set (S := fun k => k = r) rfl x0).trans (S' := fun k => k = r) (Kp.set (S := fun k => k = r) rfl x1) (fun _ _ e => e)).trans (S' := fun k => k = r) (Kp.set (S := fun k => k = r) rfl x2) (fun _ _ e => e)).trans (S' := fun k => k = r) (Kp.set (S := fun k => k = r) rfl x3) (fun _ _ e => e)).trans (S' := fun k => k = r) (Kp.set (S := fun k => k = r) rfl x4) (fun _ _ e => e)
theorem five_cells {w : World} {r : Nat} {a b c d e : Value} {t : TypeId} (h : w.heap[r]? = some (.cells #[a, b, c, d, e] t (0, 0))) : (w.cell? ⟨r, 0, none⟩ = some a ∧ w.cell? ⟨r, 1, none⟩ = some b ∧ w.cell? ⟨r, 2, none⟩ = some c ∧ w.cell? ⟨r, 3, none⟩ = some d ∧ w.cell? ⟨r, 4, none⟩ = some e) ∧ w.frozen? ⟨r, 0, none⟩ = false ∧ w.frozen? ⟨r, 1, none⟩ = false ∧ w.frozen? ⟨r, 2, none⟩ = false ∧ w.frozen? ⟨r, 3, none⟩ = false ∧ w.frozen? ⟨r, 4, none⟩ = false :=
  ⟨⟨(cell_of_row w r 0 _ _ _ h).trans rfl, (cell_of_row w r 1 _ _ _ h).trans rfl, (cell_of_row w r 2 _ _ _ h).trans rfl, (cell_of_row w r 3 _ _ _ h).trans rfl, (cell_of_row w r 4 _ _ _ h).trans rfl⟩, frozen_of_row w r 0 _ _ h, frozen_of_row w r 1 _ _ h, frozen_of_row w r 2 _ _ h, frozen_of_row w r 3 _ _ h, frozen_of_row w r 4 _ _ h⟩
theorem own_kp8 {w w' : World} {S : Nat → Prop} {base n sz : Nat} {e : TypeId} {v : Value} {xs : List Value} (h : w.ownsRow base e sz v n xs) (hk : Kp S w w') (hne : ∀ k, v.ownBlock = some k → ¬ S k) : w'.ownsRow base e sz v n xs := by
  refine ⟨h.1, ?_⟩
  rcases h.2 with h | ⟨g, cap, cur, h1, h2, h3, h4⟩
  · exact .inl h
  · exact .inr ⟨g, cap, cur, h1, h2, (hk.block g (Array.getElem?_eq_some_iff.1 h3).1 (hne g (by rw [h1]; rfl))).trans h3, h4⟩
theorem row5_set {w : World} {r : Nat} {a b c d e : Value} {t : TypeId} (h : w.heap[r]? = some (.cells #[a, b, c, d, e] t (0, 0))) (x : Array Value) : (w.setRow r x).heap[r]? = some (.cells x t (0, 0)) := setRow_heap _ _ _ _ _ _ h
theorem results_ct8 {P : Program} {fn : Func} {p u : Tmp} {ty : TypeId} (h : fn.results = #[.cell p ty, .tmp u]) (tmps : Array Value) (w : World) (g : Nat) (t : TypeId) (cs : Array Value) (fr : Nat × Nat) (d : TypeDesc)
    (hp : tmps.getD p undef = .pointer (some ⟨g, 0, none⟩)) (hg : w.heap[g]? = some (.cells cs t fr))
    (hu : P.underlying ty = some d) (hd : (match d with | .struct _ | .array _ _ => true | _ => false) = true) (hi : (P.info? ty).map (·.size) = some cs.size) :
    (results fn tmps).run P w = .ok (.tuple #[.agg cs, tmps.getD u undef]) w := results_ct h tmps w g t cs fr d hp hg hu hd hi
theorem own_baseZ {w : World} {base base' n sz : Nat} {e : TypeId} {v : Value} {xs : List Value} (h : w.ownsRow base e sz v n xs) (hb : base' ≤ base) : w.ownsRow base' e sz v n xs := own_baseN h hb
set_option maxRecDepth 100000 in
set_option maxHeartbeats 1000000 in
theorem pplan8 (lit dist : List Int) (a b : Option Addr) (n m ca cb : Nat) (hn : Hid (lit.length = n)) (hm : Hid (dist.length = m)) (w : World) (hx : SegZ w a lit) (hy : SegZ w b dist) (hca : n ≤ ca) (hcb : m ≤ cb) (T : TabS w) (O : TabO w) :
    Calls Tryz.prog 128 #[.slice a n ca, .slice b m cb] w (PlQ w lit dist) := by
  obtain ⟨i0, hi, hz0, hz1, hz2⟩ := info_parts info_int
  have HX : Hid (SegZ w a lit) := hx
  have HY : Hid (SegZ w b dist) := hy
  have HTS : Hid (TabS w) := T
  have HTO : Hid (TabO w) := O
  obtain ⟨w0, hw0⟩ : ∃ w0, w0 = w.alloc (.cells #[.int .i64 0, .int .i64 0, .slice none 0 0, .int .i64 0, .slice none 0 0] 208) := ⟨_, rfl⟩
  have HW0 : Hid (w.alloc (.cells #[.int .i64 0, .int .i64 0, .slice none 0 0, .int .i64 0, .slice none 0 0] 208) = w0) := hw0.symm
  have h0 : w0.heap[w.heap.size]? = some (.cells #[.int .i64 0, .int .i64 0, .slice none 0 0, .int .i64 0, .slice none 0 0] 208 (0, 0)) := by rw [hw0]; exact heap_alloc_new w _
  have B0 : Below w.heap.size w w0 := by rw [hw0]; exact below_box8 w _
  have hw0s : w.heap.size < w0.heap.size := by rw [hw0]; simp
  have CT := ptell8 lit dist a b n m ca cb hn hm w0 (hx.old B0) (hy.old B0)
  clear hx hy T O hw0
  by_cases ht : tld8 errC lit dist
  · rw [decide_eq_true ht] at CT
    have HT : Hid (tld8 errC lit dist) := ht
    obtain ⟨_, _, hmay, hal, hbl⟩ := tld8_ok ht
    have hR := runs8_ok hmay
    have hE := fr8_err lit dist ht
    have hZ := sz8_ok ht
    have hn286 : n ≤ 286 ∧ m ≤ 30 := by
      obtain ⟨_, h2, h3, _⟩ := ht
      rw [hn.out] at h2
      rw [hm.out] at h3
      exact ⟨h2, h3⟩
    go_enter Tryz.func128, Tryz.ntmps128
    go_wp2_with fail
    rw [HW0.out]
    refine CT.mono ?_
    rintro e w1 ⟨rfl, B1⟩
    have x1 : Below w.heap.size w w1 := B0.trans (B1.mono B0.size)
    have g1 : w1.heap[w.heap.size]? = some (.cells #[.int .i64 0, .int .i64 0, .slice none 0 0, .int .i64 0, .slice none 0 0] 208 (0, 0)) := (B1.block _ hw0s).trans h0
    have s1 : w.heap.size < w1.heap.size := by have := B1.size; omega
    clear CT B0 B1 h0
    go_wp2_with fail
    refine (ptrim8 lit 257 a n ca hn w1 ((show SegZ w a lit from HX.out).old x1) hca (by omega) (by omega)).mono ?_
    rintro e w2 ⟨oa, oc, rfl, OA2, B2⟩
    have x2 : Below w.heap.size w w2 := x1.trans (B2.mono x1.size)
    obtain ⟨A, hA⟩ : ∃ A, A = sht8 lit 257 := ⟨_, rfl⟩
    obtain ⟨B, hB⟩ : ∃ B, B = sht8 dist 1 := ⟨_, rfl⟩
    have HAB : Hid (sht8 lit 257 = A ∧ sht8 dist 1 = B) := ⟨hA.symm, hB.symm⟩
    obtain ⟨nA, hnA⟩ : ∃ nA, nA = A.length := ⟨_, rfl⟩
    obtain ⟨nB, hnB⟩ : ∃ nB, nB = B.length := ⟨_, rfl⟩
    have HLA : Hid (A.length = nA) := hnA.symm
    have HLB : Hid (B.length = nB) := hnB.symm
    have hbA : 257 ≤ nA ∧ nA ≤ 286 ∧ 1 ≤ nB ∧ nB ≤ 30 := by
      rw [hA] at hnA
      rw [hB] at hnB
      omega
    rw [HAB.out.1, HLA.out] at OA2
    rw [HAB.out.1, HLA.out]
    clear hA hB hnA hnB
    go_wp2_with fail
    refine (ptrim8 dist 1 b m cb hm w2 ((show SegZ w b dist from HY.out).old x2) hcb (by omega) (by omega)).mono ?_
    rintro e w3 ⟨pa, pc, rfl, OB3, B3⟩
    have x3 : Below w.heap.size w w3 := x2.trans (B3.mono x2.size)
    rw [HAB.out.2, HLB.out] at OB3
    rw [HAB.out.2, HLB.out]
    have hAM : ∀ z ∈ A, -9223372036854775808 ≤ z ∧ z ≤ 9223372036854775807 := fun z hz => by
      have := hmay.2 z (by unfold rw8; rw [HAB.out.1]; exact List.mem_append_left _ hz)
      omega
    have hBM : ∀ z ∈ B, -9223372036854775808 ≤ z ∧ z ≤ 9223372036854775807 := fun z hz => by
      have := hmay.2 z (by unfold rw8; rw [HAB.out.2]; exact List.mem_append_right _ hz)
      omega
    have OA3 := own_below OA2 B3
    have SB3 := own_segZ OB3 hBM
    have hpnil : pa = none → pc = 0 := fun e => by
      obtain ⟨g, cp, hv, _⟩ := own_shape OB3 (by omega)
      rw [e] at hv
      simp at hv
    have g3 : w3.heap[w.heap.size]? = some (.cells #[.int .i64 0, .int .i64 0, .slice none 0 0, .int .i64 0, .slice none 0 0] 208 (0, 0)) := by
      rw [B3.block _ (by have := B2.size; omega), B2.block _ s1]
      exact g1
    have hs13 : w1.heap.size ≤ w3.heap.size := by have := B2.size; have := B3.size; omega
    clear OA2 OB3 B2 B3 g1
    rw [← HLB.out]
    go_wp2_with (first | (at_builtin; refine wpList_appZ rfl (.tmp 20) (.tmp 21) 39 rfl w1.heap.size 3 i0 (.int .i64 0) 8 Tryz.underlying39 hi hz0 hz1 hz2 rfl OA3 SB3 hpnil rfl rfl (by rw [HLB.out]; omega) (by rw [HLB.out]; omega) hs13 ?_; intro qa qc w4 OQ4 hg4 _ _))
    rw [HLB.out] at OQ4
    rw [HLB.out]
    have x4 : Below w1.heap.size w3 w4 := (Below.refl _ _).grown hg4 hs13 (fun k hk => (OA3.lt k hk).1)
    have g4 : w4.heap[w.heap.size]? = some (.cells #[.int .i64 0, .int .i64 0, .slice none 0 0, .int .i64 0, .slice none 0 0] 208 (0, 0)) := (x4.block _ s1).trans g3
    have y4 : Below w.heap.size w w4 := x3.trans (x4.mono x1.size)
    have hs4 : w1.heap.size ≤ w4.heap.size := by have := x4.size; omega
    clear x4 hg4 g3 OA3 SB3
    have HRW : Hid (A ++ B = rw8 lit dist) := by show _ = _; unfold rw8; rw [HAB.out.1, HAB.out.2]
    rw [← List.map_append, HRW.out] at OQ4
    have SQ4 : SegZ w4 qa (rw8 lit dist) := own_segZ OQ4 (fun z hz => by have := hmay.2 z hz; omega)
    have HLQ : Hid ((rw8 lit dist).length = nA + nB) := by show _ = _; rw [← HRW.out, List.length_append, HLA.out, HLB.out]
    have hqc : nA + nB ≤ qc := by
      obtain ⟨g, cp, hv, h2, _⟩ := own_shape OQ4 (by omega)
      simp only [Value.slice.injEq] at hv
      omega
    clear OQ4
    have CR := pruns8 (rw8 lit dist) qa (nA + nB) qc HLQ hqc w4 SQ4 (SegZ.old HTS.out y4)
    have HRR : Hid (rns8 (rw8 lit dist) = rs8 lit dist ∧ rer8 (rw8 lit dist) = 0) := by
      unfold rns8 rer8
      rw [if_pos hmay, if_pos hmay]
      exact ⟨rfl, rfl⟩
    rw [HRR.out.1, HRR.out.2] at CR
    obtain ⟨nR, hnR⟩ : ∃ nR, nR = (rs8 lit dist).length := ⟨_, rfl⟩
    have HNR : Hid ((rs8 lit dist).length = nR) := hnR.symm
    have hnR3 : nR ≤ 320 := by have := hR.2; have := hmay.1; unfold rs8 at hnR; omega
    clear hnR SQ4
    go_wp2_with fail
    refine CR.mono ?_
    rintro e w5 ⟨ra, rc, rfl, OR5, B5⟩
    rw [HNR.out] at OR5
    rw [HNR.out]
    have y5 : Below w.heap.size w w5 := y4.trans (B5.mono y4.size)
    have g5 := (B5.block w.heap.size (by omega)).trans g4
    have SR5 : SegN w5 ra (rs8 lit dist) := own_segN OR5 HNR.out
    have hRok : ∀ r ∈ rs8 lit dist, 0 ≤ r.sy ∧ r.sy ≤ 18 := fun r hr => by have := hR.1 r hr; unfold ok8 at this; omega
    have s5 : w1.heap.size ≤ w5.heap.size := by have := B5.size; omega
    clear CR g4
    go_wp2_with fail
    refine (ptally8 (rs8 lit dist) ra nR rc HNR w5 SR5 hRok (by omega)).mono ?_
    rintro e w6 ⟨fa, fc, rfl, OF6, B6⟩
    have HF19 : Hid ((tly8 (rs8 lit dist)).length = 19) := tly8_len _
    rw [HF19.out] at OF6
    rw [HF19.out]
    have y6 : Below w.heap.size w w6 := y5.trans (B6.mono y5.size)
    have g6 := (B6.block w.heap.size (by omega)).trans g5
    have OR6 := own_belowN OR5 B6
    have SF6 : SegZ w6 fa (fr8 lit dist) := own_segZ OF6 (fun z hz => by have := tly8_bd _ z hz; have h3 := HNR.out; omega)
    have s6 : w1.heap.size ≤ w6.heap.size := by have := B6.size; omega
    have CL := lengths_own 7 fa (fr8 lit dist) 19 fc HF19 w6 SF6 (by omega)
    unfold LenO at CL
    rw [hE.2.2.2, hE.2.2.1, hZ.2.1] at CL
    have s46 : w4.heap.size ≤ w6.heap.size := by have := B5.size; have := B6.size; omega
    clear g5 OR5 SR5 OF6
    go_wp2_with fail
    refine CL.mono ?_
    rintro e w7 ⟨za, zc, rfl, OZ7, B7⟩
    have y7 : Below w.heap.size w w7 := y6.trans (B7.mono y6.size)
    have g7 := (B7.block w.heap.size (by omega)).trans g6
    have OR7 := own_belowN OR6 B7
    have SZ7 : SegZ w7 za (sz8 lit dist) := own_segZ OZ7 (fun z hz => by
      obtain ⟨i, hi, rfl⟩ := List.mem_iff_getElem.1 hz
      have := hZ.2.2.1 i (by rw [hZ.2.1] at hi; exact hi)
      simp only [List.getD, List.getElem?_eq_getElem hi, Option.getD_some] at this
      omega)
    have CO := ptoldof8 (sz8 lit dist) za zc hZ.2.1 w7 SZ7 (SegZ.old HTO.out y7)
    clear CL g6 OR6 SF6
    obtain ⟨tq, htq⟩ : ∃ tq, tq = tol8 (sz8 lit dist) 19 := ⟨_, rfl⟩
    have HTQ : Hid (tol8 (sz8 lit dist) 19 = tq) := htq.symm
    rw [HTQ.out] at CO
    clear htq
    obtain ⟨⟨k0, k1, k2, k3, k4⟩, f0, f1, f2, f3, f4⟩ := five_cells g7
    go_wp2_with ((go_at_call 150; refine CO.mono ?_; rintro e w' ⟨rfl, hw'⟩; subst w'))
    have KF := five8_kp w7 w.heap.size (.int .i64 (nA : Int)) (.int .i64 (nB : Int)) (.slice za 19 zc) (.int .i64 (tq : Int)) (.slice ra nR rc)
    refine bodyPost_ret (v := .tuple #[.agg #[.int .i64 (nA : Int), .int .i64 (nB : Int), .slice za 19 zc, .int .i64 (tq : Int), .slice ra nR rc], .int .i64 0]) (results_ct8 (fn := Tryz.f128) (p := 4) (u := 5) (ty := 208) rfl _ _ w.heap.size _ _ _ _ rfl (five8_heap g7 _ _ _ _ _) Tryz.underlying208 rfl (by kernel_rfl)) rfl ?_
    refine ⟨fun _ => ⟨za, zc, ra, rc, ?_, ?_, ?_⟩, fun h => absurd HT.out h, y7.trans (KF.below (fun k e => by omega) y7.size)⟩
    · rw [HAB.out.1, HAB.out.2, HLA.out, HLB.out, HNR.out, HTQ.out]
    · refine own_kp8 (own_baseZ OZ7 y6.size) KF (fun k e e2 => ?_)
      have := (OZ7.lt _ e).1
      omega
    · rw [HNR.out]
      refine own_kp8 (own_baseN OR7 y4.size) KF (fun k e e2 => ?_)
      have := (OR7.lt _ e).1
      omega
  · rw [decide_eq_false ht] at CT
    have HF : Hid (¬ tld8 errC lit dist) := ht
    clear ht
    go_enter Tryz.func128, Tryz.ntmps128
    go_wp2_with fail
    rw [HW0.out]
    refine CT.mono ?_
    rintro e w1 ⟨rfl, B1⟩
    have x1 : Below w.heap.size w w1 := B0.trans (B1.mono B0.size)
    have g1 : w1.heap[w.heap.size]? = some (.cells #[.int .i64 0, .int .i64 0, .slice none 0 0, .int .i64 0, .slice none 0 0] 208 (0, 0)) := (B1.block _ hw0s).trans h0
    clear CT B0 B1 h0
    obtain ⟨⟨k0, k1, k2, k3, k4⟩, f0, f1, f2, f3, f4⟩ := five_cells g1
    go_wp2_with fail
    have KF := five8_kp w1 w.heap.size (.int .i64 0) (.int .i64 0) (.slice none 0 0) (.int .i64 0) (.slice none 0 0)
    refine bodyPost_ret (v := .tuple #[.agg #[.int .i64 0, .int .i64 0, .slice none 0 0, .int .i64 0, .slice none 0 0], .int .i64 80]) (results_ct8 (fn := Tryz.f128) (p := 4) (u := 5) (ty := 208) rfl _ _ w.heap.size _ _ _ _ rfl (five8_heap g1 _ _ _ _ _) Tryz.underlying208 rfl (by kernel_rfl)) rfl ?_
    exact ⟨fun h => absurd h HF.out, fun _ => rfl, x1.trans (KF.below (fun k e => by omega) x1.size)⟩
end Go.Proofs.YtcifalelnfeggaaGreatDoor

namespace Go.Proofs.YtcifalelnfeggaaGreatDoor
open Go.RowKit
set_option linter.unusedVariables false

/-! The landed head: Cost. -/
def cb8 (Z : List Int) : List Rn8 → Nat
  | [] => 0
  | r :: R => (Z.getD r.sy.toNat 0).toNat + mor8 r.sy + cb8 Z R
theorem cb8_app (Z : List Int) (b : List Rn8) : ∀ a, cb8 Z (a ++ b) = cb8 Z a + cb8 Z b
  | [] => by simp [cb8]
  | r :: a => by simp only [List.cons_append, cb8, cb8_app Z b a]; omega
def cst8 (lit dist : List Int) : Nat := 14 + 3 * tol8 (sz8 lit dist) 19 + cb8 (sz8 lit dist) (rs8 lit dist)
def CsQ (w : World) (lit dist : List Int) (e : Ending) (w' : World) : Prop := e = .returned (.tuple (if tld8 errC lit dist then #[.int .i64 (cst8 lit dist : Int), .int .i64 0] else #[.int .i64 0, .int .i64 80])) ∧ Below w.heap.size w w'
theorem own_shape1 {w : World} {base n : Nat} {e : TypeId} {a : Option Addr} {cap : Nat} {xs : List Value} (h : w.ownsRow base e 1 (.slice a n cap) n xs) (hn : 0 < n) : ∃ g, a = some ⟨g, 0, none⟩ ∧ n ≤ cap ∧ base ≤ g ∧ g < w.heap.size := by
  obtain ⟨g, cp, hv, h1, h2, h3⟩ := own_shape h hn
  simp only [Value.slice.injEq] at hv
  obtain ⟨rfl, _, rfl⟩ := hv
  exact ⟨g, rfl, h1, h2, h3⟩
set_option maxRecDepth 100000 in
set_option maxHeartbeats 4000000 in
theorem pcost8 (lit dist : List Int) (a b : Option Addr) (n m ca cb : Nat) (hn : Hid (lit.length = n)) (hm : Hid (dist.length = m)) (w : World) (hx : SegZ w a lit) (hy : SegZ w b dist) (hca : n ≤ ca) (hcb : m ≤ cb) (T : TabS w) (O : TabO w) :
    Calls Tryz.prog 104 #[.slice a n ca, .slice b m cb] w (CsQ w lit dist) := by
  have CP := pplan8 lit dist a b n m ca cb hn hm w hx hy hca hcb T O
  have HTS : Hid (TabS w) := T
  clear hx hy T O
  by_cases ht : tld8 errC lit dist
  · have hZ := sz8_ok ht
    have hR := runs8_ok (tld8_ok ht).2.2.1
    have hR3 : (rs8 lit dist).length ≤ 320 := by have := (tld8_ok ht).2.2.1.1; unfold rs8; omega
    have hto := tol8_bd (sz8 lit dist) 19 (by omega)
    have HCS : Hid (cst8 lit dist = 14 + 3 * tol8 (sz8 lit dist) 19 + cb8 (sz8 lit dist) (rs8 lit dist)) := rfl
    have HQ : Hid (∀ t w', t = cst8 lit dist → Below w.heap.size w w' → CsQ w lit dist (.returned (.tuple #[.int .i64 (t : Int), .int .i64 0])) w') := fun t w' ht2 hb => by
      subst ht2
      unfold CsQ
      rw [if_pos ht]
      exact ⟨rfl, hb⟩
    go_enter Tryz.func104, Tryz.ntmps104
    go_wp2_with fail
    refine CP.mono ?_
    rintro e w1 ⟨hyes, _, B1⟩
    obtain ⟨za, zc, ra, rc, rfl, OZ, OR⟩ := hyes ht
    have HOKR : Hid (∀ r ∈ rs8 lit dist, ok8 r) := fun r hr => hR.1 r hr
    clear hyes ht CP hR
    generalize (sht8 lit 257).length = nA at *
    generalize (sht8 dist 1).length = nB at *
    obtain ⟨Z, hZe⟩ : ∃ Z, Z = sz8 lit dist := ⟨_, rfl⟩
    obtain ⟨R, hRe⟩ : ∃ R, R = rs8 lit dist := ⟨_, rfl⟩
    rw [← hZe, ← hRe] at HCS
    rw [← hZe] at hZ hto OZ ⊢
    rw [← hRe] at hZ hR3 OR HOKR ⊢
    clear hZe hRe
    generalize tol8 Z 19 = tq at *
    obtain ⟨nR, hnR⟩ : ∃ nR, nR = R.length := ⟨_, rfl⟩
    have HNR : Hid (R.length = nR) := hnR.symm
    rw [← hnR] at hR3 OR ⊢
    clear hnR
    obtain ⟨zg, rfl, hzc, hzg, hzl⟩ := own_shape1 OZ (by omega)
    have SZ1 : SegZ w1 (some ⟨zg, 0, none⟩) Z := own_segZ OZ (fun z hz => by
      obtain ⟨i, hi, rfl⟩ := List.mem_iff_getElem.1 hz
      have := hZ.2.2.1 i (by rw [hZ.2.1] at hi; exact hi)
      simp only [List.getD, List.getElem?_eq_getElem hi, Option.getD_some] at this
      omega)
    have SR1 : SegN w1 ra R := own_segN OR HNR.out
    obtain ⟨W, hW⟩ : ∃ W, W = w1.alloc (.cells #[.int .i64 (nA : Int), .int .i64 (nB : Int), .slice (some ⟨zg, 0, none⟩) 19 zc, .int .i64 (tq : Int), .slice ra nR rc] 208) := ⟨_, rfl⟩
    have HWE : Hid (w1.alloc (.cells #[.int .i64 (nA : Int), .int .i64 (nB : Int), .slice (some ⟨zg, 0, none⟩) 19 zc, .int .i64 (tq : Int), .slice ra nR rc] 208) = W) := hW.symm
    have BW : Below w1.heap.size w1 W := by rw [hW]; exact below_box8 _ _
    have hPW : W.heap[w1.heap.size]? = some (.cells #[.int .i64 (nA : Int), .int .i64 (nB : Int), .slice (some ⟨zg, 0, none⟩) 19 zc, .int .i64 (tq : Int), .slice ra nR rc] 208 (0, 0)) := by rw [hW]; exact heap_alloc_new _ _
    have hlW : w1.heap.size < W.heap.size := (Array.getElem?_eq_some_iff.1 hPW).1
    have p2 : W.cell? ⟨w1.heap.size, 2, none⟩ = some (.slice (some ⟨zg, 0, none⟩) 19 zc) := (cell_of_row W _ 2 _ _ _ hPW).trans rfl
    have SZW := SZ1.old BW
    have SRW := SR1.old BW
    have TW : TabS W := SegZ.old (SegZ.old HTS.out B1) BW
    have xW : Below w.heap.size w W := B1.trans (BW.mono B1.size)
    clear hW BW OZ OR SZ1 SR1 hPW
    go_wp2_with fail
    rw [HWE.out]
    clear HWE
    go_loopw [8, 27] (fun tt ti wr => ∃ (i t : Nat), i ≤ nR ∧ ti = .int .i64 (i : Int) ∧ tt = .int .i64 (t : Int) ∧ Hid (t = 14 + 3 * tq + cb8 Z (R.take i)) ∧ t ≤ 71 + 14 * i ∧ Below W.heap.size W wr) (fun _ ti _ => nR - (intOf ti).toNat)
    case atStart => exact ⟨0, 14 + 3 * tq, by omega, rfl, by go_num, (by show _ = _; simp [cb8]), by omega, Below.refl _ _⟩
    case round =>
      obtain ⟨i, t, hin, rfl, rfl, HTT, htb, BR⟩ := hrel
      by_cases hlt : i < nR
      · have hlti : (i : Int) < (nR : Int) := by omega
        have hil : i < R.length := by rw [HNR.out]; exact hlt
        obtain ⟨rb, off, rfl, cs, cc⟩ := (SRW.old BR).at_ i hil
        have HTK : Hid (R.take (i + 1) = R.take i ++ [R.getD i ⟨0, 0⟩]) := take_snocN hil
        have hok := HOKR.out (R.getD i ⟨0, 0⟩) (by simp [List.getD, hil])
        generalize R.getD i ⟨0, 0⟩ = r at *
        obtain ⟨sy, ct⟩ := r
        simp only [ok8] at cs cc hok
        obtain ⟨s, rfl⟩ : ∃ s : Nat, sy = (s : Int) := ⟨sy.toNat, by omega⟩
        have hs19 : (s : Int) < 19 := by omega
        obtain ⟨_, _, hZb, _⟩ := hZ
        have hzb := hZb s (by omega)
        obtain ⟨zg', off', ez, cz⟩ := (SZW.old BR).at_ s (by omega)
        cases ez
        rw [Nat.zero_add] at cz
        obtain ⟨_, _, c2⟩ := TabS.at8 (SegZ.old TW BR) s (by omega)
        have hmb := mor8_in (s : Int)
        have hTn : Hid (14 + 3 * tq + cb8 Z (R.take (i + 1)) = t + ((Z.getD s 0).toNat + mor8 (s : Int))) := by
          show _ = _
          rw [HTK.out, cb8_app, HTT.out]
          simp only [cb8, Int.toNat_natCast]
          omega
        generalize Z.getD s 0 = z at *
        generalize mor8 (s : Int) = mo at *
        obtain ⟨zn, rfl⟩ : ∃ zn : Nat, z = (zn : Int) := ⟨z.toNat, by omega⟩
        rw [Int.toNat_natCast] at hTn
        have pr := (BR.cell (p := ⟨w1.heap.size, 2, none⟩) hlW).trans p2
        have hlr : w1.heap.size < wr.heap.size := by have := BR.size; omega
        have h0r : 0 < wr.heap.size := by omega
        have hzr : zg < wr.heap.size := by omega
        have hBn := BR.alloc BR.size (.cells #[.int .i64 (s : Int), .int .i64 ct] 211)
        clear SRW SZW TW HTT HTK
        go_wp2_with fail
        go_region
        go_wp2_with fail
        go_roundw
        case rel => exact ⟨i + 1, t + (zn + mo), by omega, by go_num, by go_num, hTn.out.symm, by omega, hBn.drew⟩
        case measure => simp [intOf]; omega
      · have hge : ¬ (i : Int) < (nR : Int) := by omega
        have hTA : R.take i = R := List.take_of_length_le (by rw [HNR.out]; omega)
        rw [hTA] at HTT
        have HF := HQ.out t wr (by rw [HTT.out, HCS.out]) (xW.trans (BR.mono xW.size))
        clear HQ HTT HCS
        go_wp2_with fail
        go_ret2
        exact HF
  · have HF : Hid (∀ w', Below w.heap.size w w' → CsQ w lit dist (.returned (.tuple #[.int .i64 0, .int .i64 80])) w') := fun w' hb => by
      unfold CsQ
      rw [if_neg ht]
      exact ⟨rfl, hb⟩
    go_enter Tryz.func104, Tryz.ntmps104
    go_wp2_with fail
    refine CP.mono ?_
    rintro e w1 ⟨_, hno, B1⟩
    obtain rfl := hno ht
    clear CP hno ht
    go_wp2_with fail
    go_ret2
    exact HF.out _ (B1.trans ((below_box8 w1 _).mono B1.size))
end Go.Proofs.YtcifalelnfeggaaGreatDoor

namespace Go.Proofs.YtcifalelnfeggaaGreatDoor
open Go.RowKit
set_option linter.unusedVariables false

/-- The codes that have been given out when length n has come to symbol s. -/
def cdn (zs : List Int) (N n s : Nat) : List Int := (List.range N).map fun t => if 0 < ln zs t ∧ (ln zs t < n ∨ (ln zs t = n ∧ t < s)) then (cd zs t : Int) else 0
theorem cdn_len (zs : List Int) (N n s : Nat) : (cdn zs N n s).length = N := by simp [cdn]
theorem cdn_zero (zs : List Int) (N : Nat) : cdn zs N 1 0 = List.replicate N 0 := by
  apply List.ext_getElem (by simp [cdn])
  intro i h1 h2
  simp only [cdn, List.getElem_map, List.getElem_range, List.getElem_replicate]
  rw [if_neg (by omega)]
theorem cdn_next (zs : List Int) (n : Nat) : cdn zs zs.length n zs.length = cdn zs zs.length (n + 1) 0 := by
  unfold cdn
  apply List.map_congr_left
  intro t ht
  rw [List.mem_range] at ht
  have e : (0 < ln zs t ∧ (ln zs t < n ∨ ln zs t = n ∧ t < zs.length)) = (0 < ln zs t ∧ (ln zs t < n + 1 ∨ ln zs t = n + 1 ∧ t < 0)) := propext (by omega)
  simp only [e]
theorem cdn_skip {zs : List Int} {N n s : Nat} (h : ln zs s ≠ n) : cdn zs N n (s + 1) = cdn zs N n s := by
  unfold cdn
  apply List.map_congr_left
  intro t _
  have e : (0 < ln zs t ∧ (ln zs t < n ∨ ln zs t = n ∧ t < s + 1)) = (0 < ln zs t ∧ (ln zs t < n ∨ ln zs t = n ∧ t < s)) := by
    apply propext
    by_cases c : t = s
    · subst c; omega
    · omega
  simp only [e]
theorem cdn_put {zs : List Int} {N n s : Nat} (h : ln zs s = n) (h0 : 0 < n) : (cdn zs N n s).set s (cd zs s : Int) = cdn zs N n (s + 1) := by
  apply List.ext_getElem (by simp [cdn])
  intro i h1 h2
  simp only [List.getElem_set, cdn, List.getElem_map, List.getElem_range]
  by_cases e : s = i
  · subst e
    rw [if_pos rfl, if_pos (by omega)]
  · rw [if_neg e]
    have e2 : (0 < ln zs i ∧ (ln zs i < n ∨ ln zs i = n ∧ i < s)) = (0 < ln zs i ∧ (ln zs i < n ∨ ln zs i = n ∧ i < s + 1)) := propext (by omega)
    simp only [e2]
theorem cdn_all {zs : List Int} (h : LOk zs) : cdn zs zs.length 16 0 = cds zs := by
  unfold cdn cds
  apply List.map_congr_left
  intro t ht
  have hl := (h.ln t).2
  by_cases c : 0 < ln zs t
  · rw [if_pos (by omega)]
  · rw [if_neg (by omega)]
    have : zs.getD t 0 = 0 := by have := (h.ln t).1; omega
    rw [cd_none this]
    rfl
/-- What the document's two numbers mean at length n, symbol s. -/
def NL (zs : List Int) (n s nx la : Nat) : Prop := (la = 0 → nx = 0 ∧ cF zs n + cC (zs.take s) n = 0) ∧ (0 < la → la ≤ n ∧ (nx + 1) * 2 ^ (n - la) = cF zs n + cC (zs.take s) n)
theorem NL.start (zs : List Int) : NL zs 1 0 0 0 := by
  refine ⟨fun _ => ⟨rfl, ?_⟩, fun h => by omega⟩
  rw [cF_succ, cC_zero, List.take_zero]
  unfold cC
  simp [cF]
theorem NL.next {zs : List Int} {n nx la : Nat} (h : NL zs n zs.length nx la) : NL zs (n + 1) 0 nx la := by
  have e0 : cC (zs.take 0) (n + 1) = 0 := by rw [List.take_zero]; unfold cC; split <;> simp
  have e1 : zs.take zs.length = zs := List.take_length
  unfold NL at h ⊢
  rw [e1] at h
  rw [e0, cF_succ]
  refine ⟨fun hl => ⟨(h.1 hl).1, by have := (h.1 hl).2; omega⟩, fun hl => ⟨by have := (h.2 hl).1; omega, ?_⟩⟩
  have h2 := h.2 hl
  rw [show n + 1 - la = (n - la) + 1 by omega, Nat.pow_succ, ← Nat.mul_assoc, h2.2]
  omega
theorem NL.skip {zs : List Int} {n s nx la : Nat} {z : Int} (h : NL zs n s nx la) (ht : zs.take (s + 1) = zs.take s ++ [z]) (hz : z ≠ (n : Int)) : NL zs n (s + 1) nx la := by
  unfold NL at h ⊢
  rw [ht, cC_snoc, if_neg (fun e => hz e.2), Nat.add_zero]
  exact h
theorem NL.code {zs : List Int} {n s nx la : Nat} (h : NL zs n s nx la) (hz : zs.getD s 0 = (n : Int)) (h0 : 0 < n) : cd zs s = (if la = 0 then nx else (nx + 1) * 2 ^ (n - la)) := by
  have e := cd_nxt hz h0
  by_cases c : la = 0
  · rw [if_pos c]
    have := h.1 c
    omega
  · rw [if_neg c]
    have := (h.2 (by omega)).2
    omega
theorem NL.put {zs : List Int} {n s : Nat} (ht : zs.take (s + 1) = zs.take s ++ [(n : Int)]) (hz : zs.getD s 0 = (n : Int)) (h0 : 0 < n) : NL zs n (s + 1) (cd zs s) n := by
  have e := cd_nxt hz h0
  refine ⟨fun h => by omega, fun _ => ⟨Nat.le_refl _, ?_⟩⟩
  rw [ht, cC_snoc, if_pos ⟨by omega, rfl⟩, Nat.sub_self, Nat.pow_zero, Nat.mul_one]
  omega

theorem NL.bd {zs : List Int} {n s nx la : Nat} (h : NL zs n s nx la) (hf : cF zs n ≤ 100000000) (hc : cC (zs.take s) n ≤ 288) : nx ≤ 100001000 := by
  by_cases c : la = 0
  · have := (h.1 c).1; omega
  · have h1 := (h.2 (by omega)).2
    have h2 : (nx + 1) * 1 ≤ (nx + 1) * 2 ^ (n - la) := Nat.mul_le_mul_left _ Nat.one_le_two_pow
    omega
def RodQ (w : World) (zs : List Int) (e : Ending) (w' : World) : Prop := ∃ b c, e = .returned (.tuple #[.slice b (cdsR zs).length c, .int .i64 (errC zs)]) ∧ w'.ownsRow w.heap.size 3 1 (.slice b (cdsR zs).length c) (cdsR zs).length ((cdsR zs).map (Value.int .i64)) ∧ Below w.heap.size w w'
set_option maxRecDepth 100000 in
set_option maxHeartbeats 2000000 in
theorem rcodes_any (a : Option Addr) (zs : List Int) (n cap : Nat) (hn : Hid (zs.length = n)) (w : World) (hs : SegZ w a zs) (hl : n ≤ 9223372036854775807) :
    Calls Tryz.prog 111 #[.slice a n cap] w fun e w' => RodQ w zs e w' := by
  have HC := rcheck_any a zs n cap hn w hs hl
  by_cases hok : errC zs = 0
  · have HOK : Hid (errC zs = 0) := hok
    have HL := errS_zero (errC_zero hok).1
    have HLK : Hid (LOk zs) := HL.2
    have hn288 : n ≤ 288 := by have := hn.out; have := HL.1; omega
    rw [hok] at HC
    clear hok HL
    have hb : ∀ l, cC zs l ≤ 288 := cC_288 (errC_zero HOK.out).1
    have HFB : Hid (∀ l, l ≤ 15 → cF zs l ≤ 100000000) := cF_bd hb
    have hmk := run_make_ints n (by omega)
    go_enter Tryz.func111, Tryz.ntmps111
    go_wp2_with fail
    refine HC.mono ?_
    rintro e w1 ⟨rfl, hw1⟩
    subst w1
    go_wp2_with fail
    have hO := own_zeros w n (by omega)
    have B5 : Below w.heap.size w (w.alloc (.cells (Array.replicate n (.int .i64 0)) 3)) := (Below.refl _ _).alloc (Nat.le_refl _) _
    generalize w.alloc (.cells (Array.replicate n (.int .i64 0)) 3) = W5 at *
    obtain ⟨g, eg⟩ : ∃ g, g = w.heap.size := ⟨_, rfl⟩
    have HG : Hid (w.heap.size ≤ g) := Nat.le_of_eq eg.symm
    rw [← eg]
    rw [show (Value.slice (some ⟨w.heap.size, 0, none⟩) n n) = .slice (some ⟨g, 0, none⟩) n n by rw [← eg]] at hO
    rw [← cdn_zero zs n] at hO
    clear eg
    go_loopw [6, 7, 8] (fun tn ta tl wr => ∃ nx la lv : Nat, 1 ≤ lv ∧ lv ≤ 16 ∧ tn = .int .i64 (nx : Int) ∧ ta = .int .i64 (la : Int) ∧ tl = .int .i64 (lv : Int) ∧ wr.ownsRow w.heap.size 3 1 (.slice (some ⟨g, 0, none⟩) n n) n ((cdn zs n lv 0).map (Value.int .i64)) ∧ Below w.heap.size w wr ∧ Hid (NL zs lv 0 nx la)) (fun _ _ tl _ => 16 - (intOf tl).toNat)
    case atStart => exact ⟨0, 0, 1, by omega, by omega, rfl, rfl, rfl, hO, B5, NL.start zs⟩
    case round =>
      obtain ⟨nx, la, lv, hlv1, hlv2, rfl, rfl, rfl, O1, B1, HNL⟩ := hrel
      by_cases hlv : lv ≤ 15
      · have hlvi : (lv : Int) ≤ 15 := by omega
        have hfb := HFB.out lv hlv
        have HFL : Hid (cF zs lv ≤ 100000000) := hfb
        clear hfb
        go_wp2_with fail
        go_loopw [6, 7, 25] (fun tn ta tj wr => ∃ nx la j : Nat, j ≤ n ∧ tn = .int .i64 (nx : Int) ∧ ta = .int .i64 (la : Int) ∧ tj = .int .i64 (j : Int) ∧ wr.ownsRow w.heap.size 3 1 (.slice (some ⟨g, 0, none⟩) n n) n ((cdn zs n lv j).map (Value.int .i64)) ∧ Below w.heap.size w wr ∧ Hid (NL zs lv j nx la)) (fun _ _ tj _ => n - (intOf tj).toNat)
        case atStart => exact ⟨nx, la, 0, by omega, rfl, rfl, rfl, O1, B1, HNL⟩
        case round =>
          obtain ⟨nx, la, j, hj, rfl, rfl, rfl, OJ, Bw, HN⟩ := hrel
          clear O1 B1 HNL
          by_cases hjn : j < n
          · have hji : (j : Int) < (n : Int) := by omega
            obtain ⟨b, off, rfl, c0⟩ := (hs.old Bw).at_ j (by have := hn.out; omega)
            have HTK : Hid (zs.take (j + 1) = zs.take j ++ [zs.getD j 0]) := take_snocZ (by have := hn.out; omega)
            have hzl := HLK.out.ln j
            have HZL : Hid (zs.getD j 0 = (ln zs j : Int)) := hzl.1
            have HZ : Hid (∃ z, z = zs.getD j 0) := ⟨_, rfl⟩
            obtain ⟨z, hz⟩ := HZ.out
            have HZJ : Hid (z = zs.getD j 0) := hz
            have hbz : 0 ≤ z ∧ z ≤ 15 := by rw [hz]; exact HLK.out.get j
            rw [← hz] at HTK c0
            clear HZ hz hzl
            by_cases hzl : z = (lv : Int)
            · have HLJ : Hid (ln zs j = lv) := by have h1 := HZJ.out; have h2 := HZL.out; show _ = _; omega
              have HZV : Hid (zs.getD j 0 = (lv : Int)) := by show _ = _; rw [← HZJ.out]; exact hzl
              have HCD : Hid (cd zs j = if la = 0 then nx else (nx + 1) * 2 ^ (lv - la)) := HN.out.code HZV.out (by omega)
              have hnb : nx ≤ 100001000 := HN.out.bd HFL.out (Nat.le_trans (cC_le _ _) (by have := hn.out; simp; omega))
              have hcdb : cd zs j < 32768 := (cd_small HOK.out (by have := hn.out; omega)).2.2
              have HTK2 : Hid (zs.take (j + 1) = zs.take j ++ [(lv : Int)]) := by have := HTK.out; rw [hzl] at this; exact this
              have HNP : Hid (NL zs lv (j + 1) (cd zs j) lv) := NL.put HTK2.out HZV.out (by omega)
              obtain ⟨a0, fz⟩ := own_cell1 OJ (i := j) (by rw [cdn_len]; omega)
              have f0 := fz j
              obtain ⟨OS, GS⟩ := OJ.stored j (.int .i64 (cd zs j : Int))
              rw [← List.map_set, cdn_put HLJ.out (by omega)] at OS
              have HOS : Hid _ := OS
              have HBS : Hid _ := Bw.grown GS Bw.size (fun k hk => by cases hk; exact HG.out)
              clear OS GS fz
              generalize (cdn zs n lv j).getD j 0 = zz at *
              have HC2 : Hid (∃ c, c = cd zs j) := ⟨_, rfl⟩
              obtain ⟨c, hc⟩ := HC2.out
              have HCJ : Hid (c = cd zs j) := hc
              rw [← hc] at HCD hcdb HNP HOS HBS
              clear hc HC2
              subst hzl
              by_cases hla : la = 0
              · subst hla
                have e : Hid (c = nx) := by show _ = _; have := HCD.out; simpa using this
                have e2 := e.out
                subst e2
                clear HCD
                go_wp2_with fail
                go_roundw
                case rel => exact ⟨c, lv, j + 1, by omega, rfl, rfl, by go_num, HOS.out, HBS.out, HNP⟩
                case measure => simp [intOf]; omega
              · have hlai : (0 : Int) < (la : Int) := by omega
                have hlal : la ≤ lv := (HN.out.2 (by omega)).1
                obtain ⟨q, hq⟩ : ∃ q : Nat, q = lv - la := ⟨_, rfl⟩
                have rq : (lv : Int) - (la : Int) = (q : Int) := by omega
                obtain ⟨y, hy⟩ : ∃ y, y = nx + 1 := ⟨_, rfl⟩
                have ry : (nx : Int) + 1 = (y : Int) := by omega
                have HCE : Hid (c = y * 2 ^ q) := by have := HCD.out; rw [if_neg hla, ← hq, ← hy] at this; exact this
                have hw : RowKit.wrap64 ((y : Int) * 2 ^ q) = (c : Int) := by
                  have e : ((y : Int) * 2 ^ q) = (c : Int) := by rw [HCE.out]; simp
                  rw [e, ← IntWalk.i64_left]
                  exact IntWalk.i64_in _ (by omega)
                have hq15 : q ≤ 15 := by omega
                have hyb : y ≤ 100001001 := by omega
                clear hq hy HCD
                go_wp2_with fail
                go_roundw
                case rel => exact ⟨c, lv, j + 1, by omega, by rw [hw], rfl, by go_num, HOS.out, HBS.out, HNP⟩
                case measure => simp [intOf]; omega
            · have HLJ : Hid (ln zs j ≠ lv) := by have h1 := HZJ.out; have h2 := HZL.out; show _ ≠ _; omega
              have HNS : Hid (NL zs lv (j + 1) nx la) := HN.out.skip HTK.out hzl
              go_wp2_with fail
              go_roundw
              case rel => exact ⟨nx, la, j + 1, by omega, rfl, rfl, by go_num, by rw [cdn_skip HLJ.out]; exact OJ, Bw, HNS⟩
              case measure => simp [intOf]; omega
          · obtain rfl : j = n := by omega
            have HNX : Hid (NL zs (lv + 1) 0 nx la) := by have := HN.out; rw [← hn.out] at this; exact this.next
            have e : cdn zs j lv j = cdn zs j (lv + 1) 0 := by have := cdn_next zs lv; rw [hn.out] at this; exact this
            rw [e] at OJ
            clear e
            go_wp2_with fail
            go_roundw
            case rel => exact ⟨nx, la, lv + 1, by omega, by omega, rfl, rfl, by go_num, OJ, Bw, HNX⟩
            case measure => simp [intOf]; omega
      · obtain rfl : lv = 16 := by omega
        go_wp2_with fail
        go_ret2
        have e1 : cdsR zs = cds zs := by unfold cdsR; rw [if_pos HOK.out]
        have e2 : cdn zs n 16 0 = cds zs := by have := cdn_all HLK.out; rw [hn.out] at this; exact this
        have e3 : (cds zs).length = n := by rw [cds_len]; exact hn.out
        refine ⟨some ⟨g, 0, none⟩, n, ?_, ?_, B1⟩
        · rw [e1, e3, HOK.out]; rfl
        · rw [e1, e3, ← e2]; exact O1
  · have HNK : Hid (¬ errC zs = 0) := hok
    have e1 : Hid (cdsR zs = []) := by show _ = _; unfold cdsR; rw [if_neg hok]
    have key : ∀ E : Int, E = 50 ∨ E = 51 ∨ E = 52 → errC zs = E → Calls Tryz.prog 111 #[.slice a n cap] w fun e w' => RodQ w zs e w' := by
      intro E hE hEE
      have HEE : Hid (errC zs = E) := hEE
      rw [hEE] at HC
      clear hEE hok
      rcases hE with rfl | rfl | rfl
      all_goals
        go_enter Tryz.func111, Tryz.ntmps111
        go_wp2_with fail
        refine HC.mono ?_
        rintro e w1 ⟨rfl, hw1⟩
        subst w1
        go_wp2_with fail
        go_ret2
        refine ⟨none, 0, ?_, ?_, Below.refl _ _⟩
        · rw [e1.out, HEE.out]; rfl
        · rw [e1.out]; exact World.ownsRow_nil _ _ _ _
    rcases errC_cases zs with h | h | h | h
    · exact absurd h hok
    · exact key 50 (.inl rfl) h
    · exact key 51 (.inr (.inl rfl)) h
    · exact key 52 (.inr (.inr rfl)) h
end Go.Proofs.YtcifalelnfeggaaGreatDoor

namespace Go.Proofs.YtcifalelnfeggaaGreatDoor
open Go.RowKit
set_option linter.unusedVariables false

theorem run_conv_seg {P : Program} {w : World} {a : Option Addr} {zs : List Int} (cap : Nat) (h : Seg w a zs) (src e dst : TypeId) (hs : P.underlying src = some (.slice e)) (he : P.underlying e = some (.int .u8)) (hd : P.underlying dst = some .string) :
    (convert src dst (.slice a zs.length cap)).run P w = .ok (.string (strOfNums zs)) w := by
  by_cases hz : 0 < zs.length
  · obtain ⟨b, off, rfl, _⟩ := h.at_ 0 hz
    refine run_convert_bytes_arg w src e hs he b off zs.length cap zs rfl (fun i hi => ?_) dst hd
    obtain ⟨b', off', hb, hc⟩ := h.at_ i hi
    cases hb
    exact hc
  · have : zs = [] := List.eq_nil_of_length_eq_zero (by omega)
    subst this
    cases a with
    | none => exact run_convert_bytes_nil w src e hs he _ _ dst hd
    | some x =>
      rw [run_convert_bytes_string w src dst e _ _ cap hs he hd]
      have hl : (loadCells x 0).run P w = .ok (([] : List Int).map (Value.int .u8)).toArray w := by simp [loadCells, loadCellsFrom]
      have := run_bytesToString (P := P) w x 0 cap [] hl
      exact this

theorem str_inj {xs ys : List Int} (hx : ∀ z ∈ xs, 0 ≤ z ∧ z ≤ 255) (hy : ∀ z ∈ ys, 0 ≤ z ∧ z ≤ 255) : ((strOfNums xs).toList == (strOfNums ys).toList) = (xs == ys) := by
  rw [ByteArray.toList_eq, ByteArray.toList_eq, strOfNums_data, strOfNums_data]
  have key : ∀ (xs ys : List Int), (∀ z ∈ xs, 0 ≤ z ∧ z ≤ 255) → (∀ z ∈ ys, 0 ≤ z ∧ z ≤ 255) → (xs.map fun n => UInt8.ofNat n.toNat) = (ys.map fun n => UInt8.ofNat n.toNat) → xs = ys := by
    intro xs
    induction xs with
    | nil => intro ys _ _ h; cases ys with
      | nil => rfl
      | cons y r => simp at h
    | cons x r ih =>
      intro ys hx hy h
      cases ys with
      | nil => simp at h
      | cons y t =>
        simp only [List.map_cons, List.cons.injEq] at h
        have h1 := hx x (by simp)
        have h2 := hy y (by simp)
        have h3 := congrArg UInt8.toNat h.1
        simp at h3
        have h4 : x = y := by omega
        rw [h4, ih t (fun z hz => hx z (by simp [hz])) (fun z hz => hy z (by simp [hz])) h.2]
  rw [Bool.eq_iff_iff, beq_iff_eq, beq_iff_eq]
  exact ⟨key xs ys hx hy, fun h => by rw [h]⟩

set_option maxRecDepth 100000 in
theorem bsame_any (a b : Option Addr) (xs ys : List Int) (ca cb : Nat) (w : World) (hx : Seg w a xs) (hy : Seg w b ys) :
    Calls Tryz.prog 38 #[.slice a xs.length ca, .slice b ys.length cb] w fun e w' => e = .returned (.bool (xs == ys)) ∧ w' = w := by
  have h1 := run_conv_seg (P := Tryz.prog) ca hx 59 5 9 Tryz.underlying59 Tryz.underlying5 Tryz.underlying9
  have h2 := run_conv_seg (P := Tryz.prog) cb hy 59 5 9 Tryz.underlying59 Tryz.underlying5 Tryz.underlying9
  have HE : Hid (((strOfNums xs).toList == (strOfNums ys).toList) = (xs == ys)) := str_inj hx.mem hy.mem
  go_enter Tryz.func38, Tryz.ntmps38
  go_wp2
  go_ret
  exact ⟨by rw [← HE.out]; rfl, rfl⟩
end Go.Proofs.YtcifalelnfeggaaGreatDoor

namespace Go.Proofs.YtcifalelnfeggaaGreatDoor
open Go.RowKit
set_option linter.unusedVariables false

theorem own_less {w : World} {base n g cap : Nat} {e : TypeId} {xs : List Value} {y : Value} (h : w.ownsRow base e 1 (.slice (some ⟨g, 0, none⟩) (n + 1) cap) (n + 1) (xs ++ [y])) : w.ownsRow base e 1 (.slice (some ⟨g, 0, none⟩) n cap) n xs := by
  have hl : xs.length = n := by have := h.1; simp at this; omega
  refine ⟨by omega, ?_⟩
  rcases h.2 with ⟨h0, _⟩ | ⟨g', cap', cur, hv, hb, hg, hc, hm, hs, ht⟩
  · cases h0
  · simp only [Value.slice.injEq, Option.some.injEq, Addr.mk.injEq, and_true, true_and] at hv
    obtain ⟨rfl, rfl⟩ := hv
    refine .inr ⟨g, cap, cur, rfl, hb, hg, by omega, hm, hs, ?_⟩
    have h2 := congrArg (List.take n) ht
    rw [List.take_take, List.take_append_of_le_length (by omega), List.take_of_length_le (by omega : xs.length ≤ n)] at h2
    rw [Nat.mul_one] at h2 ⊢
    rw [Nat.min_eq_left (by omega)] at h2
    exact h2

theorem own_take {w : World} {base m l g cap : Nat} {e : TypeId} {xs : List Value} (h : w.ownsRow base e 1 (.slice (some ⟨g, 0, none⟩) m cap) m xs) (hl : l ≤ m) : w.ownsRow base e 1 (.slice (some ⟨g, 0, none⟩) l cap) l (xs.take l) := by
  have hx : xs.length = m := by have := h.1; simp at this; omega
  refine ⟨by simp; omega, ?_⟩
  rcases h.2 with ⟨h0, _⟩ | ⟨g', cap', cur, hv, hb, hg, hc, hm, hs, ht⟩
  · cases h0
  · simp only [Value.slice.injEq, Option.some.injEq, Addr.mk.injEq, and_true, true_and] at hv
    obtain ⟨rfl, rfl⟩ := hv
    refine .inr ⟨g, cap, cur, rfl, hb, hg, by omega, hm, hs, ?_⟩
    rw [← ht, List.take_take, Nat.mul_one, Nat.mul_one, Nat.min_eq_left hl]

/-- An append of one cell onto a row of the call's own: the row itself stays; the new one is at its place, or in a new block. -/
theorem run_push_st {P : Program} (t ty : TypeId) (base : Nat) (e : TypeId) (i : TypeInfo) (z : Value) (bytes : Nat) (ht : P.underlying t = some (.slice e)) (hi : P.info? e = some i) (hz : i.zero = some z)
    (hsize : i.size = 1) (hby : i.bytes = bytes) (hzs : z.cells.size = 1)
    (w0 : World) (y : Value) (hy : y.oneCell' = true) {v : Value} {n : Nat} {xs : List Value} (hown : w0.ownsRow base e 1 v n xs)
    (h63 : n + 1 ≤ 140737488355328) (hbytes : (n + 1) * bytes ≤ 140737488355328) (hbase : base ≤ w0.heap.size) :
    ∃ v' w', (Builtin.append_ #[t, t] ty #[v, .slice (some ⟨w0.heap.size, 0, none⟩) 1 1]).run P (w0.alloc (.cells #[y] e)) = .ok v' w' ∧ w'.ownsRow base e 1 v' (n + 1) (xs ++ [y]) ∧ w0.grownBy w' v.ownBlock ∧
      w'.ownsRow base e 1 v n xs ∧ ((∃ g c, v = .slice (some ⟨g, 0, none⟩) n c ∧ v' = .slice (some ⟨g, 0, none⟩) (n + 1) c) ∨ ∃ g, v'.ownBlock = some g ∧ w0.heap.size ≤ g) := by
  have hown1 := hown.alloc (.cells #[y] e)
  have hcell := cell_one_new w0 y e
  have h1c : ∀ u ∈ [y], u.oneCell' = true := by intro u hu; simp at hu; subst hu; exact hy
  obtain ⟨v', w', hr, h1, h2, _⟩ := run_append_own (P := P) (w0.alloc (.cells #[y] e)) base t ty e i z 1 bytes ht hi hz hsize hby hzs (by decide) v n xs hown1 ⟨w0.heap.size, 0, none⟩ 1 1 [y] rfl hcell h1c (by unfold maxLen; omega) hbytes (by simp; omega)
  refine ⟨v', w', hr, h1, grownBy_trans (World.grownBy_alloc w0 _ _) h2, ?_⟩
  subst hby
  rcases hown.2 with ⟨rfl, rfl⟩ | ⟨g, cap, cur, rfl, hbg, hg, hnc, hcm, hcs, htake⟩
  · have hx : xs = [] := List.eq_nil_of_length_eq_zero (by simpa using hown.1)
    subst hx
    have hr2 := run_append_nil (P := P) (w0.alloc (.cells #[y] e)) t ty e i z ht hi hz ⟨w0.heap.size, 0, none⟩ 1 1 [y] (by rw [hsize]; rfl) hcell (by decide) (by decide) (by simp only [Nat.zero_add] at hbytes; omega)
    rw [hr] at hr2
    simp only [Result.ok.injEq] at hr2
    obtain ⟨rfl, rfl⟩ := hr2
    exact ⟨World.ownsRow_nil _ _ _ _, .inr ⟨_, rfl, by simp⟩⟩
  · by_cases hroom : n + 1 ≤ cap
    · have hg1 : (w0.alloc (.cells #[y] e)).heap[g]? = some (.cells cur e (0, 0)) := by
        rw [Below.heap_alloc _ _ _ (Array.getElem?_eq_some_iff.1 hg).1]; exact hg
      have hr2 := run_append_room (P := P) (w0.alloc (.cells #[y] e)) t ty e i ht hi g n cap cur hg1 ⟨w0.heap.size, 0, none⟩ 1 1 [y] (by rw [hsize]; rfl) hcell h1c hroom (by rw [hsize]; simp; omega)
      rw [hr] at hr2
      simp only [Result.ok.injEq] at hr2
      obtain ⟨rfl, rfl⟩ := hr2
      exact ⟨own_less h1, .inl ⟨g, cap, rfl, rfl⟩⟩
    · have hr2 := run_append_grow (P := P) (w0.alloc (.cells #[y] e)) t ty e i z ht hi hz ⟨g, 0, none⟩ n cap xs (by rw [hsize]; exact hown.1) (hown1.cells (g := g) rfl) ⟨w0.heap.size, 0, none⟩ 1 1 [y] (by rw [hsize]; rfl) hcell (by omega) (by omega) (growslice_fits (by omega) hbytes)
      rw [hr] at hr2
      simp only [Result.ok.injEq] at hr2
      obtain ⟨rfl, rfl⟩ := hr2
      refine ⟨?_, .inr ⟨_, rfl, by simp⟩⟩
      exact World.ownsRow.alloc (w := (w0.alloc (.cells #[y] e)).drew) hown1 _

theorem wpList_push_st {P : Program} {ops : Array Oper} {rest : List Oper} {o : Oper} {a : Act} {Q : Exit → Act → World → Prop} (hgd : o.guard = none) (s x : Operand) (t : TypeId)
    (ho : o.op = .call { callee := .builtin .append, args := #[s, x], argTypes := #[t, t] })
    (base : Nat) (e : TypeId) (i : TypeInfo) (z : Value) (bytes : Nat) (ht : P.underlying t = some (.slice e)) (hi : P.info? e = some i) (hz : i.zero = some z)
    (hsize : i.size = 1) (hby : i.bytes = bytes) (hzs : z.cells.size = 1)
    (w0 : World) (y : Value) (hy : y.oneCell' = true) {v : Value} {n : Nat} {xs : List Value} (hown : w0.ownsRow base e 1 v n xs) (hs : a.eval s = v) (hx : a.eval x = .slice (some ⟨w0.heap.size, 0, none⟩) 1 1)
    (h63 : n + 1 ≤ 140737488355328) (hbytes : (n + 1) * bytes ≤ 140737488355328) (hbase : base ≤ w0.heap.size)
    (h : ∀ (g c : Nat) (w' : World), w'.ownsRow base e 1 (.slice (some ⟨g, 0, none⟩) (n + 1) c) (n + 1) (xs ++ [y]) → w0.grownBy w' v.ownBlock → w'.ownsRow base e 1 v n xs → (v = .slice (some ⟨g, 0, none⟩) n c ∨ w0.heap.size ≤ g) → wpList P ops Q rest (a.put o.dst (.slice (some ⟨g, 0, none⟩) (n + 1) c)) w') : wpList P ops Q (o :: rest) a (w0.alloc (.cells #[y] e)) := by
  obtain ⟨v', w', hr, h2, h3, h4, h5⟩ := run_push_st (P := P) t o.type base e i z bytes ht hi hz hsize hby hzs w0 y hy hown h63 hbytes hbase
  obtain ⟨g, c, rfl, _⟩ := own_shape h2 (by omega)
  refine wpList_plain hgd fun K hK => ?_
  unfold Oper.wp execOp
  simp only [ho, resolve, invoke, builtin, Sem.run_bind, Sem.run_pure, Result.andThen_ok, List.map_toArray, List.map_cons, List.map_nil, hs, hx, hr]
  refine hK _ _ (h g c w' h2 h3 h4 ?_)
  rcases h5 with ⟨g', c', e1, e2⟩ | ⟨g', e1, e2⟩
  · cases e2; exact .inl e1
  · cases e1; exact .inr e2
end Go.Proofs.YtcifalelnfeggaaGreatDoor

namespace Go.Proofs.YtcifalelnfeggaaGreatDoor
open Go.RowKit
set_option linter.unusedVariables false

/-! What 'Own' goes through: lists that have rows of their own, and grown ones. Byte rows are of type eT, the lists of slices of type sT. -/
/-- A block of slices: its slots. -/
def Slots (sT : TypeId) (w : World) (B n : Nat) (f : Nat → Value) : Prop := ∃ cs, w.heap[B]? = some (.cells cs sT (0, 0)) ∧ cs.size = n ∧ ∀ i, i < n → cs[i]? = some (f i)
def updO {α : Type} (f : Nat → α) (i : Nat) (x : α) : Nat → α := fun j => if j = i then x else f j
theorem upd_at {α : Type} (f : Nat → α) (i : Nat) (x : α) : updO f i x i = x := by simp [updO]
theorem upd_ne {α : Type} (f : Nat → α) (i j : Nat) (x : α) (h : j ≠ i) : updO f i x j = f j := by simp [updO, h]
theorem upd_upd {α : Type} (f : Nat → α) (i : Nat) (x y : α) : updO (updO f i x) i y = updO f i y := by funext j; simp only [updO]; split <;> rfl
theorem upd_same {α : Type} (f : Nat → α) (i : Nat) : updO f i (f i) = f := by funext j; simp only [updO]; split <;> simp_all

theorem Slots.cell {sT : TypeId} {w : World} {B n : Nat} {f : Nat → Value} (h : Slots sT w B n f) (i : Nat) (hi : i < n) : w.cell? ⟨B, i, none⟩ = some (f i) := by
  obtain ⟨cs, hh, hs, hc⟩ := h
  rw [cell_of_row w B i cs sT (0, 0) hh]
  exact hc i hi
theorem Slots.free {sT : TypeId} {w : World} {B n : Nat} {f : Nat → Value} (h : Slots sT w B n f) (i : Nat) : w.frozen? ⟨B, i, none⟩ = false := by
  obtain ⟨cs, hh, hs, hc⟩ := h
  simp [World.frozen?, hh]
theorem Slots.lt {sT : TypeId} {w : World} {B n : Nat} {f : Nat → Value} (h : Slots sT w B n f) : B < w.heap.size := by
  obtain ⟨cs, hh, hs, hc⟩ := h
  exact (Array.getElem?_eq_some_iff.1 hh).1
theorem Slots.kept {sT : TypeId} {w w' : World} {B n : Nat} {f : Nat → Value} (h : Slots sT w B n f) (he : w'.heap[B]? = w.heap[B]?) : Slots sT w' B n f := by
  obtain ⟨cs, hh, hs, hc⟩ := h
  exact ⟨cs, by rw [he]; exact hh, hs, hc⟩
theorem Slots.grown {sT : TypeId} {w w' : World} {B n : Nat} {f : Nat → Value} {row : Option Nat} (h : Slots sT w B n f) (hg : w.grownBy w' row) (hne : some B ≠ row) : Slots sT w' B n f :=
  h.kept (hg.block B h.lt hne)
theorem Slots.set {sT : TypeId} {w : World} {B n : Nat} {f : Nat → Value} (h : Slots sT w B n f) (i : Nat) (hi : i < n) (x : Value) : Slots sT (w.setCell ⟨B, i, none⟩ x) B n (updO f i x) := by
  obtain ⟨cs, hh, hs, hc⟩ := h
  refine ⟨cs.setIfInBounds i x, by simp [World.setCell, Array.getElem?_modify, hh], by simp [hs], fun j hj => ?_⟩
  by_cases e : j = i
  · subst e; rw [upd_at, Array.getElem?_setIfInBounds_self_of_lt (by omega)]
  · rw [upd_ne _ _ _ _ e, Array.getElem?_setIfInBounds_ne (by omega)]; exact hc j hj

abbrev Row (eT : TypeId) (w : World) (base : Nat) (v : Value) (ys : List Int) : Prop := w.ownsRow base eT 1 v ys.length (ys.map (Value.int .u8))
def Ap (a b : Option Nat) : Prop := ∀ k, a = some k → b ≠ some k
theorem Ap.symm {a b : Option Nat} (h : Ap a b) : Ap b a := fun k h1 h2 => h k h2 h1
theorem Ap.none (b : Option Nat) : Ap none b := fun k h => by cases h
theorem Ap.or {a b : Option Nat} (h : Ap a b) : a = .none ∨ a ≠ b := by
  cases a with
  | none => exact .inl rfl
  | some k => exact .inr fun e => h k rfl e.symm

structure OS (eT sT : TypeId) (w : World) (base bl G n : Nat) (vs gs : Nat → Value) (ys zs : Nat → List Int) : Prop where
  rv : ∀ i, i < n → Row eT w base (vs i) (ys i)
  rg : ∀ i, i < n → Row eT w base (gs i) (zs i)
  vv : ∀ i j, i < n → j < n → i ≠ j → Ap (vs i).ownBlock (vs j).ownBlock
  gv : ∀ i j, i < n → j < n → i ≠ j → Ap (gs i).ownBlock (vs j).ownBlock
  gg : ∀ i j, i < n → j < n → i ≠ j → Ap (gs i).ownBlock (gs j).ownBlock
  sl : Slots sT w bl n vs
  sg : Slots sT w G n gs
  nv : ∀ i k, i < n → (vs i).ownBlock = some k → k ≠ bl ∧ k ≠ G
  ng : ∀ i k, i < n → (gs i).ownBlock = some k → k ≠ bl ∧ k ≠ G
  ne : bl ≠ G
  bG : base ≤ G
  bs : base ≤ w.heap.size

variable {eT sT : TypeId} {w : World} {base bl G n : Nat} {vs gs : Nat → Value} {ys zs : Nat → List Int}

/-- A byte of a list is written. -/
theorem OS.mark (h : OS eT sT w base bl G n vs gs ys zs) (i k g cap m : Nat) (x : Int) (hi : i < n) (hv : vs i = .slice (some ⟨g, 0, none⟩) m cap) (hk : k < m) (hg0 : ∀ j, j < n → (gs j).ownBlock = none) :
    OS eT sT (w.setCell ⟨g, k, none⟩ (.int .u8 x)) base bl G n vs gs (updO ys i ((ys i).set k x)) zs ∧ Below base w (w.setCell ⟨g, k, none⟩ (.int .u8 x)) := by
  have hr := h.rv i hi
  have hm : m = (ys i).length := by
    rcases hr.2 with ⟨h0, _⟩ | ⟨g', c', cur, h0, _⟩
    · rw [hv] at h0; cases h0
    · rw [hv] at h0; cases h0; rfl
  subst hm
  have hr' := hr
  unfold Row at hr'
  rw [hv] at hr'
  have hst := hr'.stored k (.int .u8 x)
  have hbg : base ≤ g := (hr'.lt g rfl).1
  have hob : (vs i).ownBlock = some g := by rw [hv]; rfl
  have hnn := h.nv i g hi hob
  refine ⟨⟨?_, ?_, h.vv, h.gv, h.gg, h.sl.grown hst.2 (by intro e; cases e; exact hnn.1 rfl), h.sg.grown hst.2 (by intro e; cases e; exact hnn.2 rfl), h.nv, h.ng, h.ne, h.bG, ?_⟩, ?_⟩
  · intro j hj
    by_cases e : j = i
    · subst e
      rw [upd_at, hv]
      have := hst.1
      rw [← List.map_set] at this
      show World.ownsRow _ _ _ _ _ _ _
      simpa using this
    · rw [upd_ne _ _ _ _ e]
      refine (h.rv j hj).kept hst.2 ?_
      have := (h.vv j i hj hi e).or
      rw [hob] at this
      exact this
  · intro j hj
    exact (h.rg j hj).kept hst.2 (.inl (hg0 j hj))
  · simpa [World.setCell] using h.bs
  · exact (Below.refl _ _).grown hst.2 h.bs (by intro j e; cases e; exact hbg)

/-- A grown list begins as the list itself. -/
theorem OS.start (h : OS eT sT w base bl G n vs gs ys zs) (i : Nat) (hi : i < n) :
    OS eT sT (w.setCell ⟨G, i, none⟩ (vs i)) base bl G n vs (updO gs i (vs i)) ys (updO zs i (ys i)) ∧ Below base w (w.setCell ⟨G, i, none⟩ (vs i)) := by
  have hgr : w.grownBy (w.setCell ⟨G, i, none⟩ (vs i)) (some G) := grownBy_set (World.grownBy.refl _ _) _
  have keepv : ∀ j, j < n → (vs j).ownBlock = none ∨ (vs j).ownBlock ≠ some G := by
    intro j hj
    cases e : (vs j).ownBlock with
    | none => exact .inl rfl
    | some k => exact .inr fun e2 => by cases e2; exact (h.nv j G hj e).2 rfl
  have keepg : ∀ j, j < n → (gs j).ownBlock = none ∨ (gs j).ownBlock ≠ some G := by
    intro j hj
    cases e : (gs j).ownBlock with
    | none => exact .inl rfl
    | some k => exact .inr fun e2 => by cases e2; exact (h.ng j G hj e).2 rfl
  refine ⟨⟨fun j hj => (h.rv j hj).kept hgr (keepv j hj), ?_, h.vv, ?_, ?_, h.sl.grown hgr (by intro e; cases e; exact h.ne rfl), h.sg.set i hi _, h.nv, ?_, h.ne, h.bG, by simpa [World.setCell] using h.bs⟩, ?_⟩
  · intro j hj
    by_cases e : j = i
    · subst e; rw [upd_at, upd_at]; exact (h.rv j hj).kept hgr (keepv j hj)
    · rw [upd_ne _ _ _ _ e, upd_ne _ _ _ _ e]; exact (h.rg j hj).kept hgr (keepg j hj)
  · intro j l hj hl hne
    by_cases e : j = i
    · subst e; rw [upd_at]; exact h.vv j l hj hl hne
    · rw [upd_ne _ _ _ _ e]; exact h.gv j l hj hl hne
  · intro j l hj hl hne
    by_cases e : j = i
    · subst e; rw [upd_at, upd_ne _ _ _ _ (Ne.symm hne)]; exact (h.gv l j hl hj (Ne.symm hne)).symm
    · rw [upd_ne _ _ _ _ e]
      by_cases e2 : l = i
      · subst e2; rw [upd_at]; exact h.gv j l hj hl hne
      · rw [upd_ne _ _ _ _ e2]; exact h.gg j l hj hl hne
  · intro j k hj
    by_cases e : j = i
    · subst e; rw [upd_at]; exact h.nv j k hj
    · rw [upd_ne _ _ _ _ e]; exact h.ng j k hj
  · exact (Below.refl _ _).grown hgr h.bs (by intro j e; cases e; exact h.bG)

/-- The grown list lies elsewhere, or it goes on behind the list. -/
def Shares (v g : Value) (y z : List Int) : Prop := Ap g.ownBlock v.ownBlock ∨ ∃ b l m c, v = .slice (some ⟨b, 0, none⟩) l c ∧ g = .slice (some ⟨b, 0, none⟩) m c ∧ l ≤ m ∧ y = z.take l
theorem Shares.self {w : World} {base : Nat} {v : Value} {y : List Int} (h : Row eT w base v y) : Shares v v y y := by
  rcases h.2 with ⟨rfl, _⟩ | ⟨g, cap, cur, rfl, _⟩
  · exact .inl (Ap.none _)
  · exact .inr ⟨g, _, _, cap, rfl, rfl, Nat.le_refl _, by simp⟩
theorem Shares.row {w : World} {base : Nat} {v g : Value} {y z : List Int} (h : Shares v g y z) (hg : Row eT w base g z) (hv : Ap g.ownBlock v.ownBlock → Row eT w base v y) : Row eT w base v y := by
  rcases h with h | ⟨b, l, m, c, rfl, rfl, hl, rfl⟩
  · exact hv h
  · have hm : m = z.length := by
      rcases hg.2 with ⟨h0, _⟩ | ⟨g', c', cur, h0, _⟩
      · cases h0
      · cases h0; rfl
    subst hm
    have := own_take hg hl
    rw [← List.map_take] at this
    show World.ownsRow _ _ _ _ _ _ _
    rw [show (z.take l).length = l by simp; omega]
    exact this

/-- A grown list grows by a byte. -/
theorem OS.push (h : OS eT sT w base bl G n vs gs ys zs) (i : Nat) (hi : i < n) (x : Int) (g c : Nat) (w' : World) (hsh : Shares (vs i) (gs i) (ys i) (zs i))
    (h1 : w'.ownsRow base eT 1 (.slice (some ⟨g, 0, none⟩) ((zs i).length + 1) c) ((zs i).length + 1) ((zs i).map (Value.int .u8) ++ [.int .u8 x])) (h2 : w.grownBy w' (gs i).ownBlock) (h3 : Row eT w' base (gs i) (zs i))
    (h5 : gs i = .slice (some ⟨g, 0, none⟩) (zs i).length c ∨ w.heap.size ≤ g) :
    OS eT sT (w'.setCell ⟨G, i, none⟩ (.slice (some ⟨g, 0, none⟩) ((zs i).length + 1) c)) base bl G n vs (updO gs i (.slice (some ⟨g, 0, none⟩) ((zs i).length + 1) c)) ys (updO zs i (zs i ++ [x])) ∧
      Below base w (w'.setCell ⟨G, i, none⟩ (.slice (some ⟨g, 0, none⟩) ((zs i).length + 1) c)) ∧ Shares (vs i) (.slice (some ⟨g, 0, none⟩) ((zs i).length + 1) c) (ys i) (zs i ++ [x]) := by
  obtain ⟨v', hv'⟩ : ∃ v', v' = Value.slice (some ⟨g, 0, none⟩) ((zs i).length + 1) c := ⟨_, rfl⟩
  rw [← hv'] at h1 ⊢
  have h4 : (∃ g c, gs i = .slice (some ⟨g, 0, none⟩) (zs i).length c ∧ v' = .slice (some ⟨g, 0, none⟩) ((zs i).length + 1) c) ∨ ∃ g, v'.ownBlock = some g ∧ w.heap.size ≤ g := by
    rcases h5 with e | e
    · exact .inl ⟨g, c, e, hv'⟩
    · exact .inr ⟨g, by rw [hv']; rfl, e⟩
  clear h5
  have hnew : ∀ k, v'.ownBlock = some k → (gs i).ownBlock = some k ∨ w.heap.size ≤ k := by
    intro k hk
    rcases h4 with ⟨g, c, e1, e2⟩ | ⟨g, e1, e2⟩
    · rw [e2] at hk; rw [e1]; exact .inl hk
    · rw [e1] at hk; cases hk; exact .inr e2
  have hvlt : ∀ j k, j < n → (vs j).ownBlock = some k → k < w.heap.size := fun j k hj hk => ((h.rv j hj).lt k hk).2
  have hglt : ∀ j k, j < n → (gs j).ownBlock = some k → k < w.heap.size := fun j k hj hk => ((h.rg j hj).lt k hk).2
  have apv : ∀ j, j < n → j ≠ i → Ap v'.ownBlock (vs j).ownBlock := by
    intro j hj hne k hk hk2
    rcases hnew k hk with e | e
    · exact h.gv i j hi hj (Ne.symm hne) k e hk2
    · have := hvlt j k hj hk2; omega
  have apg : ∀ j, j < n → j ≠ i → Ap v'.ownBlock (gs j).ownBlock := by
    intro j hj hne k hk hk2
    rcases hnew k hk with e | e
    · exact h.gg i j hi hj (Ne.symm hne) k e hk2
    · have := hglt j k hj hk2; omega
  have hvi : Row eT w' base (vs i) (ys i) := hsh.row h3 fun hap => (h.rv i hi).kept h2 hap.symm.or
  have hgr : w'.grownBy (w'.setCell ⟨G, i, none⟩ v') (some G) := grownBy_set (World.grownBy.refl _ _) _
  have notG : ∀ (v : Value) (hG : ∀ k, v.ownBlock = some k → k ≠ bl ∧ k ≠ G), v.ownBlock = none ∨ v.ownBlock ≠ some G := by
    intro v hG
    cases e : v.ownBlock with
    | none => exact .inl rfl
    | some k => exact .inr fun e2 => by cases e2; exact (hG G e).2 rfl
  have ng' : ∀ k, v'.ownBlock = some k → k ≠ bl ∧ k ≠ G := by
    intro k hk
    rcases hnew k hk with e | e
    · exact h.ng i k hi e
    · have a1 := h.sl.lt
      have a2 := h.sg.lt
      exact ⟨by omega, by omega⟩
  have hrow' : Row eT w' base v' (zs i ++ [x]) := by
    show World.ownsRow _ _ _ _ _ _ _
    simpa using h1
  have rowsg : (gs i).ownBlock ≠ some bl ∧ (gs i).ownBlock ≠ some G := ⟨fun e => (h.ng i bl hi e).1 rfl, fun e => (h.ng i G hi e).2 rfl⟩
  refine ⟨⟨?_, ?_, h.vv, ?_, ?_, (h.sl.grown h2 (Ne.symm rowsg.1)).grown hgr (by intro e; cases e; exact h.ne rfl), (h.sg.grown h2 (Ne.symm rowsg.2)).set i hi _, h.nv, ?_, h.ne, h.bG, ?_⟩, ?_, ?_⟩
  · intro j hj
    by_cases e : j = i
    · subst e; exact hvi.kept hgr (notG _ (fun k hk => h.nv j k hj hk))
    · exact ((h.rv j hj).kept h2 (h.gv i j hi hj (Ne.symm e)).symm.or).kept hgr (notG _ (fun k hk => h.nv j k hj hk))
  · intro j hj
    by_cases e : j = i
    · subst e; rw [upd_at, upd_at]; exact hrow'.kept hgr (notG _ ng')
    · rw [upd_ne _ _ _ _ e, upd_ne _ _ _ _ e]
      exact ((h.rg j hj).kept h2 (h.gg j i hj hi e).or).kept hgr (notG _ (fun k hk => h.ng j k hj hk))
  · intro j l hj hl hne
    by_cases e : j = i
    · subst e; rw [upd_at]; exact apv l hl (Ne.symm hne)
    · rw [upd_ne _ _ _ _ e]; exact h.gv j l hj hl hne
  · intro j l hj hl hne
    by_cases e : j = i
    · subst e; rw [upd_at, upd_ne _ _ _ _ (Ne.symm hne)]; exact apg l hl (Ne.symm hne)
    · rw [upd_ne _ _ _ _ e]
      by_cases e2 : l = i
      · subst e2; rw [upd_at]; exact (apg j hj e).symm
      · rw [upd_ne _ _ _ _ e2]; exact h.gg j l hj hl hne
  · intro j k hj
    by_cases e : j = i
    · subst e; rw [upd_at]; exact ng' k
    · rw [upd_ne _ _ _ _ e]; exact h.ng j k hj
  · have := h2.size
    have := h.bs
    simp [World.setCell]; omega
  · have hb1 : Below base w w' := (Below.refl _ _).grown h2 h.bs (fun k hk => ((h.rg i hi).lt k hk).1)
    exact hb1.trans ((Below.refl _ _).grown hgr (Nat.le_trans h.bs h2.size) (by intro j e; cases e; exact h.bG))
  · rcases h4 with ⟨g, c, e1, e2⟩ | ⟨g, e1, e2⟩
    · rcases hsh with hs | ⟨b, l, m, c2, a1, a2, a3, a4⟩
      · left
        rw [e2]
        rw [e1] at hs
        exact hs
      · right
        rw [e1] at a2
        cases a2
        exact ⟨g, l, _, c, a1, e2, by omega, by rw [List.take_append_of_le_length a3]; exact a4⟩
    · left
      intro k hk hk2
      rw [e1] at hk
      cases hk
      have := hvlt i g hi hk2
      omega
end Go.Proofs.YtcifalelnfeggaaGreatDoor

namespace Go.Proofs.YtcifalelnfeggaaGreatDoor
open Go.RowKit
set_option linter.unusedVariables false

def markL (i : Nat) (m : Nat) : List Int := (List.range m).map fun (k : Nat) => ((i : Int) + 7 * (k : Int)) % 256
def tailL (i : Nat) (m : Nat) : List Int := (List.range m).map fun (k : Nat) => ((i : Int) + 131 + 3 * (k : Int)) % 256
theorem markL_len (i m : Nat) : (markL i m).length = m := by simp [markL]
theorem tailL_len (i m : Nat) : (tailL i m).length = m := by simp [tailL]
theorem markL_succ (i m : Nat) : markL i (m + 1) = markL i m ++ [((i : Int) + 7 * (m : Int)) % 256] := by simp [markL, List.range_succ]
theorem tailL_succ (i m : Nat) : tailL i (m + 1) = tailL i m ++ [((i : Int) + 131 + 3 * (m : Int)) % 256] := by simp [tailL, List.range_succ]
theorem markL_get (i m k : Nat) (h : k < m) : (markL i m).getD k 0 = ((i : Int) + 7 * (k : Int)) % 256 := by simp [markL, List.getD, h]
theorem tailL_get (i m k : Nat) (h : k < m) : (tailL i m).getD k 0 = ((i : Int) + 131 + 3 * (k : Int)) % 256 := by simp [tailL, List.getD, h]

def markF (k : Nat) (ys : Nat → List Int) : Nat → List Int := fun i => if i < k then markL i (ys i).length else ys i
def pmF (k j : Nat) (ys : Nat → List Int) : Nat → List Int := updO (markF k ys) k (markL k j ++ (ys k).drop j)
theorem markF_zero (ys : Nat → List Int) : markF 0 ys = ys := by funext i; simp [markF]
theorem markF_at (n i : Nat) (ys : Nat → List Int) (h : i < n) : markF n ys i = markL i (ys i).length := by simp [markF, h]
theorem markF_len (n i : Nat) (ys : Nat → List Int) : (markF n ys i).length = (ys i).length := by
  simp only [markF]; split
  · exact markL_len _ _
  · rfl
theorem pmF_zero (k : Nat) (ys : Nat → List Int) : pmF k 0 ys = markF k ys := by
  have : markL k 0 ++ (ys k).drop 0 = markF k ys k := by simp [markF, markL]
  unfold pmF; rw [this, upd_same]
theorem pmF_end (k : Nat) (ys : Nat → List Int) : pmF k (ys k).length ys = markF (k + 1) ys := by
  funext i
  by_cases e : i = k
  · subst e; rw [pmF, upd_at]; simp [markF]
  · rw [pmF, upd_ne _ _ _ _ e]; simp only [markF]
    by_cases h : i < k
    · rw [if_pos h, if_pos (by omega)]
    · rw [if_neg h, if_neg (by omega)]
theorem pmF_at (k j : Nat) (ys : Nat → List Int) : pmF k j ys k = markL k j ++ (ys k).drop j := upd_at _ _ _
theorem pmF_step (k j : Nat) (ys : Nat → List Int) (h : j < (ys k).length) : updO (pmF k j ys) k ((pmF k j ys k).set j (((k : Int) + 7 * (j : Int)) % 256)) = pmF k (j + 1) ys := by
  rw [pmF_at]
  unfold pmF
  rw [upd_upd]
  congr 1
  rw [List.set_append, if_neg (by rw [markL_len]; omega), markL_len, Nat.sub_self, List.drop_eq_getElem_cons h, List.set_cons_zero, markL_succ]
  simp

/-- A made list of slices, as slots. -/
theorem slots_made {sT : TypeId} {w : World} {base G n : Nat} {z : Value} (h : w.ownsRow base sT 1 (.slice (some ⟨G, 0, none⟩) n n) n (List.replicate n z)) (hn : 0 < n) : Slots sT w G n (fun _ => z) := by
  rcases h.2 with ⟨h0, _⟩ | ⟨g, cap, cur, h0, _, hh, _, _, hs, ht⟩
  · cases h0
  · cases h0
    refine ⟨cur, hh, by omega, fun i hi => ?_⟩
    have : cur.toList = List.replicate n z := by rw [← ht]; exact (List.take_of_length_le (by simp; omega)).symm
    have h2 : cur.toList[i]? = some z := by rw [this]; simp [hi]
    simpa using h2

theorem row_shape {eT : TypeId} {w : World} {base : Nat} {v : Value} {ys : List Int} (h : Row eT w base v ys) : ∃ a cap, v = .slice a ys.length cap ∧ ys.length ≤ cap ∧ (∀ k, k < ys.length → ∃ g, a = some ⟨g, 0, none⟩ ∧ w.cell? ⟨g, k, none⟩ = some (.int .u8 (ys.getD k 0)) ∧ w.frozen? ⟨g, k, none⟩ = false) := by
  rcases h.2 with ⟨rfl, h0⟩ | ⟨g, cap, cur, rfl, hb, hh, hc, _, _, ht⟩
  · exact ⟨none, 0, by rw [h0], by omega, fun k hk => by omega⟩
  · refine ⟨_, cap, rfl, hc, fun k hk => ⟨g, rfl, ?_, ?_⟩⟩
    · rw [h.cellAt k (by omega)]; simp [List.getD, hk]
    · exact h.frozenAt k
theorem row_at {eT : TypeId} {w : World} {base : Nat} {a : Option Addr} {m cp : Nat} {ys : List Int} (h : Row eT w base (.slice a m cp) ys) (k : Nat) (hk : k < ys.length) : ∃ g, a = some ⟨g, 0, none⟩ ∧ w.cell? ⟨g, k, none⟩ = some (.int .u8 (ys.getD k 0)) ∧ w.frozen? ⟨g, k, none⟩ = false := by
  obtain ⟨a', cap', hv, _, hat⟩ := row_shape h
  cases hv
  exact hat k hk
theorem pmF_len (k j : Nat) (ys : Nat → List Int) (h : j ≤ (ys k).length) : (pmF k j ys k).length = (ys k).length := by rw [pmF_at]; simp [markL_len]; omega
end Go.Proofs.YtcifalelnfeggaaGreatDoor

namespace Go.Proofs.YtcifalelnfeggaaGreatDoor
open Go.RowKit
set_option linter.unusedVariables false

theorem info_sl : (Tryz.prog.info? 59).map (fun i => (i.zero, i.size, i.bytes)) = some (some (.slice none 0 0), 1, 24) := by kernel_rfl
theorem info_u8o : (Tryz.prog.info? 5).map (fun i => (i.zero, i.size, i.bytes)) = some (some (.int .u8 0), 1, 1) := by kernel_rfl

end Go.Proofs.YtcifalelnfeggaaGreatDoor

namespace Go.Proofs.YtcifalelnfeggaaGreatDoor
open Go.RowKit
set_option linter.unusedVariables false

def two {α : Type} (x y : α) : Nat → α := fun i => if i = 0 then x else y
def three {α : Type} (x y z : α) : Nat → α := fun i => if i = 0 then x else if i = 1 then y else z

theorem row_below {eT : TypeId} {w w' : World} {base : Nat} {v : Value} {ys : List Int} (h : Row eT w base v ys) (hb : Below w.heap.size w w') : Row eT w' base v ys := own_below h hb
theorem row_base {eT : TypeId} {w : World} {base base' : Nat} {v : Value} {ys : List Int} (h : Row eT w base v ys) (hb : base' ≤ base) : Row eT w base' v ys := own_base h hb
theorem row_seg {eT : TypeId} {w : World} {base : Nat} {a : Option Addr} {n cap : Nat} {ys : List Int} (h : Row eT w base (.slice a n cap) ys) (hb : ∀ z ∈ ys, 0 ≤ z ∧ z ≤ 255) : Seg w a ys ∧ ys.length ≤ cap ∧ (a = none → cap = 0) := by
  obtain ⟨_, a', c', hv, hs, hx, hc, _⟩ := own_seg h (M := 255) (by decide) hb
  cases hv
  refine ⟨hs, hc, fun e => ?_⟩
  subst e
  rcases h.2 with ⟨h0, _⟩ | ⟨g, cp, cur, h0, _⟩
  · simp at h0; exact h0.2
  · simp at h0
theorem ap_of {eT : TypeId} {w : World} {base base' m : Nat} {v u : Value} {xs ys : List Int} {w0 : World} (h : Row eT w0 base v xs) (h0 : w0.heap.size ≤ m) (k : Row eT w base' u ys) (hm : m ≤ base') : Ap v.ownBlock u.ownBlock := by
  intro j h1 h2
  have := (h.lt j h1).2
  have := (k.lt j h2).1
  omega

end Go.Proofs.YtcifalelnfeggaaGreatDoor

namespace Go.Proofs.YtcifalelnfeggaaGreatDoor
open Go.RowKit
set_option linter.unusedVariables false

theorem WrL.apart {w w' : World} {b1 b2 B : Nat} {v1 v2 : Value} {L1 L2 : List Bool} (h1 : WrL w b1 B v1 L1) (h2 : WrL w b2 B v2 L2) (hk : Kp (WS b2 v2) w w') (hb : b1 ≠ b2) (hb1 : b1 < B) (hb2 : b2 < B) (hap : Ap v1.ownBlock v2.ownBlock) : WrL w' b1 B v1 L1 := by
  refine h1.kp hk ?_ ?_
  · rintro (e | e)
    · exact hb e
    · have := (h2.own_lt _ e).1; omega
  · intro k e
    have hk1 := h1.own_lt k e
    rintro (e2 | e2)
    · omega
    · exact hap k e e2
theorem Ap.fresh {w : World} {b1 B : Nat} {v1 v2 v2' : Value} {L1 : List Bool} (hap : Ap v1.ownBlock v2.ownBlock) (h1 : WrL w b1 B v1 L1) (hf : Fresh w v2 v2') : Ap v1.ownBlock v2'.ownBlock := by
  intro k e1 e2
  have := (h1.own_lt k e1).2.1
  rcases hf k e2 with e | e
  · exact hap k e1 e
  · omega
theorem WrL.far {w : World} {b B N : Nat} {v : Value} {L : List Bool} (h : WrL w b B v L) (h1 : N ≤ b) (h2 : N ≤ B) {g : Nat} (hg : g < N) : ¬ WS b v g := by
  rintro (e | e)
  · omega
  · have := (h.own_lt g e).1; omega
theorem ap_nil : Ap (Value.slice none 0 0).ownBlock (Value.slice none 0 0).ownBlock := Ap.none _
theorem heap_new2 (w : World) (o o' : Obj) : ((w.alloc o).alloc o').heap[w.heap.size + 1]? = some o' := by
  have := heap_new (w.alloc o) o'
  rw [show (w.alloc o).heap.size = w.heap.size + 1 by simp] at this
  exact this
theorem beq_self_list (xs : List Int) : (xs == xs) = true := by simp
end Go.Proofs.YtcifalelnfeggaaGreatDoor
