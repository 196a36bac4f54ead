
import Derived.Test.YtjoghmdjnkdokaaDoorRgG
import Derived.Test.YtjoghmdjnkdokaaDoorFlP
namespace Go.Proofs.YtjoghmdjnkdokaaDoor
open Go.RowKit Go.Shelf
set_option linter.unusedVariables false
set_option linter.unusedSimpArgs false

/-! The document's flash: Read of a whole area. -/
theorem fb21_at (S : Fs21) (x y : Int) (r : Nat) (hr : r < S.pg) : (fb21 S x y).getD r 0 = (sh21 S x y).b.getD r 255 := by
  unfold fb21
  by_cases h : r < (sh21 S x y).b.length
  · simp [List.getD, List.getElem?_append, h]
  · have h2 : r - (sh21 S x y).b.length < S.pg - (sh21 S x y).b.length := by omega
    have h3 : (sh21 S x y).b[r]? = none := List.getElem?_eq_none (by omega)
    simp [List.getD, List.getElem?_append, h, h2, h3, List.getElem?_replicate]
theorem rb21_snoc (S : Fs21) (x : Int) (i : Nat) : rb21 S x 0 (i + 1) = rb21 S x 0 i ++ [pb21 S x (i / S.pg) (i % S.pg)] := by
  unfold rb21
  rw [List.range_succ, List.map_append]
  simp
set_option maxRecDepth 100000 in
set_option maxHeartbeats 16000000 in
theorem rread21 {w : World} {b : Nat} {G : Nat → Prop} {S : Fs21} (h : Rl21d w b G S) (hO : Ok21 S) (hon : S.on = true) (x : Nat) (hx : x < 3) (n : Nat) (hn : (n : Int) = (S.pg : Int) * pn21 S.ps (x : Int)) :
    Calls Tryd.prog 29 #[.pointer (some ⟨b, 0, none⟩), .int .i64 (x : Int), .int .i64 0, .int .i64 (n : Int)] w fun e w' => ∃ ra rc, e = .returned (.tuple #[.slice ra n rc, .int .i64 0]) ∧ w'.ownsRow w.heap.size 5 1 (.slice ra n rc) n ((rb21 S (x : Int) 0 n).map (Value.int .u8)) ∧ Below w.heap.size w w' := by
  obtain ⟨g, c, A, tn, ta, tc, la, lc, V, q, _⟩ := h
  have hpn := pn21_bd S.ps (x : Int) hO.ps.2
  have hAn := q.hn x hx
  obtain ⟨PN, hPN⟩ : ∃ PN, PN = (A x).length := ⟨_, rfl⟩
  obtain ⟨PG, hPG⟩ : ∃ PG, PG = S.pg := ⟨_, rfl⟩
  rw [← hPN] at hAn
  have hpg := hO.pg
  rw [← hPG] at hpg hn
  have hnn : n = PG * PN := by
    have : (n : Int) = ((PG * PN : Nat) : Int) := by rw [hn, ← hAn.1]; exact (Int.natCast_mul _ _).symm
    exact Int.ofNat.inj this
  have hPN96 : PN ≤ 4096 := by omega
  have hn24 : n ≤ 16777216 := by rw [hnn]; exact Nat.le_trans (Nat.mul_le_mul hpg.2 hPN96) (by decide)
  have c7 : w.cell? ⟨b, 7, none⟩ = some (.bool false) := by
    have : w.cell? ⟨b, 7, none⟩ = some (.bool (!S.on)) := q.cel rfl
    rw [hon] at this; exact this
  have HC : Hid (∀ V', Below w.heap.size w V' → V'.cell? ⟨b, 0, none⟩ = some (.int .i64 (PG : Int)) ∧ V'.cell? ⟨b, 3 + x, none⟩ = some (.slice (some ⟨g x, 0, none⟩) PN (c x))) := fun V' hV => by
    have := q.old hV
    rw [hPG, hPN]
    exact ⟨this.cel rfl, this.car hx⟩
  have HB : Hid (∀ V' i, Below w.heap.size w V' → i < n → ∃ (k off cc : Nat), PG ≤ cc ∧ V'.cell? ⟨g x, i / PG * 3, none⟩ = some (.slice (some ⟨k, off, none⟩) PG cc) ∧ V'.cell? ⟨k, off + i % PG, none⟩ = some (.int .u8 (pb21 S (x : Int) (i / PG) (i % PG)))) := fun V' i hV hi => by
    have q' := q.old hV
    have hlt : i / PG < PN := by rw [hnn] at hi; exact Nat.div_lt_of_lt_mul hi
    obtain ⟨d, hd⟩ : ∃ d, (A x)[i / PG]? = some d := ⟨_, List.getElem?_eq_getElem (by rw [← hPN]; exact hlt)⟩
    obtain ⟨s1, s2, s3, s4, s5, s6⟩ := q'.hd x (i / PG) d hx hd
    have hdl : d.b.length = PG := by rw [s3, fb21_len hO, hPG]
    have hm : i % PG < PG := Nat.mod_lt _ (by omega)
    obtain ⟨k', off', e1, e2⟩ := s1.at_ (i % PG) (by omega)
    cases e1
    have e3 := (q'.pgc hx hd).1
    rw [hdl] at e3 s6
    refine ⟨d.k, d.off, d.c, s6, e3, ?_⟩
    rw [e2, s3, fb21_at S _ _ _ (by rw [← hPG]; exact hm)]
    rfl
  have hmulw : IntKind.i64.wrap ((PN : Int) * (PG : Int)) = (n : Int) := by
    have : (PN : Int) * (PG : Int) = (n : Int) := by rw [hnn, Nat.mul_comm]; exact (Int.natCast_mul _ _).symm
    rw [this, IntWalk.i64_in _ (by omega)]
  have hnw : IntKind.i64.wrap (n : Int) = (n : Int) := IntWalk.i64_in _ (by omega)
  have hnw0 : IntKind.i64.wrap (0 + (n : Int)) = (n : Int) := by rw [Int.zero_add]; exact hnw
  have hnw1 : IntKind.i64.wrap ((n : Int) - 0) = (n : Int) := by rw [Int.sub_zero]; exact hnw
  have hx0 : ¬ (x : Int) < 0 := by omega
  have hx2 : ¬ (2 : Int) < (x : Int) := by omega
  have hx2n : ¬ 2 < x := by omega
  have hn0 : ¬ (n : Int) < 0 := by omega
  have hx3 : (x : Int) < 3 := by omega
  have hx00 : (0 : Int) ≤ (x : Int) := by omega
  have hgx : ∃ gx cx, gx = g x ∧ cx = c x := ⟨_, _, rfl, rfl⟩
  obtain ⟨gx, cx, hg1, hg2⟩ := hgx
  rw [← hg1, ← hg2] at HC
  rw [← hg1] at HB
  have HPG : Hid (PG = S.pg ∧ 64 ≤ PG ∧ PG ≤ 4096 ∧ n = PG * PN) := ⟨hPG, hpg.1, hpg.2, hnn⟩
  have b0 : Below w.heap.size w w.drew := (Below.refl _ _).drew
  obtain ⟨d0, d3⟩ := HC.out w.drew b0
  have HX : Hid (x < 3 ∧ PN ≤ 4096) := ⟨hx, hPN96⟩
  obtain ⟨i0, hi0, hz0, hz1, hz2⟩ := info_parts info_u22
  clear q hpn hAn hPN hPG hpg hn hnn hO hon hg1 hg2
  go_enter Tryd.func29, Tryd.ntmps29
  go_upto_region 5 with fail
  refine still_all22c (by kernel_rfl) (by kernel_rfl) ?_
  repeat still_step
  refine wpStill_nil ?_
  clear d0 d3 c7
  have HW0 : Hid (Below w.heap.size w w.drew) := b0
  clear b0
  go_wp2_with fail
  go_loopw [11, 12] (fun t11 ti wr => ∃ (i : Nat) (v : Value), i ≤ n ∧ v = t11 ∧ ti = .int .i64 (i : Int) ∧ wr.ownsRow w.heap.size 5 1 v i ((rb21 S (x : Int) 0 i).map (Value.int .u8)) ∧ Below w.heap.size w wr) (fun _ ti _ => n - (intOf ti).toNat)
  case atStart => exact ⟨0, _, by omega, rfl, rfl, World.ownsRow_nil _ _ _ _, HW0.out⟩
  case round =>
    obtain ⟨i, v, hin, rfl, rfl, hown, hB⟩ := hrel
    by_cases hi : i < n
    · have hii : (i : Int) < (n : Int) := by omega
      have hiw : IntKind.i64.wrap ((i : Int) + 1) = ((i + 1 : Nat) : Int) := by rw [IntWalk.i64_in _ (by omega)]; omega
      obtain ⟨dk, doff, dc, hdc, e1, e2⟩ := HB.out wr i hB hi
      obtain ⟨e0, e3⟩ := HC.out wr hB
      have hpg := HPG.out
      obtain ⟨Y, hY⟩ : ∃ Y, Y = i / PG := ⟨_, rfl⟩
      obtain ⟨R, hR⟩ : ∃ R, R = i % PG := ⟨_, rfl⟩
      obtain ⟨z, hz⟩ : ∃ z, z = pb21 S (x : Int) (i / PG) (i % PG) := ⟨_, rfl⟩
      rw [← hz, ← hR] at e2
      rw [← hY] at e1
      have hYN : Y < PN := by rw [hY]; exact Nat.div_lt_of_lt_mul (by rw [← hpg.2.2.2]; exact hi)
      have hRP : R < PG := by rw [hR]; exact Nat.mod_lt _ (by omega)
      have hq : Int.tdiv (i : Int) (PG : Int) = (Y : Int) := by rw [hY]; rfl
      have hr : Int.tmod (i : Int) (PG : Int) = (R : Int) := by rw [hR]; rfl
      have hqw : IntKind.i64.wrap (Y : Int) = (Y : Int) := IntWalk.i64_in _ (by have := HX.out; omega)
      have hrw : IntKind.i64.wrap (R : Int) = (R : Int) := IntWalk.i64_in _ (by omega)
      have hYi : (Y : Int) < (PN : Int) := by omega
      have hRi : (R : Int) < (PG : Int) := by omega
      have hPi : ¬ (PG : Int) = 0 := by omega
      have hPn : ¬ PG = 0 := by omega
      have hzb : rb21 S (x : Int) 0 (i + 1) = rb21 S (x : Int) 0 i ++ [z] := by rw [rb21_snoc, hz, hpg.1]
      obtain ⟨v0, hv0⟩ : ∃ v0, v0 = wr.drew := ⟨_, rfl⟩
      have HV0 : Hid (wr.drew = v0) := hv0.symm
      have how : v0.ownsRow w.heap.size 5 1 v i ((rb21 S (x : Int) 0 i).map (Value.int .u8)) := by rw [hv0]; exact hown.drew
      have hB0 : Below w.heap.size w v0 := by rw [hv0]; exact hB.drew
      have hc : v0.cell? ⟨b, 0, none⟩ = some (.int .i64 (PG : Int)) ∧ v0.cell? ⟨b, 3 + x, none⟩ = some (.slice (some ⟨gx, 0, none⟩) PN cx) ∧ v0.cell? ⟨gx, Y * 3, none⟩ = some (.slice (some ⟨dk, doff, none⟩) PG dc) ∧ v0.cell? ⟨dk, doff + R, none⟩ = some (.int .u8 z) := by rw [hv0]; exact ⟨e0, e3, e1, e2⟩
      obtain ⟨vx, v2, hr2, ho2, hg2, _, hfr⟩ := run_app_st (P := Tryd.prog) 22 22 w.heap.size 5 i0 (.int .u8 0) 1 Tryd.underlying22 hi0 hz0 hz1 hz2 rfl (v0.alloc (.cells #[.int .u8 z] 5)) (how.alloc _) ⟨v0.heap.size, 0, none⟩ 1 1 [.int .u8 z] rfl (cell_one_new _ _ _) (by intro y hy; simp at hy; subst hy; rfl) (by omega) (by omega) (by have := hB0.size; simp; omega)
      obtain ⟨v1, hv1⟩ : ∃ v1, v1 = v0.alloc (.cells #[.int .u8 z] 5) := ⟨_, rfl⟩
      obtain ⟨zz, hzz⟩ : ∃ zz, zz = v0.heap.size := ⟨_, rfl⟩
      rw [← hv1] at hr2 hg2
      rw [← hzz] at hr2
      have hb1 : Below w.heap.size w v1 := by rw [hv1]; exact hB0.alloc hB0.size _
      have hb2 : Below w.heap.size w v2 := hb1.grown hg2 hb1.size (fun j hj => (how.lt j hj).1)
      have HR2 : Hid ((Builtin.append_ #[22, 22] 22 #[v, .slice (some ⟨zz, 0, none⟩) 1 1]).run Tryd.prog v1 = .ok vx v2) := hr2
      have HO2 : Hid (v2.ownsRow w.heap.size 5 1 vx (i + 1) ((rb21 S (x : Int) 0 (i + 1)).map (Value.int .u8)) ∧ Below w.heap.size w v2) := ⟨by rw [hzb]; simpa using ho2, hb2⟩
      have HKC : Hid (∀ V', Below w.heap.size w V' → V'.cell? ⟨b, 0, none⟩ = some (.int .i64 (PG : Int)) ∧ V'.cell? ⟨b, 3 + x, none⟩ = some (.slice (some ⟨gx, 0, none⟩) PN cx) ∧ V'.cell? ⟨gx, Y * 3, none⟩ = some (.slice (some ⟨dk, doff, none⟩) PG dc) ∧ V'.cell? ⟨dk, doff + R, none⟩ = some (.int .u8 z)) := fun V' hV => by
        obtain ⟨m0, m3⟩ := HC.out V' hV
        obtain ⟨k2, o2, cc2, _, m1, m2⟩ := HB.out V' i hV hi
        rw [← hY] at m1
        rw [← hz, ← hR] at m2
        have h1 := (HB.out w i (Below.refl _ _) hi)
        obtain ⟨k3, o3, c3, _, n1, n2⟩ := h1
        rw [← hY] at n1
        have hsame := (hV.cell (p := ⟨gx, Y * 3, none⟩) (World.block_lt_of_cell? _ _ n1)).trans n1
        have hsame2 := (hB.cell (p := ⟨gx, Y * 3, none⟩) (World.block_lt_of_cell? _ _ n1)).trans n1
        rw [e1] at hsame2
        rw [m1] at hsame
        rw [← hsame2] at hsame
        simp only [Option.some.injEq, Value.slice.injEq, Addr.mk.injEq, and_true, true_and] at hsame
        obtain ⟨⟨rfl, rfl⟩, rfl⟩ := hsame
        exact ⟨m0, m3, m1, m2⟩
      have HV1 : Hid (v0.alloc (.cells #[.int .u8 z] 5) = v1 ∧ v0.heap.size = zz ∧ Below w.heap.size w v1) := ⟨hv1.symm, hzz.symm, hb1⟩
      clear hr2 ho2 hg2 hfr hb1 hb2 hv1 hzz hv0 how hB0 hown hB e0 e1 e2 e3 hpg hY hR hz hzb hi0 hz0 hz1 hz2
      go_upto_region 12 with fail
      refine plain_region16 (fun V' => V'.cell? ⟨b, 0, none⟩ = some (.int .i64 (PG : Int)) ∧ V'.cell? ⟨b, 3 + x, none⟩ = some (.slice (some ⟨gx, 0, none⟩) PN cx) ∧ V'.cell? ⟨gx, Y * 3, none⟩ = some (.slice (some ⟨dk, doff, none⟩) PG dc) ∧ V'.cell? ⟨dk, doff + R, none⟩ = some (.int .u8 z)) 27 (by kernel_rfl) (by rw [HV0.out]; exact hc) (fun hHeld => ?_)
      rw [HV0.out] at hHeld ⊢
      clear hc
      refine wpAnyK_take (i := 0) (v := v) rfl (by kernel_rfl) (by kernel_rfl) (by kernel_rfl) (by kernel_rfl) (fun _ _ _ h => h) (Or.inl ⟨by rfl, fun w hSw => by go_simp⟩) hHeld ?_
      simp only [List.getElem_toArray, List.getElem_cons_zero, Act.put, List.setIfInBounds_toArray, List.set_cons_zero, List.set_cons_succ]
      refine wpAnyK_take (i := 1) (v := .pointer (some ⟨b, 0, none⟩)) rfl (by kernel_rfl) (by kernel_rfl) (by kernel_rfl) (by kernel_rfl) (fun _ _ _ h => h) (Or.inl ⟨by rfl, fun w hSw => by go_simp⟩) hHeld ?_
      simp only [List.getElem_toArray, List.getElem_cons_zero, List.getElem_cons_succ, Act.put, List.setIfInBounds_toArray, List.set_cons_zero, List.set_cons_succ]
      refine wpAnyK_take (i := 2) (v := .int .i64 (x : Int)) rfl (by kernel_rfl) (by kernel_rfl) (by kernel_rfl) (by kernel_rfl) (fun _ _ _ h => h) (Or.inl ⟨by rfl, fun w hSw => by go_simp⟩) hHeld ?_
      simp only [List.getElem_toArray, List.getElem_cons_zero, List.getElem_cons_succ, Act.put, List.setIfInBounds_toArray, List.set_cons_zero, List.set_cons_succ]
      refine wpAnyK_take (i := 3) (v := .pointer (some ⟨b, 0, none⟩)) rfl (by kernel_rfl) (by kernel_rfl) (by kernel_rfl) (by kernel_rfl) (fun _ _ _ h => h) (Or.inl ⟨by rfl, fun w hSw => by go_simp⟩) hHeld ?_
      simp only [List.getElem_toArray, List.getElem_cons_zero, List.getElem_cons_succ, Act.put, List.setIfInBounds_toArray, List.set_cons_zero, List.set_cons_succ]
      refine wpAnyK_take (i := 4) (v := .pointer (some ⟨b, 3, none⟩)) rfl (by kernel_rfl) (by kernel_rfl) (by kernel_rfl) (by kernel_rfl) (fun _ _ _ h => h) (Or.inl ⟨by rfl, fun w hSw => by go_simp⟩) hHeld ?_
      simp only [List.getElem_toArray, List.getElem_cons_zero, List.getElem_cons_succ, Act.put, List.setIfInBounds_toArray, List.set_cons_zero, List.set_cons_succ]
      refine wpAnyK_take (i := 5) (v := .pointer (some ⟨b, 3 + x, none⟩)) rfl (by kernel_rfl) (by kernel_rfl) (by kernel_rfl) (by kernel_rfl) (fun _ _ _ h => h) (Or.inl ⟨by rfl, fun w hSw => by go_simp⟩) hHeld ?_
      simp only [List.getElem_toArray, List.getElem_cons_zero, List.getElem_cons_succ, Act.put, List.setIfInBounds_toArray, List.set_cons_zero, List.set_cons_succ]
      refine wpAnyK_take (i := 6) (v := .slice (some ⟨gx, 0, none⟩) PN cx) rfl (by kernel_rfl) (by kernel_rfl) (by kernel_rfl) (by kernel_rfl) (fun _ _ _ h => h) (Or.inl ⟨by rfl, fun w hSw => by go_simp⟩) hHeld ?_
      simp only [List.getElem_toArray, List.getElem_cons_zero, List.getElem_cons_succ, Act.put, List.setIfInBounds_toArray, List.set_cons_zero, List.set_cons_succ]
      refine wpAnyK_take (i := 7) (v := .int .i64 (i : Int)) rfl (by kernel_rfl) (by kernel_rfl) (by kernel_rfl) (by kernel_rfl) (fun _ _ _ h => h) (Or.inl ⟨by rfl, fun w hSw => by go_simp⟩) hHeld ?_
      simp only [List.getElem_toArray, List.getElem_cons_zero, List.getElem_cons_succ, Act.put, List.setIfInBounds_toArray, List.set_cons_zero, List.set_cons_succ]
      refine wpAnyK_take (i := 8) (v := .pointer (some ⟨b, 0, none⟩)) rfl (by kernel_rfl) (by kernel_rfl) (by kernel_rfl) (by kernel_rfl) (fun _ _ _ h => h) (Or.inl ⟨by rfl, fun w hSw => by go_simp⟩) hHeld ?_
      simp only [List.getElem_toArray, List.getElem_cons_zero, List.getElem_cons_succ, Act.put, List.setIfInBounds_toArray, List.set_cons_zero, List.set_cons_succ]
      refine wpAnyK_take (i := 9) (v := .pointer (some ⟨b, 0, none⟩)) rfl (by kernel_rfl) (by kernel_rfl) (by kernel_rfl) (by kernel_rfl) (fun _ _ _ h => h) (Or.inl ⟨by rfl, fun w hSw => by go_simp⟩) hHeld ?_
      simp only [List.getElem_toArray, List.getElem_cons_zero, List.getElem_cons_succ, Act.put, List.setIfInBounds_toArray, List.set_cons_zero, List.set_cons_succ]
      refine wpAnyK_take (i := 10) (v := .pointer (some ⟨b, 0, none⟩)) rfl (by kernel_rfl) (by kernel_rfl) (by kernel_rfl) (by kernel_rfl) (fun _ _ _ h => h) (Or.inl ⟨by rfl, fun w hSw => by go_simp⟩) hHeld ?_
      simp only [List.getElem_toArray, List.getElem_cons_zero, List.getElem_cons_succ, Act.put, List.setIfInBounds_toArray, List.set_cons_zero, List.set_cons_succ]
      refine wpAnyK_take (i := 11) (v := .int .i64 (PG : Int)) rfl (by kernel_rfl) (by kernel_rfl) (by kernel_rfl) (by kernel_rfl) (fun _ _ _ h => h) (Or.inl ⟨by rfl, fun w hSw => by go_simp⟩) hHeld ?_
      simp only [List.getElem_toArray, List.getElem_cons_zero, List.getElem_cons_succ, Act.put, List.setIfInBounds_toArray, List.set_cons_zero, List.set_cons_succ]
      refine wpAnyK_take (i := 12) (v := .int .i64 (Y : Int)) rfl (by kernel_rfl) (by kernel_rfl) (by kernel_rfl) (by kernel_rfl) (fun _ _ _ h => h) (Or.inl ⟨by rfl, fun w hSw => by go_simp⟩) hHeld ?_
      simp only [List.getElem_toArray, List.getElem_cons_zero, List.getElem_cons_succ, Act.put, List.setIfInBounds_toArray, List.set_cons_zero, List.set_cons_succ]
      refine wpAnyK_take (i := 13) (v := .pointer (some ⟨gx, Y * 3, none⟩)) rfl (by kernel_rfl) (by kernel_rfl) (by kernel_rfl) (by kernel_rfl) (fun _ _ _ h => h) (Or.inl ⟨by rfl, fun w hSw => by go_simp⟩) hHeld ?_
      simp only [List.getElem_toArray, List.getElem_cons_zero, List.getElem_cons_succ, Act.put, List.setIfInBounds_toArray, List.set_cons_zero, List.set_cons_succ]
      refine wpAnyK_take (i := 14) (v := .pointer (some ⟨gx, Y * 3, none⟩)) rfl (by kernel_rfl) (by kernel_rfl) (by kernel_rfl) (by kernel_rfl) (fun _ _ _ h => h) (Or.inl ⟨by rfl, fun w hSw => by go_simp⟩) hHeld ?_
      simp only [List.getElem_toArray, List.getElem_cons_zero, List.getElem_cons_succ, Act.put, List.setIfInBounds_toArray, List.set_cons_zero, List.set_cons_succ]
      refine wpAnyK_take (i := 15) (v := .slice (some ⟨dk, doff, none⟩) PG dc) rfl (by kernel_rfl) (by kernel_rfl) (by kernel_rfl) (by kernel_rfl) (fun _ _ _ h => h) (Or.inl ⟨by rfl, fun w hSw => by go_simp⟩) hHeld ?_
      simp only [List.getElem_toArray, List.getElem_cons_zero, List.getElem_cons_succ, Act.put, List.setIfInBounds_toArray, List.set_cons_zero, List.set_cons_succ]
      refine wpAnyK_take (i := 16) (v := .int .i64 (i : Int)) rfl (by kernel_rfl) (by kernel_rfl) (by kernel_rfl) (by kernel_rfl) (fun _ _ _ h => h) (Or.inl ⟨by rfl, fun w hSw => by go_simp⟩) hHeld ?_
      simp only [List.getElem_toArray, List.getElem_cons_zero, List.getElem_cons_succ, Act.put, List.setIfInBounds_toArray, List.set_cons_zero, List.set_cons_succ]
      refine wpAnyK_take (i := 17) (v := .pointer (some ⟨b, 0, none⟩)) rfl (by kernel_rfl) (by kernel_rfl) (by kernel_rfl) (by kernel_rfl) (fun _ _ _ h => h) (Or.inl ⟨by rfl, fun w hSw => by go_simp⟩) hHeld ?_
      simp only [List.getElem_toArray, List.getElem_cons_zero, List.getElem_cons_succ, Act.put, List.setIfInBounds_toArray, List.set_cons_zero, List.set_cons_succ]
      refine wpAnyK_take (i := 18) (v := .pointer (some ⟨b, 0, none⟩)) rfl (by kernel_rfl) (by kernel_rfl) (by kernel_rfl) (by kernel_rfl) (fun _ _ _ h => h) (Or.inl ⟨by rfl, fun w hSw => by go_simp⟩) hHeld ?_
      simp only [List.getElem_toArray, List.getElem_cons_zero, List.getElem_cons_succ, Act.put, List.setIfInBounds_toArray, List.set_cons_zero, List.set_cons_succ]
      refine wpAnyK_take (i := 19) (v := .pointer (some ⟨b, 0, none⟩)) rfl (by kernel_rfl) (by kernel_rfl) (by kernel_rfl) (by kernel_rfl) (fun _ _ _ h => h) (Or.inl ⟨by rfl, fun w hSw => by go_simp⟩) hHeld ?_
      simp only [List.getElem_toArray, List.getElem_cons_zero, List.getElem_cons_succ, Act.put, List.setIfInBounds_toArray, List.set_cons_zero, List.set_cons_succ]
      refine wpAnyK_take (i := 20) (v := .int .i64 (PG : Int)) rfl (by kernel_rfl) (by kernel_rfl) (by kernel_rfl) (by kernel_rfl) (fun _ _ _ h => h) (Or.inl ⟨by rfl, fun w hSw => by go_simp⟩) hHeld ?_
      simp only [List.getElem_toArray, List.getElem_cons_zero, List.getElem_cons_succ, Act.put, List.setIfInBounds_toArray, List.set_cons_zero, List.set_cons_succ]
      refine wpAnyK_take (i := 21) (v := .int .i64 (R : Int)) rfl (by kernel_rfl) (by kernel_rfl) (by kernel_rfl) (by kernel_rfl) (fun _ _ _ h => h) (Or.inl ⟨by rfl, fun w hSw => by go_simp⟩) hHeld ?_
      simp only [List.getElem_toArray, List.getElem_cons_zero, List.getElem_cons_succ, Act.put, List.setIfInBounds_toArray, List.set_cons_zero, List.set_cons_succ]
      refine wpAnyK_take (i := 22) (v := .pointer (some ⟨dk, doff + R, none⟩)) rfl (by kernel_rfl) (by kernel_rfl) (by kernel_rfl) (by kernel_rfl) (fun _ _ _ h => h) (Or.inl ⟨by rfl, fun w hSw => by go_simp⟩) hHeld ?_
      simp only [List.getElem_toArray, List.getElem_cons_zero, List.getElem_cons_succ, Act.put, List.setIfInBounds_toArray, List.set_cons_zero, List.set_cons_succ]
      refine wpAnyK_take (i := 23) (v := .int .u8 z) rfl (by kernel_rfl) (by kernel_rfl) (by kernel_rfl) (by kernel_rfl) (fun _ _ _ h => h) (Or.inl ⟨by rfl, fun w hSw => by go_simp⟩) hHeld ?_
      simp only [List.getElem_toArray, List.getElem_cons_zero, List.getElem_cons_succ, Act.put, List.setIfInBounds_toArray, List.set_cons_zero, List.set_cons_succ]
      refine wpAnyK_one (i := 24) (by kernel_rfl) rfl (fun K hK => ?_)
      (try simp only [List.getElem_toArray, List.getElem_cons_zero, List.getElem_cons_succ, Act.put, List.setIfInBounds_toArray, List.set_cons_zero, List.set_cons_succ])
      go_simp
      rw [HV1.out.1, HV1.out.2.1]
      refine hK.out _ _ (fun _ => HKC.out v1 HV1.out.2.2) (fun hHeld0 => ?_)
      have hHeld := hHeld0 (by decide)
      clear hHeld0 hK K
      (try simp only [List.getElem_toArray, List.getElem_cons_zero, List.getElem_cons_succ, Act.put, List.setIfInBounds_toArray, List.set_cons_zero, List.set_cons_succ])
      refine wpAnyK_one (i := 25) (by kernel_rfl) rfl (fun K hK => ?_)
      simp only [List.getElem_toArray, List.getElem_cons_zero, List.getElem_cons_succ]
      rw [if_pos (by rfl)]
      refine operwp_app22 _ _ _ rfl rfl rfl HR2.out ?_
      refine hK.out _ _ (fun _ => HKC.out v2 HO2.out.2) (fun hHeld0 => ?_)
      have hHeld := hHeld0 (by decide)
      clear hHeld0 hK K
      simp only [Act.put, List.setIfInBounds_toArray, List.set_cons_zero, List.set_cons_succ]
      refine wpAnyK_one (i := 26) (by kernel_rfl) rfl (fun K hK => ?_)
      (try simp only [List.getElem_toArray, List.getElem_cons_zero, List.getElem_cons_succ, Act.put, List.setIfInBounds_toArray, List.set_cons_zero, List.set_cons_succ])
      go_simp
      refine hK.out _ _ (fun _ => hHeld) (fun _ => ?_)
      clear hK K hHeld
      refine wpAnyK_done (by kernel_rfl) ?_ _
      go_wp2_with fail
      go_roundw
      case rel => exact ⟨i + 1, vx, by omega, rfl, rfl, HO2.out.1, HO2.out.2⟩
      case measure => simp [intOf]; omega
    · obtain rfl : i = n := by omega
      have hii : ¬ (i : Int) < (i : Int) := by omega
      obtain ⟨ra, rc, hv, _⟩ : ∃ ra rc, v = .slice ra i rc ∧ True := by
        rcases hown.2 with ⟨e1, e2⟩ | ⟨g', cp, cu, e1, _⟩
        · exact ⟨none, 0, by rw [e1, e2], trivial⟩
        · exact ⟨_, _, e1, trivial⟩
      subst hv
      have HF : Hid (wr.ownsRow w.heap.size 5 1 (.slice ra i rc) i ((rb21 S (x : Int) 0 i).map (Value.int .u8)) ∧ Below w.heap.size w wr) := ⟨hown, hB⟩
      clear hown hB hi0 hz0 hz1 hz2
      go_wp2_with fail
      go_ret2
      exact ⟨ra, rc, rfl, HF.out⟩
end Go.Proofs.YtjoghmdjnkdokaaDoor
