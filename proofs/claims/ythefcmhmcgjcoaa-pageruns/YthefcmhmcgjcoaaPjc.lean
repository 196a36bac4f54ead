import Derived.Test.YthefcmhmcgjcoaaRgG
import Derived.Test.YthefcmhmcgjcoaaFlP
import Derived.WalkSpells
import Derived.Laws.BytesArg
namespace Go.Proofs.Ythefcmhmcgjcoaa
open Go.RowKit Go.Shelf
set_option linter.unusedVariables false
set_option linter.unusedSimpArgs false

/-! The document's flash: Read of a whole area. -/
theorem fb21_at (S : Fs21) (x y : Int) (r : Nat) (hr : r < S.pg) : (fb21 S x y).getD r 0 = (sh21 S x y).b.getD r 255 := by
  unfold fb21
  by_cases h : r < (sh21 S x y).b.length
  · simp [List.getD, List.getElem?_append, h]
  · have h2 : r - (sh21 S x y).b.length < S.pg - (sh21 S x y).b.length := by omega
    have h3 : (sh21 S x y).b[r]? = none := List.getElem?_eq_none (by omega)
    simp [List.getD, List.getElem?_append, h, h2, h3, List.getElem?_replicate]
theorem rb21_snoc (S : Fs21) (x : Int) (i : Nat) : rb21 S x 0 (i + 1) = rb21 S x 0 i ++ [pb21 S x (i / S.pg) (i % S.pg)] := by
  unfold rb21
  rw [List.range_succ, List.map_append]
  simp
set_option maxRecDepth 100000 in
set_option maxHeartbeats 16000000 in
theorem rread21 {w : World} {b : Nat} {G : Nat → Prop} {S : Fs21} (h : Rl21d w b G S) (hO : Ok21 S) (hon : S.on = true) (x : Nat) (hx : x < 3) (n : Nat) (hn : (n : Int) = (S.pg : Int) * pn21 S.ps (x : Int)) :
    Calls Try.prog 54 #[.pointer (some ⟨b, 0, none⟩), .int .i64 (x : Int), .int .i64 0, .int .i64 (n : Int)] w fun e w' => ∃ ra rc, e = .returned (.tuple #[.slice ra n rc, .int .i64 0]) ∧ w'.ownsRow w.heap.size 5 1 (.slice ra n rc) n ((rb21 S (x : Int) 0 n).map (Value.int .u8)) ∧ Below w.heap.size w w' := by
  obtain ⟨g, c, A, tn, ta, tc, la, lc, V, q, _⟩ := h
  have hpn := pn21_bd S.ps (x : Int) hO.ps.2
  have hAn := q.hn x hx
  obtain ⟨PN, hPN⟩ : ∃ PN, PN = (A x).length := ⟨_, rfl⟩
  obtain ⟨PG, hPG⟩ : ∃ PG, PG = S.pg := ⟨_, rfl⟩
  rw [← hPN] at hAn
  have hpg := hO.pg
  rw [← hPG] at hpg hn
  have hnn : n = PG * PN := by
    have : (n : Int) = ((PG * PN : Nat) : Int) := by rw [hn, ← hAn.1]; exact (Int.natCast_mul _ _).symm
    exact Int.ofNat.inj this
  have hPN96 : PN ≤ 4096 := by omega
  have hn24 : n ≤ 16777216 := by rw [hnn]; exact Nat.le_trans (Nat.mul_le_mul hpg.2 hPN96) (by decide)
  have c7 : w.cell? ⟨b, 7, none⟩ = some (.bool false) := by
    have : w.cell? ⟨b, 7, none⟩ = some (.bool (!S.on)) := q.cel rfl
    rw [hon] at this; exact this
  have HC : Hid (∀ V', Below w.heap.size w V' → V'.cell? ⟨b, 0, none⟩ = some (.int .i64 (PG : Int)) ∧ V'.cell? ⟨b, 3 + x, none⟩ = some (.slice (some ⟨g x, 0, none⟩) PN (c x))) := fun V' hV => by
    have := q.old hV
    rw [hPG, hPN]
    exact ⟨this.cel rfl, this.car hx⟩
  have HB : Hid (∀ V' i, Below w.heap.size w V' → i < n → ∃ (k off cc : Nat), PG ≤ cc ∧ V'.cell? ⟨g x, i / PG * 3, none⟩ = some (.slice (some ⟨k, off, none⟩) PG cc) ∧ V'.cell? ⟨k, off + i % PG, none⟩ = some (.int .u8 (pb21 S (x : Int) (i / PG) (i % PG)))) := fun V' i hV hi => by
    have q' := q.old hV
    have hlt : i / PG < PN := by rw [hnn] at hi; exact Nat.div_lt_of_lt_mul hi
    obtain ⟨d, hd⟩ : ∃ d, (A x)[i / PG]? = some d := ⟨_, List.getElem?_eq_getElem (by rw [← hPN]; exact hlt)⟩
    obtain ⟨s1, s2, s3, s4, s5, s6⟩ := q'.hd x (i / PG) d hx hd
    have hdl : d.b.length = PG := by rw [s3, fb21_len hO, hPG]
    have hm : i % PG < PG := Nat.mod_lt _ (by omega)
    obtain ⟨k', off', e1, e2⟩ := s1.at_ (i % PG) (by omega)
    cases e1
    have e3 := (q'.pgc hx hd).1
    rw [hdl] at e3 s6
    refine ⟨d.k, d.off, d.c, s6, e3, ?_⟩
    rw [e2, s3, fb21_at S _ _ _ (by rw [← hPG]; exact hm)]
    rfl
  have hmulw : IntKind.i64.wrap ((PN : Int) * (PG : Int)) = (n : Int) := by
    have : (PN : Int) * (PG : Int) = (n : Int) := by rw [hnn, Nat.mul_comm]; exact (Int.natCast_mul _ _).symm
    rw [this, IntWalk.i64_in _ (by omega)]
  have hnw : IntKind.i64.wrap (n : Int) = (n : Int) := IntWalk.i64_in _ (by omega)
  have hnw0 : IntKind.i64.wrap (0 + (n : Int)) = (n : Int) := by rw [Int.zero_add]; exact hnw
  have hnw1 : IntKind.i64.wrap ((n : Int) - 0) = (n : Int) := by rw [Int.sub_zero]; exact hnw
  have hx0 : ¬ (x : Int) < 0 := by omega
  have hx2 : ¬ (2 : Int) < (x : Int) := by omega
  have hx2n : ¬ 2 < x := by omega
  have hn0 : ¬ (n : Int) < 0 := by omega
  have hx3 : (x : Int) < 3 := by omega
  have hx00 : (0 : Int) ≤ (x : Int) := by omega
  have hgx : ∃ gx cx, gx = g x ∧ cx = c x := ⟨_, _, rfl, rfl⟩
  obtain ⟨gx, cx, hg1, hg2⟩ := hgx
  rw [← hg1, ← hg2] at HC
  rw [← hg1] at HB
  have HPG : Hid (PG = S.pg ∧ 64 ≤ PG ∧ PG ≤ 4096 ∧ n = PG * PN) := ⟨hPG, hpg.1, hpg.2, hnn⟩
  have b0 : Below w.heap.size w w.drew := (Below.refl _ _).drew
  obtain ⟨d0, d3⟩ := HC.out w.drew b0
  have HX : Hid (x < 3 ∧ PN ≤ 4096) := ⟨hx, hPN96⟩
  obtain ⟨i0, hi0, hz0, hz1, hz2⟩ := info_parts info_u22
  clear q hpn hAn hPN hPG hpg hn hnn hO hon hg1 hg2
  go_enter Try.func54, Try.ntmps54
  go_upto_region 5 with fail
  refine still_all22c (by kernel_rfl) (by kernel_rfl) ?_
  repeat still_step
  refine wpStill_nil ?_
  clear d0 d3 c7
  have HW0 : Hid (Below w.heap.size w w.drew) := b0
  clear b0
  go_wp2_with fail
  go_loopw [11, 12] (fun t11 ti wr => ∃ (i : Nat) (v : Value), i ≤ n ∧ v = t11 ∧ ti = .int .i64 (i : Int) ∧ wr.ownsRow w.heap.size 5 1 v i ((rb21 S (x : Int) 0 i).map (Value.int .u8)) ∧ Below w.heap.size w wr) (fun _ ti _ => n - (intOf ti).toNat)
  case atStart => exact ⟨0, _, by omega, rfl, rfl, World.ownsRow_nil _ _ _ _, HW0.out⟩
  case round =>
    obtain ⟨i, v, hin, rfl, rfl, hown, hB⟩ := hrel
    by_cases hi : i < n
    · have hii : (i : Int) < (n : Int) := by omega
      have hiw : IntKind.i64.wrap ((i : Int) + 1) = ((i + 1 : Nat) : Int) := by rw [IntWalk.i64_in _ (by omega)]; omega
      obtain ⟨dk, doff, dc, hdc, e1, e2⟩ := HB.out wr i hB hi
      obtain ⟨e0, e3⟩ := HC.out wr hB
      have hpg := HPG.out
      obtain ⟨Y, hY⟩ : ∃ Y, Y = i / PG := ⟨_, rfl⟩
      obtain ⟨R, hR⟩ : ∃ R, R = i % PG := ⟨_, rfl⟩
      obtain ⟨z, hz⟩ : ∃ z, z = pb21 S (x : Int) (i / PG) (i % PG) := ⟨_, rfl⟩
      rw [← hz, ← hR] at e2
      rw [← hY] at e1
      have hYN : Y < PN := by rw [hY]; exact Nat.div_lt_of_lt_mul (by rw [← hpg.2.2.2]; exact hi)
      have hRP : R < PG := by rw [hR]; exact Nat.mod_lt _ (by omega)
      have hq : Int.tdiv (i : Int) (PG : Int) = (Y : Int) := by rw [hY]; rfl
      have hr : Int.tmod (i : Int) (PG : Int) = (R : Int) := by rw [hR]; rfl
      have hqw : IntKind.i64.wrap (Y : Int) = (Y : Int) := IntWalk.i64_in _ (by have := HX.out; omega)
      have hrw : IntKind.i64.wrap (R : Int) = (R : Int) := IntWalk.i64_in _ (by omega)
      have hYi : (Y : Int) < (PN : Int) := by omega
      have hRi : (R : Int) < (PG : Int) := by omega
      have hPi : ¬ (PG : Int) = 0 := by omega
      have hPn : ¬ PG = 0 := by omega
      have hzb : rb21 S (x : Int) 0 (i + 1) = rb21 S (x : Int) 0 i ++ [z] := by rw [rb21_snoc, hz, hpg.1]
      obtain ⟨v0, hv0⟩ : ∃ v0, v0 = wr.drew := ⟨_, rfl⟩
      have HV0 : Hid (wr.drew = v0) := hv0.symm
      have how : v0.ownsRow w.heap.size 5 1 v i ((rb21 S (x : Int) 0 i).map (Value.int .u8)) := by rw [hv0]; exact hown.drew
      have hB0 : Below w.heap.size w v0 := by rw [hv0]; exact hB.drew
      have hc : v0.cell? ⟨b, 0, none⟩ = some (.int .i64 (PG : Int)) ∧ v0.cell? ⟨b, 3 + x, none⟩ = some (.slice (some ⟨gx, 0, none⟩) PN cx) ∧ v0.cell? ⟨gx, Y * 3, none⟩ = some (.slice (some ⟨dk, doff, none⟩) PG dc) ∧ v0.cell? ⟨dk, doff + R, none⟩ = some (.int .u8 z) := by rw [hv0]; exact ⟨e0, e3, e1, e2⟩
      obtain ⟨vx, v2, hr2, ho2, hg2, _, hfr⟩ := run_app_st (P := Try.prog) 22 22 w.heap.size 5 i0 (.int .u8 0) 1 Try.underlying22 hi0 hz0 hz1 hz2 rfl (v0.alloc (.cells #[.int .u8 z] 5)) (how.alloc _) ⟨v0.heap.size, 0, none⟩ 1 1 [.int .u8 z] rfl (cell_one_new _ _ _) (by intro y hy; simp at hy; subst hy; rfl) (by omega) (by omega) (by have := hB0.size; simp; omega)
      obtain ⟨v1, hv1⟩ : ∃ v1, v1 = v0.alloc (.cells #[.int .u8 z] 5) := ⟨_, rfl⟩
      obtain ⟨zz, hzz⟩ : ∃ zz, zz = v0.heap.size := ⟨_, rfl⟩
      rw [← hv1] at hr2 hg2
      rw [← hzz] at hr2
      have hb1 : Below w.heap.size w v1 := by rw [hv1]; exact hB0.alloc hB0.size _
      have hb2 : Below w.heap.size w v2 := hb1.grown hg2 hb1.size (fun j hj => (how.lt j hj).1)
      have HR2 : Hid ((Builtin.append_ #[22, 22] 22 #[v, .slice (some ⟨zz, 0, none⟩) 1 1]).run Try.prog v1 = .ok vx v2) := hr2
      have HO2 : Hid (v2.ownsRow w.heap.size 5 1 vx (i + 1) ((rb21 S (x : Int) 0 (i + 1)).map (Value.int .u8)) ∧ Below w.heap.size w v2) := ⟨by rw [hzb]; simpa using ho2, hb2⟩
      have HKC : Hid (∀ V', Below w.heap.size w V' → V'.cell? ⟨b, 0, none⟩ = some (.int .i64 (PG : Int)) ∧ V'.cell? ⟨b, 3 + x, none⟩ = some (.slice (some ⟨gx, 0, none⟩) PN cx) ∧ V'.cell? ⟨gx, Y * 3, none⟩ = some (.slice (some ⟨dk, doff, none⟩) PG dc) ∧ V'.cell? ⟨dk, doff + R, none⟩ = some (.int .u8 z)) := fun V' hV => by
        obtain ⟨m0, m3⟩ := HC.out V' hV
        obtain ⟨k2, o2, cc2, _, m1, m2⟩ := HB.out V' i hV hi
        rw [← hY] at m1
        rw [← hz, ← hR] at m2
        have h1 := (HB.out w i (Below.refl _ _) hi)
        obtain ⟨k3, o3, c3, _, n1, n2⟩ := h1
        rw [← hY] at n1
        have hsame := (hV.cell (p := ⟨gx, Y * 3, none⟩) (World.block_lt_of_cell? _ _ n1)).trans n1
        have hsame2 := (hB.cell (p := ⟨gx, Y * 3, none⟩) (World.block_lt_of_cell? _ _ n1)).trans n1
        rw [e1] at hsame2
        rw [m1] at hsame
        rw [← hsame2] at hsame
        simp only [Option.some.injEq, Value.slice.injEq, Addr.mk.injEq, and_true, true_and] at hsame
        obtain ⟨⟨rfl, rfl⟩, rfl⟩ := hsame
        exact ⟨m0, m3, m1, m2⟩
      have HV1 : Hid (v0.alloc (.cells #[.int .u8 z] 5) = v1 ∧ v0.heap.size = zz ∧ Below w.heap.size w v1) := ⟨hv1.symm, hzz.symm, hb1⟩
      clear hr2 ho2 hg2 hfr hb1 hb2 hv1 hzz hv0 how hB0 hown hB e0 e1 e2 e3 hpg hY hR hz hzb hi0 hz0 hz1 hz2
      go_upto_region 12 with fail
      refine plain_region16 (fun V' => V'.cell? ⟨b, 0, none⟩ = some (.int .i64 (PG : Int)) ∧ V'.cell? ⟨b, 3 + x, none⟩ = some (.slice (some ⟨gx, 0, none⟩) PN cx) ∧ V'.cell? ⟨gx, Y * 3, none⟩ = some (.slice (some ⟨dk, doff, none⟩) PG dc) ∧ V'.cell? ⟨dk, doff + R, none⟩ = some (.int .u8 z)) 27 (by kernel_rfl) (by rw [HV0.out]; exact hc) (fun hHeld => ?_)
      rw [HV0.out] at hHeld ⊢
      clear hc
      refine wpAnyK_take (i := 0) (v := v) rfl (by kernel_rfl) (by kernel_rfl) (by kernel_rfl) (by kernel_rfl) (fun _ _ _ h => h) (Or.inl ⟨by rfl, fun w hSw => by go_simp⟩) hHeld ?_
      simp only [List.getElem_toArray, List.getElem_cons_zero, Act.put, List.setIfInBounds_toArray, List.set_cons_zero, List.set_cons_succ]
      refine wpAnyK_take (i := 1) (v := .pointer (some ⟨b, 0, none⟩)) rfl (by kernel_rfl) (by kernel_rfl) (by kernel_rfl) (by kernel_rfl) (fun _ _ _ h => h) (Or.inl ⟨by rfl, fun w hSw => by go_simp⟩) hHeld ?_
      simp only [List.getElem_toArray, List.getElem_cons_zero, List.getElem_cons_succ, Act.put, List.setIfInBounds_toArray, List.set_cons_zero, List.set_cons_succ]
      refine wpAnyK_take (i := 2) (v := .int .i64 (x : Int)) rfl (by kernel_rfl) (by kernel_rfl) (by kernel_rfl) (by kernel_rfl) (fun _ _ _ h => h) (Or.inl ⟨by rfl, fun w hSw => by go_simp⟩) hHeld ?_
      simp only [List.getElem_toArray, List.getElem_cons_zero, List.getElem_cons_succ, Act.put, List.setIfInBounds_toArray, List.set_cons_zero, List.set_cons_succ]
      refine wpAnyK_take (i := 3) (v := .pointer (some ⟨b, 0, none⟩)) rfl (by kernel_rfl) (by kernel_rfl) (by kernel_rfl) (by kernel_rfl) (fun _ _ _ h => h) (Or.inl ⟨by rfl, fun w hSw => by go_simp⟩) hHeld ?_
      simp only [List.getElem_toArray, List.getElem_cons_zero, List.getElem_cons_succ, Act.put, List.setIfInBounds_toArray, List.set_cons_zero, List.set_cons_succ]
      refine wpAnyK_take (i := 4) (v := .pointer (some ⟨b, 3, none⟩)) rfl (by kernel_rfl) (by kernel_rfl) (by kernel_rfl) (by kernel_rfl) (fun _ _ _ h => h) (Or.inl ⟨by rfl, fun w hSw => by go_simp⟩) hHeld ?_
      simp only [List.getElem_toArray, List.getElem_cons_zero, List.getElem_cons_succ, Act.put, List.setIfInBounds_toArray, List.set_cons_zero, List.set_cons_succ]
      refine wpAnyK_take (i := 5) (v := .pointer (some ⟨b, 3 + x, none⟩)) rfl (by kernel_rfl) (by kernel_rfl) (by kernel_rfl) (by kernel_rfl) (fun _ _ _ h => h) (Or.inl ⟨by rfl, fun w hSw => by go_simp⟩) hHeld ?_
      simp only [List.getElem_toArray, List.getElem_cons_zero, List.getElem_cons_succ, Act.put, List.setIfInBounds_toArray, List.set_cons_zero, List.set_cons_succ]
      refine wpAnyK_take (i := 6) (v := .slice (some ⟨gx, 0, none⟩) PN cx) rfl (by kernel_rfl) (by kernel_rfl) (by kernel_rfl) (by kernel_rfl) (fun _ _ _ h => h) (Or.inl ⟨by rfl, fun w hSw => by go_simp⟩) hHeld ?_
      simp only [List.getElem_toArray, List.getElem_cons_zero, List.getElem_cons_succ, Act.put, List.setIfInBounds_toArray, List.set_cons_zero, List.set_cons_succ]
      refine wpAnyK_take (i := 7) (v := .int .i64 (i : Int)) rfl (by kernel_rfl) (by kernel_rfl) (by kernel_rfl) (by kernel_rfl) (fun _ _ _ h => h) (Or.inl ⟨by rfl, fun w hSw => by go_simp⟩) hHeld ?_
      simp only [List.getElem_toArray, List.getElem_cons_zero, List.getElem_cons_succ, Act.put, List.setIfInBounds_toArray, List.set_cons_zero, List.set_cons_succ]
      refine wpAnyK_take (i := 8) (v := .pointer (some ⟨b, 0, none⟩)) rfl (by kernel_rfl) (by kernel_rfl) (by kernel_rfl) (by kernel_rfl) (fun _ _ _ h => h) (Or.inl ⟨by rfl, fun w hSw => by go_simp⟩) hHeld ?_
      simp only [List.getElem_toArray, List.getElem_cons_zero, List.getElem_cons_succ, Act.put, List.setIfInBounds_toArray, List.set_cons_zero, List.set_cons_succ]
      refine wpAnyK_take (i := 9) (v := .pointer (some ⟨b, 0, none⟩)) rfl (by kernel_rfl) (by kernel_rfl) (by kernel_rfl) (by kernel_rfl) (fun _ _ _ h => h) (Or.inl ⟨by rfl, fun w hSw => by go_simp⟩) hHeld ?_
      simp only [List.getElem_toArray, List.getElem_cons_zero, List.getElem_cons_succ, Act.put, List.setIfInBounds_toArray, List.set_cons_zero, List.set_cons_succ]
      refine wpAnyK_take (i := 10) (v := .pointer (some ⟨b, 0, none⟩)) rfl (by kernel_rfl) (by kernel_rfl) (by kernel_rfl) (by kernel_rfl) (fun _ _ _ h => h) (Or.inl ⟨by rfl, fun w hSw => by go_simp⟩) hHeld ?_
      simp only [List.getElem_toArray, List.getElem_cons_zero, List.getElem_cons_succ, Act.put, List.setIfInBounds_toArray, List.set_cons_zero, List.set_cons_succ]
      refine wpAnyK_take (i := 11) (v := .int .i64 (PG : Int)) rfl (by kernel_rfl) (by kernel_rfl) (by kernel_rfl) (by kernel_rfl) (fun _ _ _ h => h) (Or.inl ⟨by rfl, fun w hSw => by go_simp⟩) hHeld ?_
      simp only [List.getElem_toArray, List.getElem_cons_zero, List.getElem_cons_succ, Act.put, List.setIfInBounds_toArray, List.set_cons_zero, List.set_cons_succ]
      refine wpAnyK_take (i := 12) (v := .int .i64 (Y : Int)) rfl (by kernel_rfl) (by kernel_rfl) (by kernel_rfl) (by kernel_rfl) (fun _ _ _ h => h) (Or.inl ⟨by rfl, fun w hSw => by go_simp⟩) hHeld ?_
      simp only [List.getElem_toArray, List.getElem_cons_zero, List.getElem_cons_succ, Act.put, List.setIfInBounds_toArray, List.set_cons_zero, List.set_cons_succ]
      refine wpAnyK_take (i := 13) (v := .pointer (some ⟨gx, Y * 3, none⟩)) rfl (by kernel_rfl) (by kernel_rfl) (by kernel_rfl) (by kernel_rfl) (fun _ _ _ h => h) (Or.inl ⟨by rfl, fun w hSw => by go_simp⟩) hHeld ?_
      simp only [List.getElem_toArray, List.getElem_cons_zero, List.getElem_cons_succ, Act.put, List.setIfInBounds_toArray, List.set_cons_zero, List.set_cons_succ]
      refine wpAnyK_take (i := 14) (v := .pointer (some ⟨gx, Y * 3, none⟩)) rfl (by kernel_rfl) (by kernel_rfl) (by kernel_rfl) (by kernel_rfl) (fun _ _ _ h => h) (Or.inl ⟨by rfl, fun w hSw => by go_simp⟩) hHeld ?_
      simp only [List.getElem_toArray, List.getElem_cons_zero, List.getElem_cons_succ, Act.put, List.setIfInBounds_toArray, List.set_cons_zero, List.set_cons_succ]
      refine wpAnyK_take (i := 15) (v := .slice (some ⟨dk, doff, none⟩) PG dc) rfl (by kernel_rfl) (by kernel_rfl) (by kernel_rfl) (by kernel_rfl) (fun _ _ _ h => h) (Or.inl ⟨by rfl, fun w hSw => by go_simp⟩) hHeld ?_
      simp only [List.getElem_toArray, List.getElem_cons_zero, List.getElem_cons_succ, Act.put, List.setIfInBounds_toArray, List.set_cons_zero, List.set_cons_succ]
      refine wpAnyK_take (i := 16) (v := .int .i64 (i : Int)) rfl (by kernel_rfl) (by kernel_rfl) (by kernel_rfl) (by kernel_rfl) (fun _ _ _ h => h) (Or.inl ⟨by rfl, fun w hSw => by go_simp⟩) hHeld ?_
      simp only [List.getElem_toArray, List.getElem_cons_zero, List.getElem_cons_succ, Act.put, List.setIfInBounds_toArray, List.set_cons_zero, List.set_cons_succ]
      refine wpAnyK_take (i := 17) (v := .pointer (some ⟨b, 0, none⟩)) rfl (by kernel_rfl) (by kernel_rfl) (by kernel_rfl) (by kernel_rfl) (fun _ _ _ h => h) (Or.inl ⟨by rfl, fun w hSw => by go_simp⟩) hHeld ?_
      simp only [List.getElem_toArray, List.getElem_cons_zero, List.getElem_cons_succ, Act.put, List.setIfInBounds_toArray, List.set_cons_zero, List.set_cons_succ]
      refine wpAnyK_take (i := 18) (v := .pointer (some ⟨b, 0, none⟩)) rfl (by kernel_rfl) (by kernel_rfl) (by kernel_rfl) (by kernel_rfl) (fun _ _ _ h => h) (Or.inl ⟨by rfl, fun w hSw => by go_simp⟩) hHeld ?_
      simp only [List.getElem_toArray, List.getElem_cons_zero, List.getElem_cons_succ, Act.put, List.setIfInBounds_toArray, List.set_cons_zero, List.set_cons_succ]
      refine wpAnyK_take (i := 19) (v := .pointer (some ⟨b, 0, none⟩)) rfl (by kernel_rfl) (by kernel_rfl) (by kernel_rfl) (by kernel_rfl) (fun _ _ _ h => h) (Or.inl ⟨by rfl, fun w hSw => by go_simp⟩) hHeld ?_
      simp only [List.getElem_toArray, List.getElem_cons_zero, List.getElem_cons_succ, Act.put, List.setIfInBounds_toArray, List.set_cons_zero, List.set_cons_succ]
      refine wpAnyK_take (i := 20) (v := .int .i64 (PG : Int)) rfl (by kernel_rfl) (by kernel_rfl) (by kernel_rfl) (by kernel_rfl) (fun _ _ _ h => h) (Or.inl ⟨by rfl, fun w hSw => by go_simp⟩) hHeld ?_
      simp only [List.getElem_toArray, List.getElem_cons_zero, List.getElem_cons_succ, Act.put, List.setIfInBounds_toArray, List.set_cons_zero, List.set_cons_succ]
      refine wpAnyK_take (i := 21) (v := .int .i64 (R : Int)) rfl (by kernel_rfl) (by kernel_rfl) (by kernel_rfl) (by kernel_rfl) (fun _ _ _ h => h) (Or.inl ⟨by rfl, fun w hSw => by go_simp⟩) hHeld ?_
      simp only [List.getElem_toArray, List.getElem_cons_zero, List.getElem_cons_succ, Act.put, List.setIfInBounds_toArray, List.set_cons_zero, List.set_cons_succ]
      refine wpAnyK_take (i := 22) (v := .pointer (some ⟨dk, doff + R, none⟩)) rfl (by kernel_rfl) (by kernel_rfl) (by kernel_rfl) (by kernel_rfl) (fun _ _ _ h => h) (Or.inl ⟨by rfl, fun w hSw => by go_simp⟩) hHeld ?_
      simp only [List.getElem_toArray, List.getElem_cons_zero, List.getElem_cons_succ, Act.put, List.setIfInBounds_toArray, List.set_cons_zero, List.set_cons_succ]
      refine wpAnyK_take (i := 23) (v := .int .u8 z) rfl (by kernel_rfl) (by kernel_rfl) (by kernel_rfl) (by kernel_rfl) (fun _ _ _ h => h) (Or.inl ⟨by rfl, fun w hSw => by go_simp⟩) hHeld ?_
      simp only [List.getElem_toArray, List.getElem_cons_zero, List.getElem_cons_succ, Act.put, List.setIfInBounds_toArray, List.set_cons_zero, List.set_cons_succ]
      refine wpAnyK_one (i := 24) (by kernel_rfl) rfl (fun K hK => ?_)
      (try simp only [List.getElem_toArray, List.getElem_cons_zero, List.getElem_cons_succ, Act.put, List.setIfInBounds_toArray, List.set_cons_zero, List.set_cons_succ])
      go_simp
      rw [HV1.out.1, HV1.out.2.1]
      refine hK.out _ _ (fun _ => HKC.out v1 HV1.out.2.2) (fun hHeld0 => ?_)
      have hHeld := hHeld0 (by decide)
      clear hHeld0 hK K
      (try simp only [List.getElem_toArray, List.getElem_cons_zero, List.getElem_cons_succ, Act.put, List.setIfInBounds_toArray, List.set_cons_zero, List.set_cons_succ])
      refine wpAnyK_one (i := 25) (by kernel_rfl) rfl (fun K hK => ?_)
      simp only [List.getElem_toArray, List.getElem_cons_zero, List.getElem_cons_succ]
      rw [if_pos (by rfl)]
      refine operwp_app22 _ _ _ rfl rfl rfl HR2.out ?_
      refine hK.out _ _ (fun _ => HKC.out v2 HO2.out.2) (fun hHeld0 => ?_)
      have hHeld := hHeld0 (by decide)
      clear hHeld0 hK K
      simp only [Act.put, List.setIfInBounds_toArray, List.set_cons_zero, List.set_cons_succ]
      refine wpAnyK_one (i := 26) (by kernel_rfl) rfl (fun K hK => ?_)
      (try simp only [List.getElem_toArray, List.getElem_cons_zero, List.getElem_cons_succ, Act.put, List.setIfInBounds_toArray, List.set_cons_zero, List.set_cons_succ])
      go_simp
      refine hK.out _ _ (fun _ => hHeld) (fun _ => ?_)
      clear hK K hHeld
      refine wpAnyK_done (by kernel_rfl) ?_ _
      go_wp2_with fail
      go_roundw
      case rel => exact ⟨i + 1, vx, by omega, rfl, rfl, HO2.out.1, HO2.out.2⟩
      case measure => simp [intOf]; omega
    · obtain rfl : i = n := by omega
      have hii : ¬ (i : Int) < (i : Int) := by omega
      obtain ⟨ra, rc, hv, _⟩ : ∃ ra rc, v = .slice ra i rc ∧ True := by
        rcases hown.2 with ⟨e1, e2⟩ | ⟨g', cp, cu, e1, _⟩
        · exact ⟨none, 0, by rw [e1, e2], trivial⟩
        · exact ⟨_, _, e1, trivial⟩
      subst hv
      have HF : Hid (wr.ownsRow w.heap.size 5 1 (.slice ra i rc) i ((rb21 S (x : Int) 0 i).map (Value.int .u8)) ∧ Below w.heap.size w wr) := ⟨hown, hB⟩
      clear hown hB hi0 hz0 hz1 hz2
      go_wp2_with fail
      go_ret2
      exact ⟨ra, rc, rfl, HF.out⟩
end Go.Proofs.Ythefcmhmcgjcoaa

namespace Go.Proofs.Ythefcmhmcgjcoaa
open Go.RowKit Go.Shelf
set_option linter.unusedVariables false
set_option linter.unusedSimpArgs false

/-! PageRuns: sameBytes. -/
theorem run_conv22 {P : Program} {w : World} {a : Option Addr} {zs : List Int} (n cap : Nat) (hn : zs.length = n) (h : Seg w a zs) (src e dst : TypeId) (hs : P.underlying src = some (.slice e)) (he : P.underlying e = some (.int .u8)) (hd : P.underlying dst = some .string) :
    (convert src dst (.slice a n cap)).run P w = .ok (.string (strOfNums zs)) w := by
  subst hn
  by_cases hz : 0 < zs.length
  · obtain ⟨b, off, rfl, _⟩ := h.at_ 0 hz
    refine run_convert_bytes_arg w src e hs he b off zs.length cap zs rfl (fun i hi => ?_) dst hd
    obtain ⟨b', off', hb, hc⟩ := h.at_ i hi
    cases hb
    exact hc
  · have : zs = [] := List.eq_nil_of_length_eq_zero (by omega)
    subst this
    cases a with
    | none => exact run_convert_bytes_nil w src e hs he _ _ dst hd
    | some x =>
      rw [run_convert_bytes_string w src dst e _ _ cap hs he hd]
      have hl : (loadCells x 0).run P w = .ok (([] : List Int).map (Value.int .u8)).toArray w := by simp [loadCells, loadCellsFrom]
      have := run_bytesToString (P := P) w x 0 cap [] hl
      exact this
/-- The document's device has power. -/
theorem ron22 {w : World} {b : Nat} {G : Nat → Prop} {S : Fs21} (h : Rl21d w b G S) : Rl21d (w.setCell ⟨b, 7, none⟩ (.bool false)) b G { S with on := true } ∧ Kp G w (w.setCell ⟨b, 7, none⟩ (.bool false)) ∧ w.frozen? ⟨b, 7, none⟩ = false ∧ ∃ v, w.cell? ⟨b, 7, none⟩ = some (.bool v) := by
  obtain ⟨g, c, A, tn, ta, tc, la, lc, V, h1, h2, h3, h4, h5, h6⟩ := h
  have hk : Kp (fun k => k = b) w (w.setCell ⟨b, 7, none⟩ (.bool false)) := Kp.set (S := fun k => k = b) rfl _
  exact ⟨⟨g, c, A, tn, ta, tc, la, lc, V, h1.re (S' := { S with on := true }) hk rfl rfl rfl rfl ⟨h1.ht.1, h1.ht.2⟩ (by simp [World.setCell, Array.getElem?_modify, h1.hp]), h2, h3, h4, h5, fun k e => Nat.lt_of_lt_of_le (h6 k e) hk.size⟩, hk.mono (fun i _ e => by subst e; exact h2), h1.fr 7, _, h1.cel rfl⟩
theorem rb_bd22 {w : World} {b : Nat} {G : Nat → Prop} {S : Fs21} (h : Rl21d w b G S) (hO : Ok21 S) (x : Nat) (hx : x < 3) (n : Nat) (hn : (n : Int) = (S.pg : Int) * pn21 S.ps (x : Int)) : ∀ z ∈ rb21 S (x : Int) 0 n, 0 ≤ z ∧ z ≤ 255 := by
  obtain ⟨g, c, A, tn, ta, tc, la, lc, V, q, _⟩ := h
  have hAn := q.hn x hx
  have hpg := hO.pg
  have hnn : n = S.pg * (A x).length := by
    have : (n : Int) = ((S.pg * (A x).length : Nat) : Int) := by rw [hn, ← hAn.1]; exact (Int.natCast_mul _ _).symm
    exact Int.ofNat.inj this
  intro z hz
  unfold rb21 at hz
  obtain ⟨i, hi, rfl⟩ := List.mem_map.1 hz
  have hi' : i < n := by simpa using hi
  rw [Nat.zero_add]
  have hlt : i / S.pg < (A x).length := by rw [hnn] at hi'; exact Nat.div_lt_of_lt_mul hi'
  obtain ⟨d, hd⟩ : ∃ d, (A x)[i / S.pg]? = some d := ⟨_, List.getElem?_eq_getElem hlt⟩
  obtain ⟨s1, s2, s3, s4, s5, s6⟩ := q.hd x (i / S.pg) d hx hd
  have hm : i % S.pg < S.pg := Nat.mod_lt _ (by omega)
  have := s1.bd (i % S.pg)
  rw [s3, fb21_at S _ _ _ hm] at this
  exact this
theorem rd_ok22 {S : Fs21} (hO : Ok21 S) (hon : S.on = true) (x : Nat) (hx : x < 3) (n : Nat) (hn : (n : Int) = (S.pg : Int) * pn21 S.ps (x : Int)) : rdE21 S (x : Int) 0 (n : Int) = 0 := by
  have hps := hO.ps
  have hpg := hO.pg
  have h1 : sz21 S (x : Int) = (n : Int) := by unfold sz21; rw [hn, Int.mul_comm]
  have h2 : 1 ≤ pn21 S.ps (x : Int) := by
    unfold pn21
    rw [if_neg (by omega)]
    split <;> omega
  have h3 : 0 < (n : Int) := by rw [hn]; exact Int.mul_pos (by omega) (by omega)
  unfold rdE21
  rw [if_neg (by rw [hon]; decide), h1, if_neg (by omega)]
theorem seg_rw22 {w : World} {g : Nat} {zs : List Int} (h : Rw21 w g zs) (hb : ∀ z ∈ zs, 0 ≤ z ∧ z ≤ 255) : Seg w (some ⟨g, 0, none⟩) zs := by
  obtain ⟨X, hX⟩ := h
  refine ⟨fun i hi => ⟨g, 0, rfl, ?_⟩, by decide, fun i => ?_⟩
  · rw [Nat.zero_add]
    simp only [World.cell?, hX]
    simp [List.getElem?_append, hi, List.getD]
  · rw [List.getD]
    cases e : zs[i]? with
    | none => simp
    | some z => exact hb z (List.mem_of_getElem? e)
set_option maxRecDepth 100000 in
set_option maxHeartbeats 16000000 in
theorem psamb22 {w : World} {f b : Nat} {F G : Nat → Prop} {S : Fs21} (hF : Fl21 w f F S) (hG : Rl21d w b G S) (hO : Ok21 S) (hd : ∀ k, F k → ¬ G k) :
    Calls Try.prog 33 #[.pointer (some ⟨f, 0, none⟩), .pointer (some ⟨b, 0, none⟩)] w fun e w' => e = .returned (.bool true) ∧ Kp (fun k => F k ∨ G k) w w' := by
  obtain ⟨S1, hS1⟩ : ∃ S1 : Fs21, S1 = { S with on := true } := ⟨_, rfl⟩
  have hO1 : Ok21 S1 := by rw [hS1]; exact ⟨hO.pg, hO.ps, hO.ac, hO.lm, hO.lf, hO.tn, hO.sh⟩
  have hon : S1.on = true := by rw [hS1]
  have HPW : Hid (Calls Try.prog 14 #[.pointer (some ⟨f, 0, none⟩)] w fun e w' => e = .returned (.tuple #[]) ∧ Fn21 w w' f F S1) := by rw [hS1]; exact ppow21 hF hO
  have HG : Hid (Rl21d w b G S ∧ (∀ k, F k → ¬ G k) ∧ S1 = { S with on := true } ∧ Ok21 S1 ∧ S1.on = true) := ⟨hG, hd, hS1, hO1, hon⟩
  clear hF hG hO hd hS1 hO1 hon
  go_enter Try.func33, Try.ntmps33
  go_wp2_with fail
  refine HPW.out.mono ?_
  rintro e w1 ⟨rfl, F', g1, g2, g3⟩
  have hG1 : Rl21d w1 b G S := HG.out.1.kp (fun k e => g3.block k (HG.out.1.lts k e) (fun q => HG.out.2.1 k q e)) g3.size
  obtain ⟨r1, r2, r3, v7, r4⟩ := ron22 hG1
  obtain ⟨w2, hw2⟩ : ∃ w2, w2 = w1.setCell ⟨b, 7, none⟩ (.bool false) := ⟨_, rfl⟩
  have HW2 : Hid (w1.setCell ⟨b, 7, none⟩ (.bool false) = w2) := hw2.symm
  rw [← hw2] at r1 r2
  rw [← HG.out.2.2.1] at r1
  have hF2 : Fl21 w2 f F' S1 := by
    have hdis : ∀ k, F' k → ¬ G k := fun k e q => by
      rcases g2 k e with h | h
      · exact HG.out.2.1 k h q
      · have := HG.out.1.lts k q; omega
    exact g1.kp (fun k e => r2.block k (by obtain ⟨_, _, _, _, _, _, _, _, _, _, _, _, _, z⟩ := g1; exact z k e) (hdis k e)) r2.size
  have HK2 : Hid (Kp (fun k => F k ∨ G k) w w2) := (g3.mono (fun _ _ e => .inl e)).trans (r2.mono (S' := fun k => F k ∨ G k) (fun _ _ e => .inr e)) (fun _ _ e => e)
  have HR2 : Hid (Rl21d w2 b G S1 ∧ Fl21 w2 f F' S1) := ⟨r1, hF2⟩
  obtain ⟨g, c, A, tn, ta, tc, la, lc, V, q, _⟩ := r1
  obtain ⟨PG, hPG⟩ : ∃ PG, PG = S1.pg := ⟨_, rfl⟩
  have HC : Hid (∀ V' x, Below w2.heap.size w2 V' → x < 3 → V'.cell? ⟨b, 0, none⟩ = some (.int .i64 (PG : Int)) ∧ V'.cell? ⟨b, 3 + x, none⟩ = some (.slice (some ⟨g x, 0, none⟩) (A x).length (c x))) := fun V' x hV hx => by
    have := q.old hV
    rw [hPG]
    exact ⟨this.cel rfl, this.car hx⟩
  have HA : Hid (∀ x, x < 3 → ((A x).length : Int) = pn21 S1.ps (x : Int) ∧ (A x).length ≤ 4096) := fun x hx => by
    have h1 := q.hn x hx
    have h2 := pn21_bd S1.ps (x : Int) HG.out.2.2.2.1.ps.2
    exact ⟨h1.1, by omega⟩
  have HP : Hid (PG = S1.pg ∧ 64 ≤ PG ∧ PG ≤ 4096) := ⟨hPG, by have := HG.out.2.2.2.1.pg; omega⟩
  clear q hPG g1 g2 g3 hG1 r2 hw2 hF2
  go_upto_region 3 with fail
  rw [HW2.out]
  go_wp2_with fail
  go_loopw [5] (fun ti wr => ∃ x : Nat, x ≤ 3 ∧ ti = .int .i64 (x : Int) ∧ Below w2.heap.size w2 wr) (fun ti _ => 3 - (intOf ti).toNat)
  case atStart => exact ⟨0, by omega, rfl, Below.refl _ _⟩
  case round =>
    obtain ⟨x, hx3, rfl, hB⟩ := hrel
    have HB : Hid (Below w2.heap.size w2 wr) := hB
    by_cases hx : x < 3
    · have hxi : (x : Int) < 3 := by omega
      have hx0 : (0 : Int) ≤ (x : Int) := by omega
      have hxw : IntKind.i64.wrap ((x : Int) + 1) = ((x + 1 : Nat) : Int) := by rw [IntWalk.i64_in _ (by omega)]; omega
      obtain ⟨d0, d3⟩ := HC.out wr.drew x hB.drew hx
      have hA := HA.out x hx
      have hp := HP.out
      obtain ⟨PN, hPN⟩ : ∃ PN, PN = (A x).length := ⟨_, rfl⟩
      obtain ⟨gx, hgx⟩ : ∃ gx, gx = g x := ⟨_, rfl⟩
      obtain ⟨cx, hcx⟩ : ∃ cx, cx = c x := ⟨_, rfl⟩
      rw [← hPN, ← hgx, ← hcx] at d3
      rw [← hPN] at hA
      obtain ⟨n, hn⟩ : ∃ n, n = PG * PN := ⟨_, rfl⟩
      have hni : (n : Int) = (PG : Int) * (PN : Int) := by rw [hn]; exact Int.natCast_mul _ _
      have hn24 : n ≤ 16777216 := by rw [hn]; exact Nat.le_trans (Nat.mul_le_mul hp.2.2 hA.2) (by decide)
      have hnS : (n : Int) = (S1.pg : Int) * pn21 S1.ps (x : Int) := by rw [hni, hA.1, hp.1]
      have hmul : IntKind.i64.wrap ((PG : Int) * (PN : Int)) = (n : Int) := by rw [← hni]; exact IntWalk.i64_in _ (by omega)
      have hrd := rd_ok22 HG.out.2.2.2.1 HG.out.2.2.2.2 x hx n hnS
      have HRP : Hid (∀ V', Below w2.heap.size w2 V' → Calls Try.prog 36 #[.pointer (some ⟨f, 0, none⟩), .int .i64 (x : Int), .int .i64 0, .int .i64 (n : Int)] V' fun e w' => ∃ gr, e = .returned (.tuple #[.slice (some ⟨gr, 0, none⟩) n n, .int .i64 0]) ∧ Rw21 w' gr (rb21 S1 (x : Int) 0 n) ∧ Below V'.heap.size V' w') := fun V' hV => (pread21 (HR2.out.2.old hV) HG.out.2.2.2.1 (x : Int) 0 (n : Int) ⟨by omega, by omega⟩ ⟨by decide, by decide⟩ ⟨by omega, by omega⟩).mono (by
        rintro e w' ⟨h1, h2⟩
        rcases h2 with ⟨h2, _⟩ | ⟨_, gr, rfl, _, h3⟩
        · exact absurd hrd h2
        · exact ⟨gr, rfl, h3, h1⟩)
      have HRD : Hid (∀ V', Below w2.heap.size w2 V' → Calls Try.prog 54 #[.pointer (some ⟨b, 0, none⟩), .int .i64 (x : Int), .int .i64 0, .int .i64 (n : Int)] V' fun e w' => ∃ ra rc, e = .returned (.tuple #[.slice ra n rc, .int .i64 0]) ∧ w'.ownsRow V'.heap.size 5 1 (.slice ra n rc) n ((rb21 S1 (x : Int) 0 n).map (Value.int .u8)) ∧ Below V'.heap.size V' w') := fun V' hV => rread21 (HR2.out.1.old hV) HG.out.2.2.2.1 HG.out.2.2.2.2 x hx n hnS
      have HBD : Hid (∀ z ∈ rb21 S1 (x : Int) 0 n, 0 ≤ z ∧ z ≤ 255) := rb_bd22 HR2.out.1 HG.out.2.2.2.1 x hx n hnS
      have HLn : Hid ((rb21 S1 (x : Int) 0 n).length = n) := rb21_len _ _ _ _
      clear hPN hgx hcx hn hni hnS hrd hA hp hB
      go_upto_region 6 with fail
      refine still_all22c (by kernel_rfl) (by kernel_rfl) ?_
      repeat still_step
      refine wpStill_nil ?_
      clear d0 d3
      go_wp2_with fail
      refine (HRP.out _ HB.out.drew).mono ?_
      rintro e w3 ⟨gr, rfl, h1, b3⟩
      have H3 : Hid (Rw21 w3 gr (rb21 S1 (x : Int) 0 n) ∧ Below w2.heap.size w2 w3) := ⟨h1, HB.out.drew.trans (b3.mono HB.out.size)⟩
      clear h1 b3
      go_wp2_with fail
      refine (HRD.out _ H3.out.2).mono ?_
      rintro e w4 ⟨ra, rc, rfl, h1, b4⟩
      have H4 : Hid (Below w2.heap.size w2 w4) := H3.out.2.trans (b4.mono H3.out.2.size)
      have s1 : Seg w4 (some ⟨gr, 0, none⟩) (rb21 S1 (x : Int) 0 n) := (seg_rw22 H3.out.1 HBD.out).old b4
      have s2 : Seg w4 ra (rb21 S1 (x : Int) 0 n) := by
        obtain ⟨-, a', c', e', hs, -⟩ := own_seg h1 (M := 255) (by decide) HBD.out
        cases e'
        exact hs
      have hc1 := run_conv22 (P := Try.prog) n n HLn.out s1 22 5 9 Try.underlying22 Try.underlying5 Try.underlying9
      have hc2 := run_conv22 (P := Try.prog) n rc HLn.out s2 22 5 9 Try.underlying22 Try.underlying5 Try.underlying9
      generalize strOfNums (rb21 S1 (x : Int) 0 n) = st at hc1 hc2
      have hbb : (st.toList == st.toList) = true := beq_self_eq_true _
      clear h1 b4 s1 s2
      go_wp2_with fail
      go_roundw
      case rel => exact ⟨x + 1, by omega, rfl, H4.out⟩
      case measure => simp [intOf]; omega
    · obtain rfl : x = 3 := by omega
      rw [show ((3 : Nat) : Int) = 3 from rfl]
      clear hB
      go_wp2_with fail
      go_ret
      exact ⟨rfl, HK2.out.trans (Kp.of_below (S := fun _ => False) HB.out) (fun _ _ h => h.elim)⟩
end Go.Proofs.Ythefcmhmcgjcoaa

namespace Go.Proofs.Ythefcmhmcgjcoaa
open Go.RowKit Go.Shelf
set_option linter.unusedVariables false
set_option linter.unusedSimpArgs false

/-! PageRuns: what every state keeps (pure). -/
theorem tu_ok22 {S : Fs21} (h : Ok21 S) : Ok21 (tuS21 S) ∧ (tuS21 S).pg = S.pg ∧ (tuS21 S).ps = S.ps ∧ (tuS21 S).lg = S.lg := by
  unfold tuS21
  split
  · exact ⟨⟨h.pg, h.ps, by have := h.ac; show 1 - S.ac = 0 ∨ 1 - S.ac = 1; omega, h.lm, h.lf, h.tn, h.sh⟩, rfl, rfl, rfl⟩
  · exact ⟨h, rfl, rfl, rfl⟩
theorem cu_ok22 {S : Fs21} (h : Ok21 S) (n : Int) (hn : In21 n) (L : List Int) : Ok21 (cuS21 S n L) ∧ (cuS21 S n L).pg = S.pg ∧ (cuS21 S n L).ps = S.ps ∧ (cuS21 S n L).lg = S.lg := by
  unfold cuS21
  split
  · exact ⟨h, rfl, rfl, rfl⟩
  · split
    · exact ⟨h, rfl, rfl, rfl⟩
    · rename_i hc
      refine ⟨⟨h.pg, h.ps, h.ac, h.lm, ⟨by show 0 ≤ n; omega, hn.2⟩, ?_, h.sh⟩, rfl, rfl, rfl⟩
      show (if 0 < n then L else []).length ≤ S.pg
      split
      · omega
      · simp
/-- What tk22 keeps. -/
structure Tk22 (S : Fs21) (P : Pw22) (n : Nat) (S' : Fs21) (P' : Pw22) (E : Int) : Prop where
  pg : S'.pg = S.pg ∧ S'.ps = S.ps
  ar : P'.ar = P.ar
  wn : P'.wn = P.wn
  pn : P'.pn ≤ P.pn + n
  lg : S'.lg.length ≤ S.lg.length + 2 * n
  z : E = 0 → P'.cl = P.cl ∧ P'.bf.length < S.pg
  e : E ≠ 0 → P'.cl ≠ 0
  bf : P'.bf.length ≤ S.pg
theorem tk22_keeps : ∀ (L : List Int) (S : Fs21) (P : Pw22), Ok21 S → P.bf.length < S.pg → Tk22 S P L.length (tk22 S P L).1 (tk22 S P L).2.1 (tk22 S P L).2.2
  | [], S, P, hO, hb => ⟨⟨rfl, rfl⟩, rfl, rfl, Nat.le_refl _, Nat.le_refl _, fun _ => ⟨rfl, hb⟩, fun h => absurd rfl h, Nat.le_of_lt hb⟩
  | c :: L, S, P, hO, hb => by
    rw [tk22]
    by_cases h1 : (P.bf ++ [c]).length = S.pg
    · rw [if_pos h1]
      have hy := lyS22_pg S { P with bf := P.bf ++ [c] }
      by_cases hE : lyE22 S { P with bf := P.bf ++ [c] } = 0
      · rw [if_neg (by rw [hE]; simp)]
        have hP : lyP22 S { P with bf := P.bf ++ [c] } = { P with pn := P.pn + 1, bf := [] } := by
          unfold lyP22; rw [if_neg (by rw [hE]; simp)]
        have hpg := hO.pg
        have ih := tk22_keeps L (lyS22 S { P with bf := P.bf ++ [c] }) (lyP22 S { P with bf := P.bf ++ [c] }) (ok22_ly hO _) (by rw [hP, hy.1]; simp; omega)
        rw [hP] at ih ⊢
        have q1 := ih.pg; have q2 := ih.ar; have q3 := ih.wn; have q4 := ih.pn; have q5 := ih.lg; have q6 := ih.z; have q7 := ih.e; have q8 := ih.bf
        rw [hy.1] at q1 q6 q8
        refine ⟨⟨q1.1, q1.2.trans hy.2.1⟩, q2, q3, ?_, ?_, q6, q7, q8⟩
        · simp only [List.length_cons]; simp only at q4; omega
        · simp only [List.length_cons]; omega
      · rw [if_pos hE]
        have hP : lyP22 S { P with bf := P.bf ++ [c] } = { P with bf := P.bf ++ [c], cl := lyE22 S { P with bf := P.bf ++ [c] } } := by
          unfold lyP22; rw [if_pos hE]
        refine ⟨⟨hy.1, hy.2.1⟩, by rw [hP], by rw [hP], by rw [hP]; show P.pn ≤ _; omega, by simp only [List.length_cons]; omega, fun h => absurd h hE, fun _ => by rw [hP]; exact hE, by rw [hP]; show (P.bf ++ [c]).length ≤ _; omega⟩
    · rw [if_neg h1]
      have hl : (P.bf ++ [c]).length < S.pg := by simp only [List.length_append, List.length_cons, List.length_nil] at h1 ⊢; omega
      have ih := tk22_keeps L S { P with bf := P.bf ++ [c] } hO hl
      exact ⟨ih.pg, ih.ar, ih.wn, Nat.le_trans ih.pn (by simp only [List.length_cons]; omega), Nat.le_trans ih.lg (by simp only [List.length_cons]; omega), ih.z, ih.e, ih.bf⟩
/-- What the law's states keep. -/
structure Iv22 (PG PS : Nat) (S : Fs21) (P : Pw22) : Prop where
  ok : Ok21 S
  pg : S.pg = PG ∧ S.ps = PS
  ar : In21 P.ar
  wn : P.wn ≤ PG * PS
  bf : P.bf.length ≤ PG
  z : P.cl = 0 → P.bf.length < PG ∧ P.pn ≤ P.wn ∧ S.lg.length ≤ 2 * P.wn
  pn : P.pn ≤ PG * PS + 1
  lg : S.lg.length ≤ 2 * (PG * PS) + 2
theorem Iv22.wr {PG PS : Nat} {S : Fs21} {P : Pw22} (h : Iv22 PG PS S P) (L : List Int) : Iv22 PG PS (wrS22 S P L) (wrP22 S P L) := by
  unfold wrS22 wrP22
  by_cases h0 : P.cl = 0
  · rw [if_neg (show ¬ P.cl ≠ 0 by simp [h0]), if_neg (show ¬ P.cl ≠ 0 by simp [h0])]
    by_cases hf : fu22 S P L.length
    · rw [if_pos hf, if_pos hf]; exact h
    · rw [if_neg hf, if_neg hf]
      have hz := h.z h0
      have hpg := h.pg
      have hmx : mx22 S = PG * PS := by unfold mx22; rw [hpg.1, hpg.2]
      have hn : P.wn + L.length ≤ PG * PS := by
        unfold fu22 at hf
        rw [hmx] at hf
        omega
      have k := tk22_keeps L S P h.ok (by rw [hpg.1]; exact hz.1)
      have hok := ok22_tk L S P h.ok
      have k1 := k.pg; have k2 := k.ar; have k3 := k.wn; have k4 := k.pn; have k5 := k.lg; have k6 := k.z; have k7 := k.e; have k8 := k.bf
      unfold tkS22 tkP22
      clear k
      generalize tk22 S P L = T at *
      obtain ⟨S', P', E⟩ := T
      simp only at *
      by_cases hE : E = 0
      · rw [if_pos hE]
        obtain ⟨z1, z2⟩ := k6 hE
        exact ⟨hok, ⟨k1.1.trans hpg.1, k1.2.trans hpg.2⟩, by show In21 P'.ar; rw [k2]; exact h.ar, by show P'.wn + L.length ≤ PG * PS; omega, by show P'.bf.length ≤ PG; omega, fun _ => ⟨by show P'.bf.length < PG; omega, by show P'.pn ≤ P'.wn + L.length; omega, by show S'.lg.length ≤ 2 * (P'.wn + L.length); omega⟩, by show P'.pn ≤ PG * PS + 1; omega, by omega⟩
      · rw [if_neg hE]
        exact ⟨hok, ⟨k1.1.trans hpg.1, k1.2.trans hpg.2⟩, by rw [k2]; exact h.ar, by omega, by omega, fun hc => absurd hc (k7 hE), by omega, by omega⟩
  · rw [if_pos (show P.cl ≠ 0 from h0), if_pos (show P.cl ≠ 0 from h0)]; exact h
theorem Iv22.ed {PG PS : Nat} {S : Fs21} {P : Pw22} (h : Iv22 PG PS S P) : Iv22 PG PS (edS22 S P) (edP22 S P) := by
  unfold edS22 edP22 enS22 enP22
  by_cases h0 : P.cl = 0
  · rw [if_neg (show ¬ P.cl ≠ 0 by simp [h0]), if_neg (show ¬ P.cl ≠ 0 by simp [h0])]
    have hz := h.z h0
    have hpg := h.pg
    by_cases hb : 0 < P.bf.length
    · rw [if_pos hb, if_pos hb]
      have hy := lyS22_pg S P
      have hok := ok22_ly h.ok P
      have hw := h.wn
      by_cases hE : lyE22 S P = 0
      · rw [if_neg (show ¬ lyE22 S P ≠ 0 by simp [hE])]
        have hP : lyP22 S P = { P with pn := P.pn + 1, bf := [] } := by unfold lyP22; rw [if_neg (by rw [hE]; simp)]
        rw [hP]
        exact ⟨hok, ⟨hy.1.trans hpg.1, hy.2.1.trans hpg.2⟩, h.ar, hw, by simp, fun hc => absurd (show (221 : Int) = 0 from hc) (by decide), by show P.pn + 1 ≤ _; omega, by omega⟩
      · rw [if_pos (show lyE22 S P ≠ 0 from hE)]
        have hP : lyP22 S P = { P with cl := lyE22 S P } := by unfold lyP22; rw [if_pos hE]
        rw [hP]
        exact ⟨hok, ⟨hy.1.trans hpg.1, hy.2.1.trans hpg.2⟩, h.ar, hw, h.bf, fun hc => absurd hc hE, h.pn, by omega⟩
    · rw [if_neg hb, if_neg hb]
      exact ⟨h.ok, h.pg, h.ar, h.wn, h.bf, fun hc => absurd (show (221 : Int) = 0 from hc) (by decide), h.pn, h.lg⟩
  · rw [if_pos (show P.cl ≠ 0 from h0), if_pos (show P.cl ≠ 0 from h0)]; exact h
theorem Iv22.dev {PG PS : Nat} {S S' : Fs21} {P : Pw22} (h : Iv22 PG PS S P) (hok : Ok21 S') (h1 : S'.pg = S.pg) (h2 : S'.ps = S.ps) (h3 : S'.lg = S.lg) : Iv22 PG PS S' P :=
  ⟨hok, ⟨h1.trans h.pg.1, h2.trans h.pg.2⟩, h.ar, h.wn, h.bf, fun hc => by rw [h3]; exact h.z hc, h.pn, by rw [h3]; exact h.lg⟩
theorem Iv22.new {S : Fs21} (hO : Ok21 S) (hl : S.lg = []) : Iv22 S.pg S.ps S ⟨1 - S.ac, [], 0, 0, 0⟩ :=
  ⟨hO, ⟨rfl, rfl⟩, by have := hO.ac; show In21 (1 - S.ac); exact ⟨by omega, by omega⟩, Nat.zero_le _, Nat.zero_le _, fun _ => ⟨by show 0 < S.pg; have := hO.pg; omega, Nat.le_refl _, by rw [hl]; simp⟩, Nat.zero_le _, by rw [hl]; simp⟩
end Go.Proofs.Ythefcmhmcgjcoaa
