import Derived.Test.YtmjlpfmacblcpaaDoorPn
import Derived.Test.YtmjlpfmacblcpaaDoorPp
import Derived.WalkKit
import Derived.WalkSpells
import Derived.Test.YtmjlpfmacblcpaaDoorPa
namespace Go.Proofs.YtmjlpfmacblcpaaDoor
open Go.RowKit Go.Shelf
set_option linter.unusedVariables false
set_option linter.unusedSimpArgs false
theorem rb21_snocg (S : Fs21) (x : Int) (a i : Nat) : rb21 S x a (i + 1) = rb21 S x a i ++ [pb21 S x ((a + i) / S.pg) ((a + i) % S.pg)] := by
  unfold rb21
  rw [List.range_succ, List.map_append]
  simp
def RrQ21 (w : World) (S : Fs21) (x a n : Int) (e : Ending) (w' : World) : Prop := Below w.heap.size w w' ∧ ((rdE21 S x a n ≠ 0 ∧ e = .returned (.tuple #[.slice none 0 0, .int .i64 (rdE21 S x a n)])) ∨ (rdE21 S x a n = 0 ∧ ∃ ra rc, e = .returned (.tuple #[.slice ra n.toNat rc, .int .i64 0]) ∧ w'.ownsRow w.heap.size 5 1 (.slice ra n.toNat rc) n.toNat ((rb21 S x a.toNat n.toNat).map (Value.int .u8))))
set_option maxRecDepth 100000 in
set_option maxHeartbeats 16000000 in
theorem rrdg21 {w : World} {b : Nat} {G : Nat → Prop} {S : Fs21} (h : Rl21d w b G S) (hO : Ok21 S) (x a n : Int) (hxi : In21 x) (ha : In21 a) (hni : In21 n) :
    Calls Tryd.prog 21 #[.pointer (some ⟨b, 0, none⟩), .int .i64 x, .int .i64 a, .int .i64 n] w (RrQ21 w S x a n) := by
  obtain ⟨g, c, A, tn, ta, tc, la, lc, V, q, _⟩ := h
  have HQ0 : Hid (∀ e w', RrQ21 w S x a n e w' = (Below w.heap.size w w' ∧ ((rdE21 S x a n ≠ 0 ∧ e = .returned (.tuple #[.slice none 0 0, .int .i64 (rdE21 S x a n)])) ∨ (rdE21 S x a n = 0 ∧ ∃ ra rc, e = .returned (.tuple #[.slice ra n.toNat rc, .int .i64 0]) ∧ w'.ownsRow w.heap.size 5 1 (.slice ra n.toNat rc) n.toNat ((rb21 S x a.toNat n.toNat).map (Value.int .u8)))))) := fun _ _ => rfl
  have c7' : w.cell? ⟨b, 7, none⟩ = some (.bool (!S.on)) := q.cel rfl
  cases hon : S.on
  · rw [hon] at c7'
    have hE : rdE21 S x a n = 213 := by unfold rdE21; rw [if_pos hon]
    clear q hO hxi ha hni
    go_enter Tryd.func21, Tryd.ntmps21
    go_wp2_with fail
    go_ret2
    rw [HQ0.out, hE]
    exact ⟨Below.refl _ _, .inl ⟨by decide, rfl⟩⟩
  rw [hon] at c7'
  have HE : Hid (∀ z, (sz21 S x = 0 ∨ a < 0 ∨ n < 0 ∨ sz21 S x - a < n) → z = rdE21 S x a n → z = 211) := fun z hz e => by rw [e]; unfold rdE21; rw [if_neg (by rw [hon]; simp), if_pos hz]
  have HE0 : Hid (¬ (sz21 S x = 0 ∨ a < 0 ∨ n < 0 ∨ sz21 S x - a < n) → rdE21 S x a n = 0) := fun hz => by unfold rdE21; rw [if_neg (by rw [hon]; simp), if_neg hz]
  have hbad : ∀ w', Below w.heap.size w w' → (sz21 S x = 0 ∨ a < 0 ∨ n < 0 ∨ sz21 S x - a < n) → RrQ21 w S x a n (.returned (.tuple #[.slice none 0 0, .int .i64 211])) w' := fun w' hw hz => by
    rw [HQ0.out, HE.out _ hz rfl]
    exact ⟨hw, .inl ⟨by decide, rfl⟩⟩
  have HBAD : Hid (∀ w', Below w.heap.size w w' → (sz21 S x = 0 ∨ a < 0 ∨ n < 0 ∨ sz21 S x - a < n) → RrQ21 w S x a n (.returned (.tuple #[.slice none 0 0, .int .i64 211])) w') := hbad
  clear hbad HE
  have HSZ : Hid (sz21 S x = pn21 S.ps x * (S.pg : Int)) := rfl
  by_cases hx0 : x < 0
  · have h0 : sz21 S x = 0 := by rw [HSZ.out]; unfold pn21; rw [if_pos (.inl hx0)]; simp
    clear q hO hxi ha hni HSZ
    go_enter Tryd.func21, Tryd.ntmps21
    go_wp2_with fail
    go_ret2
    exact HBAD.out _ (Below.refl _ _) (.inl h0)
  by_cases hx2 : 2 < x
  · have h0 : sz21 S x = 0 := by rw [HSZ.out]; unfold pn21; rw [if_pos (.inr hx2)]; simp
    clear q hO hxi ha hni HSZ
    go_enter Tryd.func21, Tryd.ntmps21
    go_wp2_with fail
    go_ret2
    exact HBAD.out _ (Below.refl _ _) (.inl h0)
  obtain ⟨x, rfl⟩ : ∃ X : Nat, x = (X : Int) := ⟨x.toNat, by omega⟩
  have hx : x < 3 := by omega
  clear hx0 hx2
  have hpn := pn21_bd S.ps (x : Int) hO.ps.2
  have hAn := q.hn x hx
  obtain ⟨PN, hPN⟩ : ∃ PN, PN = (A x).length := ⟨_, rfl⟩
  obtain ⟨PG, hPG⟩ : ∃ PG, PG = S.pg := ⟨_, rfl⟩
  rw [← hPN] at hAn
  have hpg := hO.pg
  rw [← hPG] at hpg
  obtain ⟨SZ, hnn⟩ : ∃ SZ, SZ = PG * PN := ⟨_, rfl⟩
  have hsz : sz21 S (x : Int) = (SZ : Int) := by rw [HSZ.out, ← hAn.1, ← hPG, hnn, Nat.mul_comm]; exact (Int.natCast_mul _ _).symm
  have hPN96 : PN ≤ 4096 := by omega
  have hn24 : SZ ≤ 16777216 := by rw [hnn]; exact Nat.le_trans (Nat.mul_le_mul hpg.2 hPN96) (by decide)
  have c7 : w.cell? ⟨b, 7, none⟩ = some (.bool false) := c7'
  have HC : Hid (∀ V', Below w.heap.size w V' → V'.cell? ⟨b, 0, none⟩ = some (.int .i64 (PG : Int)) ∧ V'.cell? ⟨b, 3 + x, none⟩ = some (.slice (some ⟨g x, 0, none⟩) PN (c x))) := fun V' hV => by
    have := q.old hV
    rw [hPG, hPN]
    exact ⟨this.cel rfl, this.car hx⟩
  have HB : Hid (∀ V' i, Below w.heap.size w V' → i < SZ → ∃ (k off cc : Nat), PG ≤ cc ∧ V'.cell? ⟨g x, i / PG * 3, none⟩ = some (.slice (some ⟨k, off, none⟩) PG cc) ∧ V'.cell? ⟨k, off + i % PG, none⟩ = some (.int .u8 (pb21 S (x : Int) (i / PG) (i % PG)))) := fun V' i hV hi => by
    have q' := q.old hV
    have hlt : i / PG < PN := by rw [hnn] at hi; exact Nat.div_lt_of_lt_mul hi
    obtain ⟨d, hd⟩ : ∃ d, (A x)[i / PG]? = some d := ⟨_, List.getElem?_eq_getElem (by rw [← hPN]; exact hlt)⟩
    obtain ⟨s1, s2, s3, s4, s5, s6⟩ := q'.hd x (i / PG) d hx hd
    have hdl : d.b.length = PG := by rw [s3, fb21_len hO, hPG]
    have hm : i % PG < PG := Nat.mod_lt _ (by omega)
    obtain ⟨k', off', e1, e2⟩ := s1.at_ (i % PG) (by omega)
    cases e1
    have e3 := (q'.pgc hx hd).1
    rw [hdl] at e3 s6
    refine ⟨d.k, d.off, d.c, s6, e3, ?_⟩
    rw [e2, s3, fb21_at S _ _ _ (by rw [← hPG]; exact hm)]
    rfl
  have hmulw : IntKind.i64.wrap ((PN : Int) * (PG : Int)) = (SZ : Int) := by
    have : (PN : Int) * (PG : Int) = (SZ : Int) := by rw [hnn, Nat.mul_comm]; exact (Int.natCast_mul _ _).symm
    rw [this, IntWalk.i64_in _ (by omega)]
  have hx0 : ¬ (x : Int) < 0 := by omega
  have hx2 : ¬ (2 : Int) < (x : Int) := by omega
  have hx2n : ¬ 2 < x := by omega
  have hx3 : (x : Int) < 3 := by omega
  have hx00 : (0 : Int) ≤ (x : Int) := by omega
  have hgx : ∃ gx cx, gx = g x ∧ cx = c x := ⟨_, _, rfl, rfl⟩
  obtain ⟨gx, cx, hg1, hg2⟩ := hgx
  rw [← hg1, ← hg2] at HC
  rw [← hg1] at HB
  have HPG : Hid (PG = S.pg ∧ 64 ≤ PG ∧ PG ≤ 4096 ∧ SZ = PG * PN) := ⟨hPG, hpg.1, hpg.2, hnn⟩
  have b0 : Below w.heap.size w w.drew := (Below.refl _ _).drew
  obtain ⟨d0, d3⟩ := HC.out w.drew b0
  have hp1 : 1 ≤ PN := by have h1 := hAn.1; have := hO.ps.1; unfold pn21 at h1; split at h1 <;> (try split at h1) <;> omega
  have HX : Hid (x < 3 ∧ PN ≤ 4096 ∧ 0 < SZ) := ⟨hx, hPN96, by rw [hnn]; exact Nat.mul_pos (by omega) hp1⟩
  obtain ⟨i0, hi0, hz0, hz1, hz2⟩ := info_parts info_u22
  have HN24 : Hid (SZ ≤ 16777216) := hn24
  rw [hsz] at HBAD HE0
  clear q hpn hAn hPN hPG hpg hnn hO hon hg1 hg2 hp1 hxi HSZ hsz hn24
  go_enter Tryd.func21, Tryd.ntmps21
  go_upto_region 5 with fail
  refine still_all22c (by kernel_rfl) (by kernel_rfl) ?_
  repeat still_step
  refine wpStill_nil ?_
  clear d0 d3 c7
  have HW0 : Hid (Below w.heap.size w w.drew) := b0
  clear b0
  have hsa : In21 a ∧ In21 n := ⟨ha, hni⟩
  clear ha hni
  by_cases k1 : a < 0
  · go_wp2_with fail
    go_ret2
    exact HBAD.out _ HW0.out (.inr (.inl k1))
  by_cases k2 : n < 0
  · go_wp2_with fail
    go_ret2
    exact HBAD.out _ HW0.out (.inr (.inr (.inl k2)))
  by_cases k3 : (SZ : Int) < a
  · go_wp2_with fail
    go_ret2
    exact HBAD.out _ HW0.out (.inr (.inr (.inr (by omega))))
  have hsw : IntKind.i64.wrap ((SZ : Int) - a) = (SZ : Int) - a := IntWalk.i64_in _ (by have := HN24.out; omega)
  by_cases k4 : (SZ : Int) - a < n
  · go_wp2_with fail
    go_ret2
    exact HBAD.out _ HW0.out (.inr (.inr (.inr k4)))
  obtain ⟨a, rfl⟩ : ∃ X : Nat, a = (X : Int) := ⟨a.toNat, by omega⟩
  obtain ⟨n, rfl⟩ : ∃ X : Nat, n = (X : Int) := ⟨n.toNat, by omega⟩
  have hz0 : rdE21 S (x : Int) (a : Int) (n : Int) = 0 := HE0.out (by have := HX.out; have := HN24.out; have h5 := HPG.out; omega)
  have HFN : Hid (∀ ra rc w', w'.ownsRow w.heap.size 5 1 (.slice ra n rc) n ((rb21 S (x : Int) a n).map (Value.int .u8)) → Below w.heap.size w w' → RrQ21 w S (x : Int) (a : Int) (n : Int) (.returned (.tuple #[.slice ra n rc, .int .i64 0])) w') := fun ra rc w' h1 h2 => by
    rw [HQ0.out]
    exact ⟨h2, .inr ⟨hz0, ra, rc, rfl, h1⟩⟩
  have HAN : Hid (a + n ≤ SZ) := by show _ ≤ _; omega
  have hanw : IntKind.i64.wrap ((a : Int) + (n : Int)) = ((a + n : Nat) : Int) := by rw [IntWalk.i64_in _ (by have := HN24.out; have := HAN.out; omega)]; omega
  clear hz0 HE0 HBAD HQ0 hsa
  go_wp2_with fail
  go_loopw [11, 12] (fun t11 ti wr => ∃ (i : Nat) (v : Value), i ≤ n ∧ v = t11 ∧ ti = .int .i64 ((a + i : Nat) : Int) ∧ wr.ownsRow w.heap.size 5 1 v i ((rb21 S (x : Int) a i).map (Value.int .u8)) ∧ Below w.heap.size w wr) (fun _ ti _ => a + n - (intOf ti).toNat)
  case atStart => exact ⟨0, _, by omega, rfl, rfl, World.ownsRow_nil _ _ _ _, HW0.out⟩
  case round =>
    obtain ⟨i, v, hin, rfl, rfl, hown, hB⟩ := hrel
    by_cases hi : i < n
    · obtain ⟨j, hj⟩ : ∃ j, j = a + i := ⟨_, rfl⟩
      have HJ : Hid (j = a + i ∧ j < SZ ∧ j ≤ 16777216) := ⟨hj, by have := HAN.out; omega, by have := HAN.out; have := HN24.out; omega⟩
      have hzb0 : rb21 S (x : Int) a (i + 1) = rb21 S (x : Int) a i ++ [pb21 S (x : Int) (j / S.pg) (j % S.pg)] := by rw [rb21_snocg, hj]
      rw [← hj]
      have hii : (j : Int) < ((a + n : Nat) : Int) := by omega
      have hiw : IntKind.i64.wrap ((j : Int) + 1) = ((a + (i + 1) : Nat) : Int) := by have := HJ.out; rw [IntWalk.i64_in _ (by omega)]; omega
      obtain ⟨dk, doff, dc, hdc, e1, e2⟩ := HB.out wr j hB HJ.out.2.1
      obtain ⟨e0, e3⟩ := HC.out wr hB
      have hpg := HPG.out
      obtain ⟨Y, hY⟩ : ∃ Y, Y = j / PG := ⟨_, rfl⟩
      obtain ⟨R, hR⟩ : ∃ R, R = j % PG := ⟨_, rfl⟩
      obtain ⟨z, hz⟩ : ∃ z, z = pb21 S (x : Int) (j / PG) (j % PG) := ⟨_, rfl⟩
      rw [← hz, ← hR] at e2
      rw [← hY] at e1
      have hYN : Y < PN := by rw [hY]; exact Nat.div_lt_of_lt_mul (by rw [← hpg.2.2.2]; exact HJ.out.2.1)
      have hRP : R < PG := by rw [hR]; exact Nat.mod_lt _ (by omega)
      have hq : Int.tdiv (j : Int) (PG : Int) = (Y : Int) := by rw [hY]; rfl
      have hr : Int.tmod (j : Int) (PG : Int) = (R : Int) := by rw [hR]; rfl
      have hqw : IntKind.i64.wrap (Y : Int) = (Y : Int) := IntWalk.i64_in _ (by have := HX.out; omega)
      have hrw : IntKind.i64.wrap (R : Int) = (R : Int) := IntWalk.i64_in _ (by omega)
      have hYi : (Y : Int) < (PN : Int) := by omega
      have hRi : (R : Int) < (PG : Int) := by omega
      have hPi : ¬ (PG : Int) = 0 := by omega
      have hPn : ¬ PG = 0 := by omega
      have hzb : rb21 S (x : Int) a (i + 1) = rb21 S (x : Int) a i ++ [z] := by rw [hzb0, hz, hpg.1]
      obtain ⟨v0, hv0⟩ : ∃ v0, v0 = wr.drew := ⟨_, rfl⟩
      have HV0 : Hid (wr.drew = v0) := hv0.symm
      have how : v0.ownsRow w.heap.size 5 1 v i ((rb21 S (x : Int) a i).map (Value.int .u8)) := by rw [hv0]; exact hown.drew
      have hB0 : Below w.heap.size w v0 := by rw [hv0]; exact hB.drew
      have hc : v0.cell? ⟨b, 0, none⟩ = some (.int .i64 (PG : Int)) ∧ v0.cell? ⟨b, 3 + x, none⟩ = some (.slice (some ⟨gx, 0, none⟩) PN cx) ∧ v0.cell? ⟨gx, Y * 3, none⟩ = some (.slice (some ⟨dk, doff, none⟩) PG dc) ∧ v0.cell? ⟨dk, doff + R, none⟩ = some (.int .u8 z) := by rw [hv0]; exact ⟨e0, e3, e1, e2⟩
      have hib : i ≤ 16777216 := by have := HJ.out; omega
      obtain ⟨vx, v2, hr2, ho2, hg2, _, hfr⟩ := run_app_st (P := Tryd.prog) 22 22 w.heap.size 5 i0 (.int .u8 0) 1 Tryd.underlying22 hi0 hz0 hz1 hz2 rfl (v0.alloc (.cells #[.int .u8 z] 5)) (how.alloc _) ⟨v0.heap.size, 0, none⟩ 1 1 [.int .u8 z] rfl (cell_one_new _ _ _) (by intro y hy; simp at hy; subst hy; rfl) (by omega) (by omega) (by have := hB0.size; simp; omega)
      obtain ⟨v1, hv1⟩ : ∃ v1, v1 = v0.alloc (.cells #[.int .u8 z] 5) := ⟨_, rfl⟩
      obtain ⟨zz, hzz⟩ : ∃ zz, zz = v0.heap.size := ⟨_, rfl⟩
      rw [← hv1] at hr2 hg2
      rw [← hzz] at hr2
      have hb1 : Below w.heap.size w v1 := by rw [hv1]; exact hB0.alloc hB0.size _
      have hb2 : Below w.heap.size w v2 := hb1.grown hg2 hb1.size (fun j hj => (how.lt j hj).1)
      have HR2 : Hid ((Builtin.append_ #[22, 22] 22 #[v, .slice (some ⟨zz, 0, none⟩) 1 1]).run Tryd.prog v1 = .ok vx v2) := hr2
      have HO2 : Hid (v2.ownsRow w.heap.size 5 1 vx (i + 1) ((rb21 S (x : Int) a (i + 1)).map (Value.int .u8)) ∧ Below w.heap.size w v2) := ⟨by rw [hzb]; simpa using ho2, hb2⟩
      have HKC : Hid (∀ V', Below w.heap.size w V' → V'.cell? ⟨b, 0, none⟩ = some (.int .i64 (PG : Int)) ∧ V'.cell? ⟨b, 3 + x, none⟩ = some (.slice (some ⟨gx, 0, none⟩) PN cx) ∧ V'.cell? ⟨gx, Y * 3, none⟩ = some (.slice (some ⟨dk, doff, none⟩) PG dc) ∧ V'.cell? ⟨dk, doff + R, none⟩ = some (.int .u8 z)) := fun V' hV => by
        obtain ⟨m0, m3⟩ := HC.out V' hV
        obtain ⟨k2, o2, cc2, _, m1, m2⟩ := HB.out V' j hV HJ.out.2.1
        rw [← hY] at m1
        rw [← hz, ← hR] at m2
        have h1 := (HB.out w j (Below.refl _ _) HJ.out.2.1)
        obtain ⟨k3, o3, c3, _, n1, n2⟩ := h1
        rw [← hY] at n1
        have hsame := (hV.cell (p := ⟨gx, Y * 3, none⟩) (World.block_lt_of_cell? _ _ n1)).trans n1
        have hsame2 := (hB.cell (p := ⟨gx, Y * 3, none⟩) (World.block_lt_of_cell? _ _ n1)).trans n1
        rw [e1] at hsame2
        rw [m1] at hsame
        rw [← hsame2] at hsame
        simp only [Option.some.injEq, Value.slice.injEq, Addr.mk.injEq, and_true, true_and] at hsame
        obtain ⟨⟨rfl, rfl⟩, rfl⟩ := hsame
        exact ⟨m0, m3, m1, m2⟩
      have HV1 : Hid (v0.alloc (.cells #[.int .u8 z] 5) = v1 ∧ v0.heap.size = zz ∧ Below w.heap.size w v1) := ⟨hv1.symm, hzz.symm, hb1⟩
      clear hr2 ho2 hg2 hfr hb1 hb2 hv1 hzz hv0 how hB0 hown hB e0 e1 e2 e3 hpg hY hR hz hzb hzb0 hj hib hi0 hz0 hz1 hz2
      go_upto_region 12 with fail
      refine plain_region16 (fun V' => V'.cell? ⟨b, 0, none⟩ = some (.int .i64 (PG : Int)) ∧ V'.cell? ⟨b, 3 + x, none⟩ = some (.slice (some ⟨gx, 0, none⟩) PN cx) ∧ V'.cell? ⟨gx, Y * 3, none⟩ = some (.slice (some ⟨dk, doff, none⟩) PG dc) ∧ V'.cell? ⟨dk, doff + R, none⟩ = some (.int .u8 z)) 27 (by kernel_rfl) (by rw [HV0.out]; exact hc) (fun hHeld => ?_)
      rw [HV0.out] at hHeld ⊢
      clear hc
      refine wpAnyK_take (i := 0) (v := v) rfl (by kernel_rfl) (by kernel_rfl) (by kernel_rfl) (by kernel_rfl) (fun _ _ _ h => h) (Or.inl ⟨by rfl, fun w hSw => by go_simp⟩) hHeld ?_
      simp only [List.getElem_toArray, List.getElem_cons_zero, Act.put, List.setIfInBounds_toArray, List.set_cons_zero, List.set_cons_succ]
      refine wpAnyK_take (i := 1) (v := .pointer (some ⟨b, 0, none⟩)) rfl (by kernel_rfl) (by kernel_rfl) (by kernel_rfl) (by kernel_rfl) (fun _ _ _ h => h) (Or.inl ⟨by rfl, fun w hSw => by go_simp⟩) hHeld ?_
      simp only [List.getElem_toArray, List.getElem_cons_zero, List.getElem_cons_succ, Act.put, List.setIfInBounds_toArray, List.set_cons_zero, List.set_cons_succ]
      refine wpAnyK_take (i := 2) (v := .int .i64 (x : Int)) rfl (by kernel_rfl) (by kernel_rfl) (by kernel_rfl) (by kernel_rfl) (fun _ _ _ h => h) (Or.inl ⟨by rfl, fun w hSw => by go_simp⟩) hHeld ?_
      simp only [List.getElem_toArray, List.getElem_cons_zero, List.getElem_cons_succ, Act.put, List.setIfInBounds_toArray, List.set_cons_zero, List.set_cons_succ]
      refine wpAnyK_take (i := 3) (v := .pointer (some ⟨b, 0, none⟩)) rfl (by kernel_rfl) (by kernel_rfl) (by kernel_rfl) (by kernel_rfl) (fun _ _ _ h => h) (Or.inl ⟨by rfl, fun w hSw => by go_simp⟩) hHeld ?_
      simp only [List.getElem_toArray, List.getElem_cons_zero, List.getElem_cons_succ, Act.put, List.setIfInBounds_toArray, List.set_cons_zero, List.set_cons_succ]
      refine wpAnyK_take (i := 4) (v := .pointer (some ⟨b, 3, none⟩)) rfl (by kernel_rfl) (by kernel_rfl) (by kernel_rfl) (by kernel_rfl) (fun _ _ _ h => h) (Or.inl ⟨by rfl, fun w hSw => by go_simp⟩) hHeld ?_
      simp only [List.getElem_toArray, List.getElem_cons_zero, List.getElem_cons_succ, Act.put, List.setIfInBounds_toArray, List.set_cons_zero, List.set_cons_succ]
      refine wpAnyK_take (i := 5) (v := .pointer (some ⟨b, 3 + x, none⟩)) rfl (by kernel_rfl) (by kernel_rfl) (by kernel_rfl) (by kernel_rfl) (fun _ _ _ h => h) (Or.inl ⟨by rfl, fun w hSw => by go_simp⟩) hHeld ?_
      simp only [List.getElem_toArray, List.getElem_cons_zero, List.getElem_cons_succ, Act.put, List.setIfInBounds_toArray, List.set_cons_zero, List.set_cons_succ]
      refine wpAnyK_take (i := 6) (v := .slice (some ⟨gx, 0, none⟩) PN cx) rfl (by kernel_rfl) (by kernel_rfl) (by kernel_rfl) (by kernel_rfl) (fun _ _ _ h => h) (Or.inl ⟨by rfl, fun w hSw => by go_simp⟩) hHeld ?_
      simp only [List.getElem_toArray, List.getElem_cons_zero, List.getElem_cons_succ, Act.put, List.setIfInBounds_toArray, List.set_cons_zero, List.set_cons_succ]
      refine wpAnyK_take (i := 7) (v := .int .i64 (j : Int)) rfl (by kernel_rfl) (by kernel_rfl) (by kernel_rfl) (by kernel_rfl) (fun _ _ _ h => h) (Or.inl ⟨by rfl, fun w hSw => by go_simp⟩) hHeld ?_
      simp only [List.getElem_toArray, List.getElem_cons_zero, List.getElem_cons_succ, Act.put, List.setIfInBounds_toArray, List.set_cons_zero, List.set_cons_succ]
      refine wpAnyK_take (i := 8) (v := .pointer (some ⟨b, 0, none⟩)) rfl (by kernel_rfl) (by kernel_rfl) (by kernel_rfl) (by kernel_rfl) (fun _ _ _ h => h) (Or.inl ⟨by rfl, fun w hSw => by go_simp⟩) hHeld ?_
      simp only [List.getElem_toArray, List.getElem_cons_zero, List.getElem_cons_succ, Act.put, List.setIfInBounds_toArray, List.set_cons_zero, List.set_cons_succ]
      refine wpAnyK_take (i := 9) (v := .pointer (some ⟨b, 0, none⟩)) rfl (by kernel_rfl) (by kernel_rfl) (by kernel_rfl) (by kernel_rfl) (fun _ _ _ h => h) (Or.inl ⟨by rfl, fun w hSw => by go_simp⟩) hHeld ?_
      simp only [List.getElem_toArray, List.getElem_cons_zero, List.getElem_cons_succ, Act.put, List.setIfInBounds_toArray, List.set_cons_zero, List.set_cons_succ]
      refine wpAnyK_take (i := 10) (v := .pointer (some ⟨b, 0, none⟩)) rfl (by kernel_rfl) (by kernel_rfl) (by kernel_rfl) (by kernel_rfl) (fun _ _ _ h => h) (Or.inl ⟨by rfl, fun w hSw => by go_simp⟩) hHeld ?_
      simp only [List.getElem_toArray, List.getElem_cons_zero, List.getElem_cons_succ, Act.put, List.setIfInBounds_toArray, List.set_cons_zero, List.set_cons_succ]
      refine wpAnyK_take (i := 11) (v := .int .i64 (PG : Int)) rfl (by kernel_rfl) (by kernel_rfl) (by kernel_rfl) (by kernel_rfl) (fun _ _ _ h => h) (Or.inl ⟨by rfl, fun w hSw => by go_simp⟩) hHeld ?_
      simp only [List.getElem_toArray, List.getElem_cons_zero, List.getElem_cons_succ, Act.put, List.setIfInBounds_toArray, List.set_cons_zero, List.set_cons_succ]
      refine wpAnyK_take (i := 12) (v := .int .i64 (Y : Int)) rfl (by kernel_rfl) (by kernel_rfl) (by kernel_rfl) (by kernel_rfl) (fun _ _ _ h => h) (Or.inl ⟨by rfl, fun w hSw => by go_simp⟩) hHeld ?_
      simp only [List.getElem_toArray, List.getElem_cons_zero, List.getElem_cons_succ, Act.put, List.setIfInBounds_toArray, List.set_cons_zero, List.set_cons_succ]
      refine wpAnyK_take (i := 13) (v := .pointer (some ⟨gx, Y * 3, none⟩)) rfl (by kernel_rfl) (by kernel_rfl) (by kernel_rfl) (by kernel_rfl) (fun _ _ _ h => h) (Or.inl ⟨by rfl, fun w hSw => by go_simp⟩) hHeld ?_
      simp only [List.getElem_toArray, List.getElem_cons_zero, List.getElem_cons_succ, Act.put, List.setIfInBounds_toArray, List.set_cons_zero, List.set_cons_succ]
      refine wpAnyK_take (i := 14) (v := .pointer (some ⟨gx, Y * 3, none⟩)) rfl (by kernel_rfl) (by kernel_rfl) (by kernel_rfl) (by kernel_rfl) (fun _ _ _ h => h) (Or.inl ⟨by rfl, fun w hSw => by go_simp⟩) hHeld ?_
      simp only [List.getElem_toArray, List.getElem_cons_zero, List.getElem_cons_succ, Act.put, List.setIfInBounds_toArray, List.set_cons_zero, List.set_cons_succ]
      refine wpAnyK_take (i := 15) (v := .slice (some ⟨dk, doff, none⟩) PG dc) rfl (by kernel_rfl) (by kernel_rfl) (by kernel_rfl) (by kernel_rfl) (fun _ _ _ h => h) (Or.inl ⟨by rfl, fun w hSw => by go_simp⟩) hHeld ?_
      simp only [List.getElem_toArray, List.getElem_cons_zero, List.getElem_cons_succ, Act.put, List.setIfInBounds_toArray, List.set_cons_zero, List.set_cons_succ]
      refine wpAnyK_take (i := 16) (v := .int .i64 (j : Int)) rfl (by kernel_rfl) (by kernel_rfl) (by kernel_rfl) (by kernel_rfl) (fun _ _ _ h => h) (Or.inl ⟨by rfl, fun w hSw => by go_simp⟩) hHeld ?_
      simp only [List.getElem_toArray, List.getElem_cons_zero, List.getElem_cons_succ, Act.put, List.setIfInBounds_toArray, List.set_cons_zero, List.set_cons_succ]
      refine wpAnyK_take (i := 17) (v := .pointer (some ⟨b, 0, none⟩)) rfl (by kernel_rfl) (by kernel_rfl) (by kernel_rfl) (by kernel_rfl) (fun _ _ _ h => h) (Or.inl ⟨by rfl, fun w hSw => by go_simp⟩) hHeld ?_
      simp only [List.getElem_toArray, List.getElem_cons_zero, List.getElem_cons_succ, Act.put, List.setIfInBounds_toArray, List.set_cons_zero, List.set_cons_succ]
      refine wpAnyK_take (i := 18) (v := .pointer (some ⟨b, 0, none⟩)) rfl (by kernel_rfl) (by kernel_rfl) (by kernel_rfl) (by kernel_rfl) (fun _ _ _ h => h) (Or.inl ⟨by rfl, fun w hSw => by go_simp⟩) hHeld ?_
      simp only [List.getElem_toArray, List.getElem_cons_zero, List.getElem_cons_succ, Act.put, List.setIfInBounds_toArray, List.set_cons_zero, List.set_cons_succ]
      refine wpAnyK_take (i := 19) (v := .pointer (some ⟨b, 0, none⟩)) rfl (by kernel_rfl) (by kernel_rfl) (by kernel_rfl) (by kernel_rfl) (fun _ _ _ h => h) (Or.inl ⟨by rfl, fun w hSw => by go_simp⟩) hHeld ?_
      simp only [List.getElem_toArray, List.getElem_cons_zero, List.getElem_cons_succ, Act.put, List.setIfInBounds_toArray, List.set_cons_zero, List.set_cons_succ]
      refine wpAnyK_take (i := 20) (v := .int .i64 (PG : Int)) rfl (by kernel_rfl) (by kernel_rfl) (by kernel_rfl) (by kernel_rfl) (fun _ _ _ h => h) (Or.inl ⟨by rfl, fun w hSw => by go_simp⟩) hHeld ?_
      simp only [List.getElem_toArray, List.getElem_cons_zero, List.getElem_cons_succ, Act.put, List.setIfInBounds_toArray, List.set_cons_zero, List.set_cons_succ]
      refine wpAnyK_take (i := 21) (v := .int .i64 (R : Int)) rfl (by kernel_rfl) (by kernel_rfl) (by kernel_rfl) (by kernel_rfl) (fun _ _ _ h => h) (Or.inl ⟨by rfl, fun w hSw => by go_simp⟩) hHeld ?_
      simp only [List.getElem_toArray, List.getElem_cons_zero, List.getElem_cons_succ, Act.put, List.setIfInBounds_toArray, List.set_cons_zero, List.set_cons_succ]
      refine wpAnyK_take (i := 22) (v := .pointer (some ⟨dk, doff + R, none⟩)) rfl (by kernel_rfl) (by kernel_rfl) (by kernel_rfl) (by kernel_rfl) (fun _ _ _ h => h) (Or.inl ⟨by rfl, fun w hSw => by go_simp⟩) hHeld ?_
      simp only [List.getElem_toArray, List.getElem_cons_zero, List.getElem_cons_succ, Act.put, List.setIfInBounds_toArray, List.set_cons_zero, List.set_cons_succ]
      refine wpAnyK_take (i := 23) (v := .int .u8 z) rfl (by kernel_rfl) (by kernel_rfl) (by kernel_rfl) (by kernel_rfl) (fun _ _ _ h => h) (Or.inl ⟨by rfl, fun w hSw => by go_simp⟩) hHeld ?_
      simp only [List.getElem_toArray, List.getElem_cons_zero, List.getElem_cons_succ, Act.put, List.setIfInBounds_toArray, List.set_cons_zero, List.set_cons_succ]
      refine wpAnyK_one (i := 24) (by kernel_rfl) rfl (fun K hK => ?_)
      (try simp only [List.getElem_toArray, List.getElem_cons_zero, List.getElem_cons_succ, Act.put, List.setIfInBounds_toArray, List.set_cons_zero, List.set_cons_succ])
      go_simp
      rw [HV1.out.1, HV1.out.2.1]
      refine hK.out _ _ (fun _ => HKC.out v1 HV1.out.2.2) (fun hHeld0 => ?_)
      have hHeld := hHeld0 (by decide)
      clear hHeld0 hK K
      (try simp only [List.getElem_toArray, List.getElem_cons_zero, List.getElem_cons_succ, Act.put, List.setIfInBounds_toArray, List.set_cons_zero, List.set_cons_succ])
      refine wpAnyK_one (i := 25) (by kernel_rfl) rfl (fun K hK => ?_)
      simp only [List.getElem_toArray, List.getElem_cons_zero, List.getElem_cons_succ]
      rw [if_pos (by rfl)]
      refine operwp_app22 _ _ _ rfl rfl rfl HR2.out ?_
      refine hK.out _ _ (fun _ => HKC.out v2 HO2.out.2) (fun hHeld0 => ?_)
      have hHeld := hHeld0 (by decide)
      clear hHeld0 hK K
      simp only [Act.put, List.setIfInBounds_toArray, List.set_cons_zero, List.set_cons_succ]
      refine wpAnyK_one (i := 26) (by kernel_rfl) rfl (fun K hK => ?_)
      (try simp only [List.getElem_toArray, List.getElem_cons_zero, List.getElem_cons_succ, Act.put, List.setIfInBounds_toArray, List.set_cons_zero, List.set_cons_succ])
      go_simp
      refine hK.out _ _ (fun _ => hHeld) (fun _ => ?_)
      clear hK K hHeld
      refine wpAnyK_done (by kernel_rfl) ?_ _
      go_wp2_with fail
      go_roundw
      case rel => exact ⟨i + 1, vx, by omega, rfl, rfl, HO2.out.1, HO2.out.2⟩
      case measure => have hjj := HJ.out.1; simp [intOf]; omega
    · obtain rfl : i = n := by omega
      have hii : ¬ ((a + i : Nat) : Int) < ((a + i : Nat) : Int) := by omega
      obtain ⟨ra, rc, hv, _⟩ : ∃ ra rc, v = .slice ra i rc ∧ True := by
        rcases hown.2 with ⟨e1, e2⟩ | ⟨g', cp, cu, e1, _⟩
        · exact ⟨none, 0, by rw [e1, e2], trivial⟩
        · exact ⟨_, _, e1, trivial⟩
      subst hv
      have HF : Hid (wr.ownsRow w.heap.size 5 1 (.slice ra i rc) i ((rb21 S (x : Int) a i).map (Value.int .u8)) ∧ Below w.heap.size w wr) := ⟨hown, hB⟩
      clear hown hB hi0 hz0 hz1 hz2
      go_wp2_with fail
      go_ret2
      exact HFN.out ra rc _ HF.out.1 HF.out.2
end Go.Proofs.YtmjlpfmacblcpaaDoor

namespace Go.Proofs.YtmjlpfmacblcpaaDoor
open Go.RowKit Go.Shelf
set_option linter.unusedVariables false
set_option linter.unusedSimpArgs false
set_option maxRecDepth 100000 in
set_option maxHeartbeats 4000000 in
theorem rnewn21 {w : World} (p q ac : Int) (hp : In21 p) (hq : In21 q) (a0 a1 : Option Addr) (n0 n1 k0 k1 : Nat) (h : nwE21 p q ac n0 n1 = 210) :
    Calls Tryd.prog 18 #[.int .i64 p, .int .i64 q, .int .i64 ac, .agg #[.slice a0 n0 k0, .slice a1 n1 k1]] w fun e w' => e = .returned (.tuple #[.pointer none, .int .i64 210]) ∧ Below w.heap.size w w' := by
  have q1 := heap_alloc_new w (.cells #[.slice a0 n0 k0, .slice a1 n1 k1] 46)
  have y0 := two_cell0 q1
  have y1 := two_cell1 q1
  have HB : Hid (Below w.heap.size w (w.alloc (.cells #[.slice a0 n0 k0, .slice a1 n1 k1] 46))) := (Below.refl _ _).alloc (Nat.le_refl _) _
  clear q1
  by_cases c1 : p < 64
  · clear h
    go_enter Tryd.func18, Tryd.ntmps18
    go_wp2_with fail
    go_ret2
    exact ⟨rfl, HB.out⟩
  · skip
    by_cases c2 : 4096 < p
    · clear h
      go_enter Tryd.func18, Tryd.ntmps18
      go_wp2_with fail
      go_ret2
      exact ⟨rfl, HB.out⟩
    · skip
      by_cases c3 : q < 1
      · clear h
        go_enter Tryd.func18, Tryd.ntmps18
        go_wp2_with fail
        go_ret2
        exact ⟨rfl, HB.out⟩
      · skip
        by_cases c4 : 4096 < q
        · clear h
          go_enter Tryd.func18, Tryd.ntmps18
          go_wp2_with fail
          go_ret2
          exact ⟨rfl, HB.out⟩
        · skip
          by_cases c5 : ac < 0
          · clear h
            go_enter Tryd.func18, Tryd.ntmps18
            go_wp2_with fail
            go_ret2
            exact ⟨rfl, HB.out⟩
          · skip
            by_cases c6 : 1 < ac
            · clear h
              go_enter Tryd.func18, Tryd.ntmps18
              go_wp2_with fail
              go_ret2
              exact ⟨rfl, HB.out⟩
            · skip
              obtain ⟨P, rfl⟩ : ∃ P : Nat, p = (P : Int) := ⟨p.toNat, by omega⟩
              obtain ⟨Q, rfl⟩ : ∃ Q : Nat, q = (Q : Int) := ⟨q.toNat, by omega⟩
              obtain ⟨PQ, hPQ⟩ : ∃ PQ, PQ = P * Q := ⟨_, rfl⟩
              have hpq : PQ ≤ 16777216 := by rw [hPQ]; exact Nat.mul_le_mul (show P ≤ 4096 by omega) (show Q ≤ 4096 by omega)
              have e : (P : Int) * (Q : Int) = (PQ : Int) := by rw [hPQ]; exact (Int.natCast_mul _ _).symm
              have hmul : IntKind.i64.wrap ((P : Int) * (Q : Int)) = (PQ : Int) := by rw [e, IntWalk.i64_in _ (by omega)]
              have hmb : mb21 (P : Int) (Q : Int) = true := by unfold mb21; simp; omega
              have hc : (PQ : Int) < (n0 : Int) ∨ (PQ : Int) < (n1 : Int) := by
                unfold nwE21 at h
                rw [if_neg (by rw [hmb]; simp; omega), e] at h
                by_cases z : (PQ : Int) < (n0 : Int) ∨ (PQ : Int) < (n1 : Int)
                · exact z
                · rw [if_neg z] at h; cases h
              clear h e hPQ hpq hmb
              by_cases c7 : (PQ : Int) < (n0 : Int)
              · clear hc
                go_enter Tryd.func18, Tryd.ntmps18
                go_wp2_with fail
                go_ret2
                exact ⟨rfl, HB.out⟩
              · have c8 : (PQ : Int) < (n1 : Int) := by omega
                clear hc
                go_enter Tryd.func18, Tryd.ntmps18
                go_wp2_with fail
                go_ret2
                exact ⟨rfl, HB.out⟩
end Go.Proofs.YtmjlpfmacblcpaaDoor

namespace Go.Proofs.YtmjlpfmacblcpaaDoor
open Go.RowKit
set_option linter.unusedVariables false
theorem own_less {w : World} {base n g cap : Nat} {e : TypeId} {xs : List Value} {y : Value} (h : w.ownsRow base e 1 (.slice (some ⟨g, 0, none⟩) (n + 1) cap) (n + 1) (xs ++ [y])) : w.ownsRow base e 1 (.slice (some ⟨g, 0, none⟩) n cap) n xs := by
  have hl : xs.length = n := by have := h.1; simp at this; omega
  refine ⟨by omega, ?_⟩
  rcases h.2 with ⟨h0, _⟩ | ⟨g', cap', cur, hv, hb, hg, hc, hm, hs, ht⟩
  · cases h0
  · simp only [Value.slice.injEq, Option.some.injEq, Addr.mk.injEq, and_true, true_and] at hv
    obtain ⟨rfl, rfl⟩ := hv
    refine .inr ⟨g, cap, cur, rfl, hb, hg, by omega, hm, hs, ?_⟩
    have h2 := congrArg (List.take n) ht
    rw [List.take_take, List.take_append_of_le_length (by omega), List.take_of_length_le (by omega : xs.length ≤ n)] at h2
    rw [Nat.mul_one] at h2 ⊢
    rw [Nat.min_eq_left (by omega)] at h2
    exact h2

theorem own_take {w : World} {base m l g cap : Nat} {e : TypeId} {xs : List Value} (h : w.ownsRow base e 1 (.slice (some ⟨g, 0, none⟩) m cap) m xs) (hl : l ≤ m) : w.ownsRow base e 1 (.slice (some ⟨g, 0, none⟩) l cap) l (xs.take l) := by
  have hx : xs.length = m := by have := h.1; simp at this; omega
  refine ⟨by simp; omega, ?_⟩
  rcases h.2 with ⟨h0, _⟩ | ⟨g', cap', cur, hv, hb, hg, hc, hm, hs, ht⟩
  · cases h0
  · simp only [Value.slice.injEq, Option.some.injEq, Addr.mk.injEq, and_true, true_and] at hv
    obtain ⟨rfl, rfl⟩ := hv
    refine .inr ⟨g, cap, cur, rfl, hb, hg, by omega, hm, hs, ?_⟩
    rw [← ht, List.take_take, Nat.mul_one, Nat.mul_one, Nat.min_eq_left hl]

/-- An append of one cell onto a row of the call's own: the row itself stays; the new one is at its place, or in a new block. -/
theorem run_push_st {P : Program} (t ty : TypeId) (base : Nat) (e : TypeId) (i : TypeInfo) (z : Value) (bytes : Nat) (ht : P.underlying t = some (.slice e)) (hi : P.info? e = some i) (hz : i.zero = some z)
    (hsize : i.size = 1) (hby : i.bytes = bytes) (hzs : z.cells.size = 1)
    (w0 : World) (y : Value) (hy : y.oneCell' = true) {v : Value} {n : Nat} {xs : List Value} (hown : w0.ownsRow base e 1 v n xs)
    (h63 : n + 1 ≤ 140737488355328) (hbytes : (n + 1) * bytes ≤ 140737488355328) (hbase : base ≤ w0.heap.size) :
    ∃ v' w', (Builtin.append_ #[t, t] ty #[v, .slice (some ⟨w0.heap.size, 0, none⟩) 1 1]).run P (w0.alloc (.cells #[y] e)) = .ok v' w' ∧ w'.ownsRow base e 1 v' (n + 1) (xs ++ [y]) ∧ w0.grownBy w' v.ownBlock ∧
      w'.ownsRow base e 1 v n xs ∧ ((∃ g c, v = .slice (some ⟨g, 0, none⟩) n c ∧ v' = .slice (some ⟨g, 0, none⟩) (n + 1) c) ∨ ∃ g, v'.ownBlock = some g ∧ w0.heap.size ≤ g) := by
  have hown1 := hown.alloc (.cells #[y] e)
  have hcell := cell_one_new w0 y e
  have h1c : ∀ u ∈ [y], u.oneCell' = true := by intro u hu; simp at hu; subst hu; exact hy
  obtain ⟨v', w', hr, h1, h2, _⟩ := run_append_own (P := P) (w0.alloc (.cells #[y] e)) base t ty e i z 1 bytes ht hi hz hsize hby hzs (by decide) v n xs hown1 ⟨w0.heap.size, 0, none⟩ 1 1 [y] rfl hcell h1c (by unfold maxLen; omega) hbytes (by simp; omega)
  refine ⟨v', w', hr, h1, grownBy_trans (World.grownBy_alloc w0 _ _) h2, ?_⟩
  subst hby
  rcases hown.2 with ⟨rfl, rfl⟩ | ⟨g, cap, cur, rfl, hbg, hg, hnc, hcm, hcs, htake⟩
  · have hx : xs = [] := List.eq_nil_of_length_eq_zero (by simpa using hown.1)
    subst hx
    have hr2 := run_append_nil (P := P) (w0.alloc (.cells #[y] e)) t ty e i z ht hi hz ⟨w0.heap.size, 0, none⟩ 1 1 [y] (by rw [hsize]; rfl) hcell (by decide) (by decide) (by simp only [Nat.zero_add] at hbytes; omega)
    rw [hr] at hr2
    simp only [Result.ok.injEq] at hr2
    obtain ⟨rfl, rfl⟩ := hr2
    exact ⟨World.ownsRow_nil _ _ _ _, .inr ⟨_, rfl, by simp⟩⟩
  · by_cases hroom : n + 1 ≤ cap
    · have hg1 : (w0.alloc (.cells #[y] e)).heap[g]? = some (.cells cur e (0, 0)) := by
        rw [Below.heap_alloc _ _ _ (Array.getElem?_eq_some_iff.1 hg).1]; exact hg
      have hr2 := run_append_room (P := P) (w0.alloc (.cells #[y] e)) t ty e i ht hi g n cap cur hg1 ⟨w0.heap.size, 0, none⟩ 1 1 [y] (by rw [hsize]; rfl) hcell h1c hroom (by rw [hsize]; simp; omega)
      rw [hr] at hr2
      simp only [Result.ok.injEq] at hr2
      obtain ⟨rfl, rfl⟩ := hr2
      exact ⟨own_less h1, .inl ⟨g, cap, rfl, rfl⟩⟩
    · have hr2 := run_append_grow (P := P) (w0.alloc (.cells #[y] e)) t ty e i z ht hi hz ⟨g, 0, none⟩ n cap xs (by rw [hsize]; exact hown.1) (hown1.cells (g := g) rfl) ⟨w0.heap.size, 0, none⟩ 1 1 [y] (by rw [hsize]; rfl) hcell (by omega) (by omega) (growslice_fits (by omega) hbytes)
      rw [hr] at hr2
      simp only [Result.ok.injEq] at hr2
      obtain ⟨rfl, rfl⟩ := hr2
      refine ⟨?_, .inr ⟨_, rfl, by simp⟩⟩
      exact World.ownsRow.alloc (w := (w0.alloc (.cells #[y] e)).drew) hown1 _

theorem wpList_push_st {P : Program} {ops : Array Oper} {rest : List Oper} {o : Oper} {a : Act} {Q : Exit → Act → World → Prop} (hgd : o.guard = none) (s x : Operand) (t : TypeId)
    (ho : o.op = .call { callee := .builtin .append, args := #[s, x], argTypes := #[t, t] })
    (base : Nat) (e : TypeId) (i : TypeInfo) (z : Value) (bytes : Nat) (ht : P.underlying t = some (.slice e)) (hi : P.info? e = some i) (hz : i.zero = some z)
    (hsize : i.size = 1) (hby : i.bytes = bytes) (hzs : z.cells.size = 1)
    (w0 : World) (y : Value) (hy : y.oneCell' = true) {v : Value} {n : Nat} {xs : List Value} (hown : w0.ownsRow base e 1 v n xs) (hs : a.eval s = v) (hx : a.eval x = .slice (some ⟨w0.heap.size, 0, none⟩) 1 1)
    (h63 : n + 1 ≤ 140737488355328) (hbytes : (n + 1) * bytes ≤ 140737488355328) (hbase : base ≤ w0.heap.size)
    (h : ∀ (g c : Nat) (w' : World), w'.ownsRow base e 1 (.slice (some ⟨g, 0, none⟩) (n + 1) c) (n + 1) (xs ++ [y]) → w0.grownBy w' v.ownBlock → w'.ownsRow base e 1 v n xs → (v = .slice (some ⟨g, 0, none⟩) n c ∨ w0.heap.size ≤ g) → wpList P ops Q rest (a.put o.dst (.slice (some ⟨g, 0, none⟩) (n + 1) c)) w') : wpList P ops Q (o :: rest) a (w0.alloc (.cells #[y] e)) := by
  obtain ⟨v', w', hr, h2, h3, h4, h5⟩ := run_push_st (P := P) t o.type base e i z bytes ht hi hz hsize hby hzs w0 y hy hown h63 hbytes hbase
  obtain ⟨g, c, rfl, _⟩ := own_shape h2 (by omega)
  refine wpList_plain hgd fun K hK => ?_
  unfold Oper.wp execOp
  simp only [ho, resolve, invoke, builtin, Sem.run_bind, Sem.run_pure, Result.andThen_ok, List.map_toArray, List.map_cons, List.map_nil, hs, hx, hr]
  refine hK _ _ (h g c w' h2 h3 h4 ?_)
  rcases h5 with ⟨g', c', e1, e2⟩ | ⟨g', e1, e2⟩
  · cases e2; exact .inl e1
  · cases e1; exact .inr e2
end Go.Proofs.YtmjlpfmacblcpaaDoor

namespace Go.Proofs.YtmjlpfmacblcpaaDoor
open Go.RowKit
set_option linter.unusedVariables false
/-- A block of slices: its slots. -/
def Slots (sT : TypeId) (w : World) (B n : Nat) (f : Nat → Value) : Prop := ∃ cs, w.heap[B]? = some (.cells cs sT (0, 0)) ∧ cs.size = n ∧ ∀ i, i < n → cs[i]? = some (f i)
def updO {α : Type} (f : Nat → α) (i : Nat) (x : α) : Nat → α := fun j => if j = i then x else f j
theorem upd_at {α : Type} (f : Nat → α) (i : Nat) (x : α) : updO f i x i = x := by simp [updO]
theorem upd_ne {α : Type} (f : Nat → α) (i j : Nat) (x : α) (h : j ≠ i) : updO f i x j = f j := by simp [updO, h]
theorem upd_upd {α : Type} (f : Nat → α) (i : Nat) (x y : α) : updO (updO f i x) i y = updO f i y := by funext j; simp only [updO]; split <;> rfl
theorem upd_same {α : Type} (f : Nat → α) (i : Nat) : updO f i (f i) = f := by funext j; simp only [updO]; split <;> simp_all

theorem Slots.cell {sT : TypeId} {w : World} {B n : Nat} {f : Nat → Value} (h : Slots sT w B n f) (i : Nat) (hi : i < n) : w.cell? ⟨B, i, none⟩ = some (f i) := by
  obtain ⟨cs, hh, hs, hc⟩ := h
  rw [cell_of_row w B i cs sT (0, 0) hh]
  exact hc i hi
theorem Slots.free {sT : TypeId} {w : World} {B n : Nat} {f : Nat → Value} (h : Slots sT w B n f) (i : Nat) : w.frozen? ⟨B, i, none⟩ = false := by
  obtain ⟨cs, hh, hs, hc⟩ := h
  simp [World.frozen?, hh]
theorem Slots.lt {sT : TypeId} {w : World} {B n : Nat} {f : Nat → Value} (h : Slots sT w B n f) : B < w.heap.size := by
  obtain ⟨cs, hh, hs, hc⟩ := h
  exact (Array.getElem?_eq_some_iff.1 hh).1
theorem Slots.kept {sT : TypeId} {w w' : World} {B n : Nat} {f : Nat → Value} (h : Slots sT w B n f) (he : w'.heap[B]? = w.heap[B]?) : Slots sT w' B n f := by
  obtain ⟨cs, hh, hs, hc⟩ := h
  exact ⟨cs, by rw [he]; exact hh, hs, hc⟩
theorem Slots.grown {sT : TypeId} {w w' : World} {B n : Nat} {f : Nat → Value} {row : Option Nat} (h : Slots sT w B n f) (hg : w.grownBy w' row) (hne : some B ≠ row) : Slots sT w' B n f :=
  h.kept (hg.block B h.lt hne)
theorem Slots.set {sT : TypeId} {w : World} {B n : Nat} {f : Nat → Value} (h : Slots sT w B n f) (i : Nat) (hi : i < n) (x : Value) : Slots sT (w.setCell ⟨B, i, none⟩ x) B n (updO f i x) := by
  obtain ⟨cs, hh, hs, hc⟩ := h
  refine ⟨cs.setIfInBounds i x, by simp [World.setCell, Array.getElem?_modify, hh], by simp [hs], fun j hj => ?_⟩
  by_cases e : j = i
  · subst e; rw [upd_at, Array.getElem?_setIfInBounds_self_of_lt (by omega)]
  · rw [upd_ne _ _ _ _ e, Array.getElem?_setIfInBounds_ne (by omega)]; exact hc j hj

abbrev Row (eT : TypeId) (w : World) (base : Nat) (v : Value) (ys : List Int) : Prop := w.ownsRow base eT 1 v ys.length (ys.map (Value.int .u8))
def Ap (a b : Option Nat) : Prop := ∀ k, a = some k → b ≠ some k
theorem Ap.symm {a b : Option Nat} (h : Ap a b) : Ap b a := fun k h1 h2 => h k h2 h1
theorem Ap.none (b : Option Nat) : Ap none b := fun k h => by cases h
theorem Ap.or {a b : Option Nat} (h : Ap a b) : a = .none ∨ a ≠ b := by
  cases a with
  | none => exact .inl rfl
  | some k => exact .inr fun e => h k rfl e.symm

structure OS (eT sT : TypeId) (w : World) (base bl G n : Nat) (vs gs : Nat → Value) (ys zs : Nat → List Int) : Prop where
  rv : ∀ i, i < n → Row eT w base (vs i) (ys i)
  rg : ∀ i, i < n → Row eT w base (gs i) (zs i)
  vv : ∀ i j, i < n → j < n → i ≠ j → Ap (vs i).ownBlock (vs j).ownBlock
  gv : ∀ i j, i < n → j < n → i ≠ j → Ap (gs i).ownBlock (vs j).ownBlock
  gg : ∀ i j, i < n → j < n → i ≠ j → Ap (gs i).ownBlock (gs j).ownBlock
  sl : Slots sT w bl n vs
  sg : Slots sT w G n gs
  nv : ∀ i k, i < n → (vs i).ownBlock = some k → k ≠ bl ∧ k ≠ G
  ng : ∀ i k, i < n → (gs i).ownBlock = some k → k ≠ bl ∧ k ≠ G
  ne : bl ≠ G
  bG : base ≤ G
  bs : base ≤ w.heap.size

variable {eT sT : TypeId} {w : World} {base bl G n : Nat} {vs gs : Nat → Value} {ys zs : Nat → List Int}
/-- A byte of a list is written. -/
theorem OS.mark (h : OS eT sT w base bl G n vs gs ys zs) (i k g cap m : Nat) (x : Int) (hi : i < n) (hv : vs i = .slice (some ⟨g, 0, none⟩) m cap) (hk : k < m) (hg0 : ∀ j, j < n → (gs j).ownBlock = none) :
    OS eT sT (w.setCell ⟨g, k, none⟩ (.int .u8 x)) base bl G n vs gs (updO ys i ((ys i).set k x)) zs ∧ Below base w (w.setCell ⟨g, k, none⟩ (.int .u8 x)) := by
  have hr := h.rv i hi
  have hm : m = (ys i).length := by
    rcases hr.2 with ⟨h0, _⟩ | ⟨g', c', cur, h0, _⟩
    · rw [hv] at h0; cases h0
    · rw [hv] at h0; cases h0; rfl
  subst hm
  have hr' := hr
  unfold Row at hr'
  rw [hv] at hr'
  have hst := hr'.stored k (.int .u8 x)
  have hbg : base ≤ g := (hr'.lt g rfl).1
  have hob : (vs i).ownBlock = some g := by rw [hv]; rfl
  have hnn := h.nv i g hi hob
  refine ⟨⟨?_, ?_, h.vv, h.gv, h.gg, h.sl.grown hst.2 (by intro e; cases e; exact hnn.1 rfl), h.sg.grown hst.2 (by intro e; cases e; exact hnn.2 rfl), h.nv, h.ng, h.ne, h.bG, ?_⟩, ?_⟩
  · intro j hj
    by_cases e : j = i
    · subst e
      rw [upd_at, hv]
      have := hst.1
      rw [← List.map_set] at this
      show World.ownsRow _ _ _ _ _ _ _
      simpa using this
    · rw [upd_ne _ _ _ _ e]
      refine (h.rv j hj).kept hst.2 ?_
      have := (h.vv j i hj hi e).or
      rw [hob] at this
      exact this
  · intro j hj
    exact (h.rg j hj).kept hst.2 (.inl (hg0 j hj))
  · simpa [World.setCell] using h.bs
  · exact (Below.refl _ _).grown hst.2 h.bs (by intro j e; cases e; exact hbg)

/-- A grown list begins as the list itself. -/
theorem OS.start (h : OS eT sT w base bl G n vs gs ys zs) (i : Nat) (hi : i < n) :
    OS eT sT (w.setCell ⟨G, i, none⟩ (vs i)) base bl G n vs (updO gs i (vs i)) ys (updO zs i (ys i)) ∧ Below base w (w.setCell ⟨G, i, none⟩ (vs i)) := by
  have hgr : w.grownBy (w.setCell ⟨G, i, none⟩ (vs i)) (some G) := grownBy_set (World.grownBy.refl _ _) _
  have keepv : ∀ j, j < n → (vs j).ownBlock = none ∨ (vs j).ownBlock ≠ some G := by
    intro j hj
    cases e : (vs j).ownBlock with
    | none => exact .inl rfl
    | some k => exact .inr fun e2 => by cases e2; exact (h.nv j G hj e).2 rfl
  have keepg : ∀ j, j < n → (gs j).ownBlock = none ∨ (gs j).ownBlock ≠ some G := by
    intro j hj
    cases e : (gs j).ownBlock with
    | none => exact .inl rfl
    | some k => exact .inr fun e2 => by cases e2; exact (h.ng j G hj e).2 rfl
  refine ⟨⟨fun j hj => (h.rv j hj).kept hgr (keepv j hj), ?_, h.vv, ?_, ?_, h.sl.grown hgr (by intro e; cases e; exact h.ne rfl), h.sg.set i hi _, h.nv, ?_, h.ne, h.bG, by simpa [World.setCell] using h.bs⟩, ?_⟩
  · intro j hj
    by_cases e : j = i
    · subst e; rw [upd_at, upd_at]; exact (h.rv j hj).kept hgr (keepv j hj)
    · rw [upd_ne _ _ _ _ e, upd_ne _ _ _ _ e]; exact (h.rg j hj).kept hgr (keepg j hj)
  · intro j l hj hl hne
    by_cases e : j = i
    · subst e; rw [upd_at]; exact h.vv j l hj hl hne
    · rw [upd_ne _ _ _ _ e]; exact h.gv j l hj hl hne
  · intro j l hj hl hne
    by_cases e : j = i
    · subst e; rw [upd_at, upd_ne _ _ _ _ (Ne.symm hne)]; exact (h.gv l j hl hj (Ne.symm hne)).symm
    · rw [upd_ne _ _ _ _ e]
      by_cases e2 : l = i
      · subst e2; rw [upd_at]; exact h.gv j l hj hl hne
      · rw [upd_ne _ _ _ _ e2]; exact h.gg j l hj hl hne
  · intro j k hj
    by_cases e : j = i
    · subst e; rw [upd_at]; exact h.nv j k hj
    · rw [upd_ne _ _ _ _ e]; exact h.ng j k hj
  · exact (Below.refl _ _).grown hgr h.bs (by intro j e; cases e; exact h.bG)

/-- The grown list lies elsewhere, or it goes on behind the list. -/
def Shares (v g : Value) (y z : List Int) : Prop := Ap g.ownBlock v.ownBlock ∨ ∃ b l m c, v = .slice (some ⟨b, 0, none⟩) l c ∧ g = .slice (some ⟨b, 0, none⟩) m c ∧ l ≤ m ∧ y = z.take l
theorem Shares.self {w : World} {base : Nat} {v : Value} {y : List Int} (h : Row eT w base v y) : Shares v v y y := by
  rcases h.2 with ⟨rfl, _⟩ | ⟨g, cap, cur, rfl, _⟩
  · exact .inl (Ap.none _)
  · exact .inr ⟨g, _, _, cap, rfl, rfl, Nat.le_refl _, by simp⟩
theorem Shares.row {w : World} {base : Nat} {v g : Value} {y z : List Int} (h : Shares v g y z) (hg : Row eT w base g z) (hv : Ap g.ownBlock v.ownBlock → Row eT w base v y) : Row eT w base v y := by
  rcases h with h | ⟨b, l, m, c, rfl, rfl, hl, rfl⟩
  · exact hv h
  · have hm : m = z.length := by
      rcases hg.2 with ⟨h0, _⟩ | ⟨g', c', cur, h0, _⟩
      · cases h0
      · cases h0; rfl
    subst hm
    have := own_take hg hl
    rw [← List.map_take] at this
    show World.ownsRow _ _ _ _ _ _ _
    rw [show (z.take l).length = l by simp; omega]
    exact this

/-- A grown list grows by a byte. -/
theorem OS.push (h : OS eT sT w base bl G n vs gs ys zs) (i : Nat) (hi : i < n) (x : Int) (g c : Nat) (w' : World) (hsh : Shares (vs i) (gs i) (ys i) (zs i))
    (h1 : w'.ownsRow base eT 1 (.slice (some ⟨g, 0, none⟩) ((zs i).length + 1) c) ((zs i).length + 1) ((zs i).map (Value.int .u8) ++ [.int .u8 x])) (h2 : w.grownBy w' (gs i).ownBlock) (h3 : Row eT w' base (gs i) (zs i))
    (h5 : gs i = .slice (some ⟨g, 0, none⟩) (zs i).length c ∨ w.heap.size ≤ g) :
    OS eT sT (w'.setCell ⟨G, i, none⟩ (.slice (some ⟨g, 0, none⟩) ((zs i).length + 1) c)) base bl G n vs (updO gs i (.slice (some ⟨g, 0, none⟩) ((zs i).length + 1) c)) ys (updO zs i (zs i ++ [x])) ∧
      Below base w (w'.setCell ⟨G, i, none⟩ (.slice (some ⟨g, 0, none⟩) ((zs i).length + 1) c)) ∧ Shares (vs i) (.slice (some ⟨g, 0, none⟩) ((zs i).length + 1) c) (ys i) (zs i ++ [x]) := by
  obtain ⟨v', hv'⟩ : ∃ v', v' = Value.slice (some ⟨g, 0, none⟩) ((zs i).length + 1) c := ⟨_, rfl⟩
  rw [← hv'] at h1 ⊢
  have h4 : (∃ g c, gs i = .slice (some ⟨g, 0, none⟩) (zs i).length c ∧ v' = .slice (some ⟨g, 0, none⟩) ((zs i).length + 1) c) ∨ ∃ g, v'.ownBlock = some g ∧ w.heap.size ≤ g := by
    rcases h5 with e | e
    · exact .inl ⟨g, c, e, hv'⟩
    · exact .inr ⟨g, by rw [hv']; rfl, e⟩
  clear h5
  have hnew : ∀ k, v'.ownBlock = some k → (gs i).ownBlock = some k ∨ w.heap.size ≤ k := by
    intro k hk
    rcases h4 with ⟨g, c, e1, e2⟩ | ⟨g, e1, e2⟩
    · rw [e2] at hk; rw [e1]; exact .inl hk
    · rw [e1] at hk; cases hk; exact .inr e2
  have hvlt : ∀ j k, j < n → (vs j).ownBlock = some k → k < w.heap.size := fun j k hj hk => ((h.rv j hj).lt k hk).2
  have hglt : ∀ j k, j < n → (gs j).ownBlock = some k → k < w.heap.size := fun j k hj hk => ((h.rg j hj).lt k hk).2
  have apv : ∀ j, j < n → j ≠ i → Ap v'.ownBlock (vs j).ownBlock := by
    intro j hj hne k hk hk2
    rcases hnew k hk with e | e
    · exact h.gv i j hi hj (Ne.symm hne) k e hk2
    · have := hvlt j k hj hk2; omega
  have apg : ∀ j, j < n → j ≠ i → Ap v'.ownBlock (gs j).ownBlock := by
    intro j hj hne k hk hk2
    rcases hnew k hk with e | e
    · exact h.gg i j hi hj (Ne.symm hne) k e hk2
    · have := hglt j k hj hk2; omega
  have hvi : Row eT w' base (vs i) (ys i) := hsh.row h3 fun hap => (h.rv i hi).kept h2 hap.symm.or
  have hgr : w'.grownBy (w'.setCell ⟨G, i, none⟩ v') (some G) := grownBy_set (World.grownBy.refl _ _) _
  have notG : ∀ (v : Value) (hG : ∀ k, v.ownBlock = some k → k ≠ bl ∧ k ≠ G), v.ownBlock = none ∨ v.ownBlock ≠ some G := by
    intro v hG
    cases e : v.ownBlock with
    | none => exact .inl rfl
    | some k => exact .inr fun e2 => by cases e2; exact (hG G e).2 rfl
  have ng' : ∀ k, v'.ownBlock = some k → k ≠ bl ∧ k ≠ G := by
    intro k hk
    rcases hnew k hk with e | e
    · exact h.ng i k hi e
    · have a1 := h.sl.lt
      have a2 := h.sg.lt
      exact ⟨by omega, by omega⟩
  have hrow' : Row eT w' base v' (zs i ++ [x]) := by
    show World.ownsRow _ _ _ _ _ _ _
    simpa using h1
  have rowsg : (gs i).ownBlock ≠ some bl ∧ (gs i).ownBlock ≠ some G := ⟨fun e => (h.ng i bl hi e).1 rfl, fun e => (h.ng i G hi e).2 rfl⟩
  refine ⟨⟨?_, ?_, h.vv, ?_, ?_, (h.sl.grown h2 (Ne.symm rowsg.1)).grown hgr (by intro e; cases e; exact h.ne rfl), (h.sg.grown h2 (Ne.symm rowsg.2)).set i hi _, h.nv, ?_, h.ne, h.bG, ?_⟩, ?_, ?_⟩
  · intro j hj
    by_cases e : j = i
    · subst e; exact hvi.kept hgr (notG _ (fun k hk => h.nv j k hj hk))
    · exact ((h.rv j hj).kept h2 (h.gv i j hi hj (Ne.symm e)).symm.or).kept hgr (notG _ (fun k hk => h.nv j k hj hk))
  · intro j hj
    by_cases e : j = i
    · subst e; rw [upd_at, upd_at]; exact hrow'.kept hgr (notG _ ng')
    · rw [upd_ne _ _ _ _ e, upd_ne _ _ _ _ e]
      exact ((h.rg j hj).kept h2 (h.gg j i hj hi e).or).kept hgr (notG _ (fun k hk => h.ng j k hj hk))
  · intro j l hj hl hne
    by_cases e : j = i
    · subst e; rw [upd_at]; exact apv l hl (Ne.symm hne)
    · rw [upd_ne _ _ _ _ e]; exact h.gv j l hj hl hne
  · intro j l hj hl hne
    by_cases e : j = i
    · subst e; rw [upd_at, upd_ne _ _ _ _ (Ne.symm hne)]; exact apg l hl (Ne.symm hne)
    · rw [upd_ne _ _ _ _ e]
      by_cases e2 : l = i
      · subst e2; rw [upd_at]; exact (apg j hj e).symm
      · rw [upd_ne _ _ _ _ e2]; exact h.gg j l hj hl hne
  · intro j k hj
    by_cases e : j = i
    · subst e; rw [upd_at]; exact ng' k
    · rw [upd_ne _ _ _ _ e]; exact h.ng j k hj
  · have := h2.size
    have := h.bs
    simp [World.setCell]; omega
  · have hb1 : Below base w w' := (Below.refl _ _).grown h2 h.bs (fun k hk => ((h.rg i hi).lt k hk).1)
    exact hb1.trans ((Below.refl _ _).grown hgr (Nat.le_trans h.bs h2.size) (by intro j e; cases e; exact h.bG))
  · rcases h4 with ⟨g, c, e1, e2⟩ | ⟨g, e1, e2⟩
    · rcases hsh with hs | ⟨b, l, m, c2, a1, a2, a3, a4⟩
      · left
        rw [e2]
        rw [e1] at hs
        exact hs
      · right
        rw [e1] at a2
        cases a2
        exact ⟨g, l, _, c, a1, e2, by omega, by rw [List.take_append_of_le_length a3]; exact a4⟩
    · left
      intro k hk hk2
      rw [e1] at hk
      cases hk
      have := hvlt i g hi hk2
      omega
end Go.Proofs.YtmjlpfmacblcpaaDoor

namespace Go.Proofs.YtmjlpfmacblcpaaDoor
open Go.RowKit
set_option linter.unusedVariables false
def markL (i : Nat) (m : Nat) : List Int := (List.range m).map fun (k : Nat) => ((i : Int) + 7 * (k : Int)) % 256
def tailL (i : Nat) (m : Nat) : List Int := (List.range m).map fun (k : Nat) => ((i : Int) + 131 + 3 * (k : Int)) % 256
theorem markL_len (i m : Nat) : (markL i m).length = m := by simp [markL]
theorem tailL_len (i m : Nat) : (tailL i m).length = m := by simp [tailL]
theorem markL_succ (i m : Nat) : markL i (m + 1) = markL i m ++ [((i : Int) + 7 * (m : Int)) % 256] := by simp [markL, List.range_succ]
theorem tailL_succ (i m : Nat) : tailL i (m + 1) = tailL i m ++ [((i : Int) + 131 + 3 * (m : Int)) % 256] := by simp [tailL, List.range_succ]
theorem markL_get (i m k : Nat) (h : k < m) : (markL i m).getD k 0 = ((i : Int) + 7 * (k : Int)) % 256 := by simp [markL, List.getD, h]
theorem tailL_get (i m k : Nat) (h : k < m) : (tailL i m).getD k 0 = ((i : Int) + 131 + 3 * (k : Int)) % 256 := by simp [tailL, List.getD, h]

def markF (k : Nat) (ys : Nat → List Int) : Nat → List Int := fun i => if i < k then markL i (ys i).length else ys i
def pmF (k j : Nat) (ys : Nat → List Int) : Nat → List Int := updO (markF k ys) k (markL k j ++ (ys k).drop j)
theorem markF_zero (ys : Nat → List Int) : markF 0 ys = ys := by funext i; simp [markF]
theorem markF_at (n i : Nat) (ys : Nat → List Int) (h : i < n) : markF n ys i = markL i (ys i).length := by simp [markF, h]
theorem markF_len (n i : Nat) (ys : Nat → List Int) : (markF n ys i).length = (ys i).length := by
  simp only [markF]; split
  · exact markL_len _ _
  · rfl
theorem pmF_zero (k : Nat) (ys : Nat → List Int) : pmF k 0 ys = markF k ys := by
  have : markL k 0 ++ (ys k).drop 0 = markF k ys k := by simp [markF, markL]
  unfold pmF; rw [this, upd_same]
theorem pmF_end (k : Nat) (ys : Nat → List Int) : pmF k (ys k).length ys = markF (k + 1) ys := by
  funext i
  by_cases e : i = k
  · subst e; rw [pmF, upd_at]; simp [markF]
  · rw [pmF, upd_ne _ _ _ _ e]; simp only [markF]
    by_cases h : i < k
    · rw [if_pos h, if_pos (by omega)]
    · rw [if_neg h, if_neg (by omega)]
theorem pmF_at (k j : Nat) (ys : Nat → List Int) : pmF k j ys k = markL k j ++ (ys k).drop j := upd_at _ _ _
theorem pmF_step (k j : Nat) (ys : Nat → List Int) (h : j < (ys k).length) : updO (pmF k j ys) k ((pmF k j ys k).set j (((k : Int) + 7 * (j : Int)) % 256)) = pmF k (j + 1) ys := by
  rw [pmF_at]
  unfold pmF
  rw [upd_upd]
  congr 1
  rw [List.set_append, if_neg (by rw [markL_len]; omega), markL_len, Nat.sub_self, List.drop_eq_getElem_cons h, List.set_cons_zero, markL_succ]
  simp

/-- A made list of slices, as slots. -/
theorem slots_made {sT : TypeId} {w : World} {base G n : Nat} {z : Value} (h : w.ownsRow base sT 1 (.slice (some ⟨G, 0, none⟩) n n) n (List.replicate n z)) (hn : 0 < n) : Slots sT w G n (fun _ => z) := by
  rcases h.2 with ⟨h0, _⟩ | ⟨g, cap, cur, h0, _, hh, _, _, hs, ht⟩
  · cases h0
  · cases h0
    refine ⟨cur, hh, by omega, fun i hi => ?_⟩
    have : cur.toList = List.replicate n z := by rw [← ht]; exact (List.take_of_length_le (by simp; omega)).symm
    have h2 : cur.toList[i]? = some z := by rw [this]; simp [hi]
    simpa using h2

theorem row_shape {eT : TypeId} {w : World} {base : Nat} {v : Value} {ys : List Int} (h : Row eT w base v ys) : ∃ a cap, v = .slice a ys.length cap ∧ ys.length ≤ cap ∧ (∀ k, k < ys.length → ∃ g, a = some ⟨g, 0, none⟩ ∧ w.cell? ⟨g, k, none⟩ = some (.int .u8 (ys.getD k 0)) ∧ w.frozen? ⟨g, k, none⟩ = false) := by
  rcases h.2 with ⟨rfl, h0⟩ | ⟨g, cap, cur, rfl, hb, hh, hc, _, _, ht⟩
  · exact ⟨none, 0, by rw [h0], by omega, fun k hk => by omega⟩
  · refine ⟨_, cap, rfl, hc, fun k hk => ⟨g, rfl, ?_, ?_⟩⟩
    · rw [h.cellAt k (by omega)]; simp [List.getD, hk]
    · exact h.frozenAt k
theorem row_at {eT : TypeId} {w : World} {base : Nat} {a : Option Addr} {m cp : Nat} {ys : List Int} (h : Row eT w base (.slice a m cp) ys) (k : Nat) (hk : k < ys.length) : ∃ g, a = some ⟨g, 0, none⟩ ∧ w.cell? ⟨g, k, none⟩ = some (.int .u8 (ys.getD k 0)) ∧ w.frozen? ⟨g, k, none⟩ = false := by
  obtain ⟨a', cap', hv, _, hat⟩ := row_shape h
  cases hv
  exact hat k hk
theorem pmF_len (k j : Nat) (ys : Nat → List Int) (h : j ≤ (ys k).length) : (pmF k j ys k).length = (ys k).length := by rw [pmF_at]; simp [markL_len]; omega
end Go.Proofs.YtmjlpfmacblcpaaDoor
