import Derived.Test.YtmjlpfmacblcpaaDoorPp
import Derived.Test.YtmjlpfmacblcpaaDoorPk
import Derived.Test.YtmjlpfmacblcpaaDoorPi
import Derived.Test.YtmjlpfmacblcpaaDoorPj
import Derived.Laws.StructEq
import Derived.Test.YtmjlpfmacblcpaaDoorProg
import Derived.Test.YtmjlpfmacblcpaaDoorPg
import Derived.Test.YtmjlpfmacblcpaaDoorPa
import Derived.WalkKit
import Derived.WalkSpells
import Derived.WalkLawsBesides
import Derived.Laws.BitsLemmas
import Derived.Test.YtmjlpfmacblcpaaDoorPh
namespace Go.Proofs.YtmjlpfmacblcpaaDoor
open Go.RowKit Go.Shelf
set_option linter.unusedVariables false
set_option linter.unusedSimpArgs false
def ml21 (L : List (Int × Int × Int)) (i : Nat) : List (Int × Int × Int) := (L.take i).map (fun o => (o.1, 9, o.2.2)) ++ L.drop i
theorem ml21_len (L : List (Int × Int × Int)) (i : Nat) (h : i ≤ L.length) : (ml21 L i).length = L.length := by simp [ml21]; omega
theorem ml21_get (L : List (Int × Int × Int)) (i : Nat) (h : i < L.length) : (ml21 L i)[i]? = L[i]? := by
  unfold ml21
  rw [List.getElem?_append_right (by simp [Nat.min_le_left]), List.getElem?_drop]
  congr 1
  have : ((L.take i).map (fun o : Int × Int × Int => (o.1, (9 : Int), o.2.2))).length = i := by simp; omega
  rw [this]; omega
theorem lgc21_set : ∀ (L : List (Int × Int × Int)) (i : Nat) (o : Int × Int × Int), L[i]? = some o → lgc21 (L.set i (o.1, 9, o.2.2)) = (lgc21 L).set (i * 3 + 1) (.int .i64 9)
  | [], i, o, h => by simp at h
  | e :: L, 0, o, h => by simp at h; subst h; simp [lgc21]
  | e :: L, i + 1, o, h => by
    have ih := lgc21_set L i o (by simpa using h)
    have e0 : ∀ M, lgc21 (e :: M) = [.int .i64 e.1, .int .i64 e.2.1, .int .i64 e.2.2] ++ lgc21 M := fun M => by simp [lgc21]
    rw [List.set_cons_succ, e0, e0, ih, show (i + 1) * 3 + 1 = 3 + (i * 3 + 1) by omega]
    exact (set_app21 [.int .i64 e.1, .int .i64 e.2.1, .int .i64 e.2.2] (lgc21 L) (i * 3 + 1) _).symm
theorem ml21_succ (L : List (Int × Int × Int)) (i : Nat) (o : Int × Int × Int) (h : L[i]? = some o) : ml21 L (i + 1) = (ml21 L i).set i (o.1, 9, o.2.2) := by
  have hl : i < L.length := (List.getElem?_eq_some_iff.1 h).1
  have ho : L[i] = o := (List.getElem?_eq_some_iff.1 h).2
  unfold ml21
  have e1 : (List.map (fun o : Int × Int × Int => (o.1, (9 : Int), o.2.2)) (L.take i)).length = i := by simp; omega
  have e2 := set_app21 (List.map (fun o : Int × Int × Int => (o.1, (9 : Int), o.2.2)) (L.take i)) (L.drop i) 0 (o.1, 9, o.2.2)
  rw [e1, Nat.add_zero] at e2
  rw [e2, List.drop_eq_getElem_cons hl, List.set_cons_zero, List.take_succ_eq_append_getElem hl, List.map_append, ho]
  simp
/-- A cell of a row of its own is set. -/
theorem own_set21 {w : World} {N sz n g c j : Nat} {e : TypeId} {xs : List Value} (h : w.ownsRow N e sz (.slice (some ⟨g, 0, none⟩) n c) n xs) (hj : j < xs.length) (u : Value) : (w.setCell ⟨g, j, none⟩ u).ownsRow N e sz (.slice (some ⟨g, 0, none⟩) n c) n (xs.set j u) := by
  refine ⟨by rw [List.length_set]; exact h.1, ?_⟩
  rcases h.2 with ⟨h1, _⟩ | ⟨g', cp, cur, h1, h2, h3, h4, h5, h6, h7⟩
  · cases h1
  · simp only [Value.slice.injEq, Option.some.injEq, Addr.mk.injEq] at h1
    obtain ⟨⟨rfl, -⟩, -, rfl⟩ := h1
    refine .inr ⟨g, c, cur.setIfInBounds j u, rfl, h2, ?_, h4, h5, by simpa using h6, ?_⟩
    · simp [World.setCell, Array.getElem?_modify, h3]
    · rw [Array.toList_setIfInBounds, List.take_set, h7]
theorem run_two21 (w0 : World) (N n rc g : Nat) (L : List (Int × Int × Int)) (ra : Option Addr) (hn : (lgc21 L).length = n * 3) (hl : w0.ownsRow N 180 3 (.slice ra n rc) n (lgc21 L)) (hN : N ≤ w0.heap.size) (hb : n ≤ 5500000002000) (ty : TypeId) :
    ∃ g cap w', (Builtin.append_ #[94, 94] ty #[.slice ra n rc, .slice (some ⟨w0.heap.size, 0, none⟩) 2 2]).run Tryd.prog (w0.alloc (.cells #[.int .i64 0, .int .i64 0, .int .i64 0, .int .i64 0, .int .i64 0, .int .i64 0] 180)) = .ok (.slice (some ⟨g, 0, none⟩) (n + 2) cap) w' ∧
      Kp (fun j => (Value.slice ra n rc).ownBlock = some j) w0 w' := by
  obtain ⟨i0, hi, hz0, hz1, hz2⟩ := info_parts info_op21
  have hnew : ∀ j u, ([.int .i64 0, .int .i64 0, .int .i64 0, .int .i64 0, .int .i64 0, .int .i64 0] : List Value)[j]? = some u → (w0.alloc (.cells #[.int .i64 0, .int .i64 0, .int .i64 0, .int .i64 0, .int .i64 0, .int .i64 0] 180)).cell? ((⟨w0.heap.size, 0, none⟩ : Addr).add j) = some u := by
    intro j u hu
    have hadd : (⟨w0.heap.size, 0, none⟩ : Addr).add j = ⟨w0.heap.size, j, none⟩ := by unfold Addr.add; split <;> simp_all
    rw [hadd]
    have hh := heap_alloc_new w0 (.cells #[.int .i64 0, .int .i64 0, .int .i64 0, .int .i64 0, .int .i64 0, .int .i64 0] 180)
    simp only [World.cell?, hh]
    simpa using hu
  obtain ⟨g, cap, w', h1, h2, h3, h4, h5⟩ := run_append_lies (P := Tryd.prog) (w := w0.alloc (.cells #[.int .i64 0, .int .i64 0, .int .i64 0, .int .i64 0, .int .i64 0, .int .i64 0] 180)) 94 ty N 180 i0 _ 3 24 Tryd.underlying94 hi hz0 hz1 hz2 rfl (by decide) _ n _ (hl.alloc _) ⟨w0.heap.size, 0, none⟩ 2 2 [.int .i64 0, .int .i64 0, .int .i64 0, .int .i64 0, .int .i64 0, .int .i64 0] rfl hnew (by intro u hu; simp at hu; rw [hu]; rfl) (by omega) (by unfold maxLen; omega) (by omega) (by simp; omega) (w0.heap.size + 1) (by simp)
  exact ⟨g, cap, w', h1, (Kp.alloc w0 _).trans (Kp.grown (S := fun j => (Value.slice ra n rc).ownBlock = some j) h3 (fun i e => e)) (fun _ _ e => e)⟩
set_option maxRecDepth 100000 in
set_option maxHeartbeats 16000000 in
theorem plooks21 {w : World} {f b : Nat} {F G : Nat → Prop} {S : Fs21} (hF : Fl21 w f F S) (hO : Ok21 S) (hG : Rl21d w b G S) (hb : S.lg.length ≤ 5500000002000) :
    Calls Tryd.prog 64 #[.pointer (some ⟨f, 0, none⟩), .pointer (some ⟨b, 0, none⟩)] w fun e w' => e = .returned (.bool true) ∧ Below w.heap.size w w' := by
  have hLG : Hid (∀ W, Below w.heap.size w W → Calls Tryd.prog 99 #[.pointer (some ⟨f, 0, none⟩)] W fun e w' => (∃ ra rc, e = .returned (.slice ra S.lg.length rc) ∧ w'.ownsRow W.heap.size 180 3 (.slice ra S.lg.length rc) S.lg.length (lgc21 S.lg)) ∧ Below W.heap.size W w') := fun W hW => plog21 (hF.old hW) hO hb
  have hSH : Hid (∀ W, Below w.heap.size w W → Calls Tryd.prog 100 #[.pointer (some ⟨f, 0, none⟩)] W fun e w' => e = .returned (.agg #[.int .i64 (S.pg : Int), .int .i64 (S.ps : Int)]) ∧ Below W.heap.size W w') := fun W hW => pshp22 (hF.old hW) hO
  obtain ⟨g, c, A, tn, ta, tc, la, lc, V, q, _⟩ := hG
  have c6 : w.cell? ⟨b, 6, none⟩ = some (.slice la S.lg.length lc) := q.cel rfl
  have c0 : w.cell? ⟨b, 0, none⟩ = some (.int .i64 (S.pg : Int)) := q.cel rfl
  have c1 : w.cell? ⟨b, 1, none⟩ = some (.int .i64 (S.ps : Int)) := q.cel rfl
  have hl := q.hl
  have hbl := q.bl
  obtain ⟨L, hL⟩ : ∃ L, L = S.lg := ⟨_, rfl⟩
  rw [← hL] at hLG c6 hl hb
  obtain ⟨pg, hpg⟩ : ∃ x : Int, x = (S.pg : Int) := ⟨_, rfl⟩
  obtain ⟨ps, hps⟩ : ∃ x : Int, x = (S.ps : Int) := ⟨_, rfl⟩
  rw [← hpg, ← hps] at hSH
  rw [← hpg] at c0
  rw [← hps] at c1
  obtain ⟨n, hn⟩ : ∃ n, n = L.length := ⟨_, rfl⟩
  rw [← hn] at hLG c6 hl hb
  have HN : Hid (L.length = n) := hn.symm
  have HL : Hid (w.ownsRow 0 177 3 (.slice la n lc) n (lgc21 L)) := hl
  have HC : Hid (∀ W : World, Below w.heap.size w W → W.cell? ⟨b, 6, none⟩ = some (.slice la n lc)) := fun W hW => cel21 hW c6
  have HC0 : Hid (∀ W : World, Below w.heap.size w W → W.cell? ⟨b, 0, none⟩ = some (.int .i64 pg) ∧ W.cell? ⟨b, 1, none⟩ = some (.int .i64 ps)) := fun W hW => ⟨cel21 hW c0, cel21 hW c1⟩
  have HNB : Hid (n ≤ 5500000002000) := hb
  clear hF hO q hL hn hl c6 c0 c1 hbl hpg hps hb
  go_enter Tryd.func64, Tryd.ntmps64
  go_wp2_with fail
  refine (hLG.out w (Below.refl _ _)).mono ?_
  rintro e w1 ⟨⟨ra, rc, rfl, hr1⟩, b1⟩
  have HR1 : Hid (w1.ownsRow w.heap.size 180 3 (.slice ra n rc) n (lgc21 L) ∧ Below w.heap.size w w1) := ⟨hr1, b1⟩
  clear hr1 b1
  go_wp2_with fail
  refine (hLG.out w1 HR1.out.2).mono ?_
  rintro e w2 ⟨⟨rb, rd, rfl, hr2⟩, b2⟩
  have W2 : Hid (Below w.heap.size w w2) := HR1.out.2.trans (b2.mono HR1.out.2.size)
  have HR2 : Hid (w2.ownsRow w1.heap.size 180 3 (.slice rb n rd) n (lgc21 L) ∧ w2.ownsRow w.heap.size 180 3 (.slice ra n rc) n (lgc21 L)) := ⟨hr2, own_below21 HR1.out.1 b2⟩
  have g6 := HC.out w2 W2.out
  have HAB : Hid (∀ k, (Value.slice ra n rc).ownBlock = some k → w.heap.size ≤ k ∧ (Value.slice rb n rd).ownBlock ≠ some k ∧ k < w2.heap.size) := fun k e => ⟨(HR1.out.1.lt k e).1, fun q => by have h1 := (hr2.lt k q).1; have h2 := (HR1.out.1.lt k e).2; omega, (HR2.out.2.lt k e).2⟩
  clear hr2 b2
  go_wp2_with fail
  go_loopw [39] (fun ti wr => ∃ i : Nat, i ≤ n ∧ ti = .int .i64 (i : Int) ∧ wr.ownsRow w.heap.size 180 3 (.slice ra n rc) n (lgc21 (ml21 L i)) ∧ Kp (fun k => (Value.slice ra n rc).ownBlock = some k) w2 wr) (fun ti _ => n - (intOf ti).toNat)
  case atStart => exact ⟨0, by omega, rfl, by simpa [ml21] using HR2.out.2, Kp.refl _ _⟩
  case round =>
    obtain ⟨i, hi, rfl, hA, hK2⟩ := hrel
    have HA : Hid (wr.ownsRow w.heap.size 180 3 (.slice ra n rc) n (lgc21 (ml21 L i)) ∧ Kp (fun k => (Value.slice ra n rc).ownBlock = some k) w2 wr) := ⟨hA, hK2⟩
    have HB : Hid (Below w.heap.size w wr) := W2.out.trans (hK2.below (fun k e => (HAB.out k e).1) W2.out.size)
    have g6 := HC.out wr HB.out
    clear hA hK2
    by_cases hlt : i < n
    · have hii : (i : Int) < (n : Int) := by omega
      have hiw : IntKind.i64.wrap ((i : Int) + 1) = ((i + 1 : Nat) : Int) := by have := HNB.out; rw [IntWalk.i64_in _ (by omega)]; omega
      obtain ⟨ga, o, ho, hra, hga, a1, a2, a3⟩ := ops22 HA.out.1 (by rw [ml21_len _ _ (by rw [HN.out]; omega)]; exact HN.out) hlt
      rw [ml21_get _ _ (by rw [HN.out]; exact hlt)] at ho
      obtain ⟨g', o', ho', hrb, hg', b1, b2, b3⟩ := ops22d HL.out HN.out hlt
      rw [ho] at ho'
      cases ho'
      have HO : Hid (L[i]? = some o) := ho
      obtain ⟨o1, o2, o3⟩ := o
      simp only at a1 a2 a3 b1 b2 b3
      have d1 := cel21 HB.out b1
      have d2 := cel21 HB.out b2
      have d3 := cel21 HB.out b3
      subst hra
      subst hrb
      clear b1 b2 b3 ho
      have hfz : wr.frozen? ⟨ga, i * 3 + 1, none⟩ = false := by
        rcases HA.out.1.2 with ⟨z1, _⟩ | ⟨g1, cp, cu, z1, z2, z3, _⟩
        · cases z1
        · simp only [Value.slice.injEq, Option.some.injEq, Addr.mk.injEq] at z1
          obtain ⟨⟨rfl, -⟩, -, -⟩ := z1
          simp [World.frozen?, z3]
      obtain ⟨v1, hv1⟩ : ∃ v, v = (wr.alloc (.cells #[.int .i64 o1, .int .i64 o2, .int .i64 o3] 177)).alloc (.cells #[.int .i64 o1, .int .i64 o2, .int .i64 o3] 180) := ⟨_, rfl⟩
      have HV1 : Hid ((wr.alloc (.cells #[.int .i64 o1, .int .i64 o2, .int .i64 o3] 177)).alloc (.cells #[.int .i64 o1, .int .i64 o2, .int .i64 o3] 180) = v1) := hv1.symm
      have B1 : Hid (Below wr.heap.size wr v1) := by rw [hv1]; exact ((Below.refl _ _).alloc (Nat.le_refl _) _).alloc (by simp) _
      have q2 : v1.heap[wr.heap.size + 1]? = some (.cells #[.int .i64 o1, .int .i64 o2, .int .i64 o3] 180 (0, 0)) := by
        have e : (wr.alloc (.cells #[.int .i64 o1, .int .i64 o2, .int .i64 o3] 177)).heap.size = wr.heap.size + 1 := by simp
        rw [hv1, ← e]; exact heap_alloc_new _ _
      have x1 := three_cell0 q2
      have x2 := three_cell1 q2
      have x3 := three_cell2 q2
      have y1 := cel21 B1.out a1
      have y2 := cel21 B1.out a2
      have y3 := cel21 B1.out a3
      have hfz1 : v1.frozen? ⟨ga, i * 3 + 1, none⟩ = false := by
        have := B1.out.block ga hga
        simpa [World.frozen?, this] using hfz
      obtain ⟨v2, hv2⟩ : ∃ v, v = v1.drew := ⟨_, rfl⟩
      have HV2 : Hid (v1.drew = v2) := hv2.symm
      have b12 : Below v1.heap.size v1 v2 := by rw [hv2]; exact (Below.refl _ _).drew
      have HS2 : Hid (v2.ownsRow w.heap.size 180 3 (.slice (some ⟨ga, 0, none⟩) n rc) n (lgc21 (ml21 L i)) ∧ Kp (fun k => (Value.slice (some ⟨ga, 0, none⟩) n rc).ownBlock = some k) w2 v2) := by
        have bb : Below wr.heap.size wr v2 := B1.out.trans (b12.mono B1.out.size)
        exact ⟨own_below21 HA.out.1 bb, HA.out.2.trans (Kp.of_below bb) (fun _ _ e => e)⟩
      have z1 : v2.cell? ⟨ga, i * 3, none⟩ = some (.int .i64 o1) := cel21 b12 y1
      have z2 : v2.cell? ⟨ga, i * 3 + 1, none⟩ = some (.int .i64 o2) := cel21 b12 y2
      have z3 : v2.cell? ⟨ga, i * 3 + 2, none⟩ = some (.int .i64 o3) := cel21 b12 y3
      have z4 : v2.cell? ⟨wr.heap.size + 1, 0, none⟩ = some (.int .i64 o1) := cel21 b12 x1
      have z5 : v2.cell? ⟨wr.heap.size + 1, 1, none⟩ = some (.int .i64 o2) := cel21 b12 x2
      have z6 : v2.cell? ⟨wr.heap.size + 1, 2, none⟩ = some (.int .i64 o3) := cel21 b12 x3
      have z7 : v2.frozen? ⟨ga, i * 3 + 1, none⟩ = false := by
        have := b12.block ga (Nat.lt_of_lt_of_le hga B1.out.size)
        simpa [World.frozen?, this] using hfz1
      have HNX : Hid ((v2.setCell ⟨ga, i * 3 + 1, none⟩ (.int .i64 9)).ownsRow w.heap.size 180 3 (.slice (some ⟨ga, 0, none⟩) n rc) n (lgc21 (ml21 L (i + 1))) ∧ Kp (fun k => (Value.slice (some ⟨ga, 0, none⟩) n rc).ownBlock = some k) w2 (v2.setCell ⟨ga, i * 3 + 1, none⟩ (.int .i64 9))) := by
        have hle : i < L.length := by rw [HN.out]; exact hlt
        refine ⟨?_, HS2.out.2.trans (Kp.set (S := fun k => (Value.slice (some ⟨ga, 0, none⟩) n rc).ownBlock = some k) rfl _) (fun _ _ e => e)⟩
        rw [ml21_succ L i _ HO.out, lgc21_set _ _ _ ((ml21_get L i hle).trans HO.out)]
        exact own_set21 HS2.out.1 (by rw [lgc21_len, ml21_len _ _ (by omega), HN.out]; omega) _
      clear hv1 q2 x1 x2 x3 y1 y2 y3 hfz hfz1 hv2 b12 a1 a2 a3 hga
      go_upto_region 8 with fail
      rw [HV1.out]
      refine still_all22c (by kernel_rfl) (by kernel_rfl) ?_
      rw [HV2.out]
      repeat still_step
      refine wpStill_nil ?_
      go_wp2_with fail
      go_roundw
      case rel => exact ⟨i + 1, by omega, by go_num, HNX.out.1, HNX.out.2⟩
      case measure => simp [intOf]; omega
    · obtain rfl : i = n := by omega
      have hii : ¬ (i : Int) < (i : Int) := by omega
      obtain ⟨g4, c4, w4, hr4, k4⟩ := run_two21 wr w.heap.size i rc 0 (ml21 L i) ra (by rw [lgc21_len, ml21_len _ _ (by rw [HN.out]; omega), HN.out]) HA.out.1 HB.out.size HNB.out 94
      have K4 : Hid (Kp (fun k => (Value.slice ra i rc).ownBlock = some k) w2 w4) := HA.out.2.trans k4 (fun _ _ e => e)
      have HB4 : Hid (Below w.heap.size w w4) := W2.out.trans (K4.out.below (fun k e => (HAB.out k e).1) W2.out.size)
      have HBO : Hid (w4.ownsRow w1.heap.size 180 3 (.slice rb i rd) i (lgc21 L)) := own_kp21 HR2.out.1 (fun k e => K4.out.block k (HR2.out.1.lt k e).2 (fun q => (HAB.out k q).2.1 e))
      have g64 := HC.out w4 HB4.out
      clear k4 g6
      go_wp2_with (first | (at_builtin; refine wpList_app21 rfl (.tmp 62) (.tmp 65) 94 rfl rfl rfl hr4 ?_))
      clear hr4
      go_loopw [72] (fun ti wq => ∃ j : Nat, j ≤ i ∧ ti = .int .i64 (j : Int) ∧ Below w4.heap.size w4 wq) (fun ti _ => i - (intOf ti).toNat)
      case atStart => exact ⟨0, by omega, rfl, Below.refl _ _⟩
      case round =>
        obtain ⟨j, hj, rfl, hBq⟩ := hrel
        have HBQ : Hid (Below w4.heap.size w4 wr) := hBq
        clear hBq
        by_cases hlt2 : j < i
        · have hjj : (j : Int) < (i : Int) := by omega
          have hjw : IntKind.i64.wrap ((j : Int) + 1) = ((j + 1 : Nat) : Int) := by have := HNB.out; rw [IntWalk.i64_in _ (by omega)]; omega
          obtain ⟨gb, o, ho, hrb, hgb, a1, a2, a3⟩ := ops22 HBO.out HN.out hlt2
          obtain ⟨g', o', ho', hrl, hg', b1, b2, b3⟩ := ops22d HL.out HN.out hlt2
          rw [ho] at ho'
          cases ho'
          obtain ⟨o1, o2, o3⟩ := o
          simp only at a1 a2 a3 b1 b2 b3
          have BW : Below w.heap.size w wr := HB4.out.trans (HBQ.out.mono HB4.out.size)
          have d1 := cel21 BW b1
          have d2 := cel21 BW b2
          have d3 := cel21 BW b3
          have y2 := cel21 HBQ.out a2
          have y3 := cel21 HBQ.out a3
          subst hrb
          subst hrl
          obtain ⟨v1, hv1⟩ : ∃ v, v = wr.alloc (.cells #[.int .i64 o1, .int .i64 o2, .int .i64 o3] 177) := ⟨_, rfl⟩
          have HV1 : Hid (wr.alloc (.cells #[.int .i64 o1, .int .i64 o2, .int .i64 o3] 177) = v1) := hv1.symm
          have B1 : Hid (Below w4.heap.size w4 v1) := by rw [hv1]; exact HBQ.out.alloc HBQ.out.size _
          have q2 : v1.heap[wr.heap.size]? = some (.cells #[.int .i64 o1, .int .i64 o2, .int .i64 o3] 177 (0, 0)) := by rw [hv1]; exact heap_alloc_new _ _
          obtain ⟨v2, hv2⟩ : ∃ v, v = v1.drew := ⟨_, rfl⟩
          have HV2 : Hid (v1.drew = v2) := hv2.symm
          have b12 : Below v1.heap.size v1 v2 := by rw [hv2]; exact (Below.refl _ _).drew
          have b02 : Below wr.heap.size wr v2 := by
            have : Below wr.heap.size wr v1 := by rw [hv1]; exact (Below.refl _ _).alloc (Nat.le_refl _) _
            exact this.trans (b12.mono this.size)
          have x2 := cel21 b12 (three_cell1 q2)
          have x3 := cel21 b12 (three_cell2 q2)
          have z2 := cel21 b02 y2
          have z3 := cel21 b02 y3
          have B2 : Hid (Below w4.heap.size w4 v2) := B1.out.trans (b12.mono B1.out.size)
          clear hv1 q2 y2 y3 hv2 b12 b02 a1 a2 a3 b1 b2 b3 hgb hg' ho BW
          go_upto_region 16 with fail
          rw [HV1.out]
          refine still_all22c (by kernel_rfl) (by kernel_rfl) ?_
          rw [HV2.out]
          repeat still_step
          refine wpStill_nil ?_
          go_wp2_with fail
          go_roundw
          case rel => exact ⟨j + 1, by omega, by go_num, B2.out⟩
          case measure => simp [intOf]; omega
        · obtain rfl : j = i := by omega
          have hjj : ¬ (j : Int) < (j : Int) := by omega
          have BW : Below w.heap.size w wr := HB4.out.trans (HBQ.out.mono HB4.out.size)
          have hjw : IntKind.i64.wrap ((j : Int) + 2) = ((j + 2 : Nat) : Int) := by have := HNB.out; rw [IntWalk.i64_in _ (by omega)]; omega
          obtain ⟨v0, hv0⟩ : ∃ v, v = wr.drew := ⟨_, rfl⟩
          have HV0 : Hid (wr.drew = v0) := hv0.symm
          have B0 : Hid (Below w.heap.size w v0) := by rw [hv0]; exact BW.trans ((Below.refl _ _).drew.mono BW.size)
          clear hv0 BW
          go_wp2_with fail
          refine plain_region16 (fun V => V.cell? ⟨b, 0, none⟩ = some (.int .i64 pg) ∧ V.cell? ⟨b, 1, none⟩ = some (.int .i64 ps)) 21 (by kernel_rfl) (by rw [HV0.out]; exact HC0.out v0 B0.out) (fun hHeld => ?_)
          rw [HV0.out] at hHeld ⊢
          refine wpAnyK_take (i := 0) (v := .pointer (some ⟨f, 0, none⟩)) rfl (by kernel_rfl) (by kernel_rfl) (by kernel_rfl) (by kernel_rfl) (fun _ _ _ h => h) (Or.inl ⟨by rfl, fun w hSw => by go_simp⟩) hHeld ?_
          simp only [List.getElem_toArray, List.getElem_cons_zero, Act.put, List.setIfInBounds_toArray, List.set_cons_zero, List.set_cons_succ]
          refine wpAnyK_take (i := 2) (v := .pointer (some ⟨b, 0, none⟩)) rfl (by kernel_rfl) (by kernel_rfl) (by kernel_rfl) (by kernel_rfl) (fun _ _ _ h => h) (Or.inl ⟨by rfl, fun w hSw => by go_simp⟩) hHeld ?_
          simp only [List.getElem_toArray, List.getElem_cons_zero, List.getElem_cons_succ, Act.put, List.setIfInBounds_toArray, List.set_cons_zero, List.set_cons_succ]
          refine wpAnyK_take (i := 3) (v := .pointer (some ⟨b, 0, none⟩)) rfl (by kernel_rfl) (by kernel_rfl) (by kernel_rfl) (by kernel_rfl) (fun _ _ _ h => h) (Or.inl ⟨by rfl, fun w hSw => by go_simp⟩) hHeld ?_
          simp only [List.getElem_toArray, List.getElem_cons_zero, List.getElem_cons_succ, Act.put, List.setIfInBounds_toArray, List.set_cons_zero, List.set_cons_succ]
          refine wpAnyK_take (i := 4) (v := .pointer (some ⟨b, 0, none⟩)) rfl (by kernel_rfl) (by kernel_rfl) (by kernel_rfl) (by kernel_rfl) (fun _ _ _ h => h) (Or.inl ⟨by rfl, fun w hSw => by go_simp⟩) hHeld ?_
          simp only [List.getElem_toArray, List.getElem_cons_zero, List.getElem_cons_succ, Act.put, List.setIfInBounds_toArray, List.set_cons_zero, List.set_cons_succ]
          refine wpAnyK_take (i := 5) (v := .int .i64 pg) rfl (by kernel_rfl) (by kernel_rfl) (by kernel_rfl) (by kernel_rfl) (fun _ _ _ h => h) (Or.inl ⟨by rfl, fun w hSw => by go_simp⟩) hHeld ?_
          simp only [List.getElem_toArray, List.getElem_cons_zero, List.getElem_cons_succ, Act.put, List.setIfInBounds_toArray, List.set_cons_zero, List.set_cons_succ]
          refine wpAnyK_take (i := 6) (v := .pointer (some ⟨b, 0, none⟩)) rfl (by kernel_rfl) (by kernel_rfl) (by kernel_rfl) (by kernel_rfl) (fun _ _ _ h => h) (Or.inl ⟨by rfl, fun w hSw => by go_simp⟩) hHeld ?_
          simp only [List.getElem_toArray, List.getElem_cons_zero, List.getElem_cons_succ, Act.put, List.setIfInBounds_toArray, List.set_cons_zero, List.set_cons_succ]
          refine wpAnyK_take (i := 7) (v := .pointer (some ⟨b, 0, none⟩)) rfl (by kernel_rfl) (by kernel_rfl) (by kernel_rfl) (by kernel_rfl) (fun _ _ _ h => h) (Or.inl ⟨by rfl, fun w hSw => by go_simp⟩) hHeld ?_
          simp only [List.getElem_toArray, List.getElem_cons_zero, List.getElem_cons_succ, Act.put, List.setIfInBounds_toArray, List.set_cons_zero, List.set_cons_succ]
          refine wpAnyK_take (i := 8) (v := .pointer (some ⟨b, 1, none⟩)) rfl (by kernel_rfl) (by kernel_rfl) (by kernel_rfl) (by kernel_rfl) (fun _ _ _ h => h) (Or.inl ⟨by rfl, fun w hSw => by go_simp⟩) hHeld ?_
          simp only [List.getElem_toArray, List.getElem_cons_zero, List.getElem_cons_succ, Act.put, List.setIfInBounds_toArray, List.set_cons_zero, List.set_cons_succ]
          refine wpAnyK_take (i := 9) (v := .int .i64 ps) rfl (by kernel_rfl) (by kernel_rfl) (by kernel_rfl) (by kernel_rfl) (fun _ _ _ h => h) (Or.inl ⟨by rfl, fun w hSw => by go_simp⟩) hHeld ?_
          simp only [List.getElem_toArray, List.getElem_cons_zero, List.getElem_cons_succ, Act.put, List.setIfInBounds_toArray, List.set_cons_zero, List.set_cons_succ]
          refine wpAnyK_take (i := 10) (v := .agg #[.int .i64 pg, .int .i64 ps]) rfl (by kernel_rfl) (by kernel_rfl) (by kernel_rfl) (by kernel_rfl) (fun _ _ _ h => h) (Or.inl ⟨by rfl, fun w hSw => by go_simp⟩) hHeld ?_
          simp only [List.getElem_toArray, List.getElem_cons_zero, List.getElem_cons_succ, Act.put, List.setIfInBounds_toArray, List.set_cons_zero, List.set_cons_succ]
          refine wpAnyK_one (i := 1) (by kernel_rfl) rfl (fun K hK => ?_)
          (try simp only [List.getElem_toArray, List.getElem_cons_zero, List.getElem_cons_succ, Act.put, List.setIfInBounds_toArray, List.set_cons_zero, List.set_cons_succ])
          go_simp
          refine (hSH.out v0 B0.out).mono ?_
          rintro e v1 ⟨rfl, b1⟩
          have B1 : Hid (Below w.heap.size w v1) := B0.out.trans (b1.mono B0.out.size)
          clear b1
          refine hK.out _ _ (fun _ => HC0.out v1 B1.out) (fun hHeld0 => ?_)
          have hHeld := hHeld0 (by decide)
          clear hHeld0 hK K
          (try simp only [List.getElem_toArray, List.getElem_cons_zero, List.getElem_cons_succ, Act.put, List.setIfInBounds_toArray, List.set_cons_zero, List.set_cons_succ])
          refine wpAnyK_take (i := 11) (v := .bool true) rfl (by kernel_rfl) (by kernel_rfl) (by kernel_rfl) (by kernel_rfl) (fun _ _ _ h => h) (Or.inl ⟨by rfl, fun w hSw => by go_simp⟩) hHeld ?_
          simp only [List.getElem_toArray, List.getElem_cons_zero, List.getElem_cons_succ, Act.put, List.setIfInBounds_toArray, List.set_cons_zero, List.set_cons_succ]
          refine wpAnyK_take (i := 12) (v := .bool true) rfl (by kernel_rfl) (by kernel_rfl) (by kernel_rfl) (by kernel_rfl) (fun _ _ _ h => h) (Or.inl ⟨by rfl, fun w hSw => by go_simp⟩) hHeld ?_
          simp only [List.getElem_toArray, List.getElem_cons_zero, List.getElem_cons_succ, Act.put, List.setIfInBounds_toArray, List.set_cons_zero, List.set_cons_succ]
          refine wpAnyK_take (i := 13) (v := .slice (some ⟨g4, 0, none⟩) (j + 2) c4) rfl (by kernel_rfl) (by kernel_rfl) (by kernel_rfl) (by kernel_rfl) (fun _ _ _ h => h) (Or.inl ⟨by rfl, fun w hSw => by go_simp⟩) hHeld ?_
          simp only [List.getElem_toArray, List.getElem_cons_zero, List.getElem_cons_succ, Act.put, List.setIfInBounds_toArray, List.set_cons_zero, List.set_cons_succ]
          refine wpAnyK_take (i := 14) (v := .int .i64 ((j + 2 : Nat) : Int)) rfl (by kernel_rfl) (by kernel_rfl) (by kernel_rfl) (by kernel_rfl) (fun _ _ _ h => h) (Or.inl ⟨by rfl, fun w hSw => by go_simp⟩) hHeld ?_
          simp only [List.getElem_toArray, List.getElem_cons_zero, List.getElem_cons_succ, Act.put, List.setIfInBounds_toArray, List.set_cons_zero, List.set_cons_succ]
          refine wpAnyK_take (i := 15) (v := .slice rb j rd) rfl (by kernel_rfl) (by kernel_rfl) (by kernel_rfl) (by kernel_rfl) (fun _ _ _ h => h) (Or.inl ⟨by rfl, fun w hSw => by go_simp⟩) hHeld ?_
          simp only [List.getElem_toArray, List.getElem_cons_zero, List.getElem_cons_succ, Act.put, List.setIfInBounds_toArray, List.set_cons_zero, List.set_cons_succ]
          refine wpAnyK_take (i := 16) (v := .int .i64 (j : Int)) rfl (by kernel_rfl) (by kernel_rfl) (by kernel_rfl) (by kernel_rfl) (fun _ _ _ h => h) (Or.inl ⟨by rfl, fun w hSw => by go_simp⟩) hHeld ?_
          simp only [List.getElem_toArray, List.getElem_cons_zero, List.getElem_cons_succ, Act.put, List.setIfInBounds_toArray, List.set_cons_zero, List.set_cons_succ]
          refine wpAnyK_take (i := 17) (v := .int .i64 ((j + 2 : Nat) : Int)) rfl (by kernel_rfl) (by kernel_rfl) (by kernel_rfl) (by kernel_rfl) (fun _ _ _ h => h) (Or.inl ⟨by rfl, fun w hSw => by go_simp⟩) hHeld ?_
          simp only [List.getElem_toArray, List.getElem_cons_zero, List.getElem_cons_succ, Act.put, List.setIfInBounds_toArray, List.set_cons_zero, List.set_cons_succ]
          refine wpAnyK_take (i := 18) (v := .bool true) rfl (by kernel_rfl) (by kernel_rfl) (by kernel_rfl) (by kernel_rfl) (fun _ _ _ h => h) (Or.inl ⟨by rfl, fun w hSw => by go_simp⟩) hHeld ?_
          simp only [List.getElem_toArray, List.getElem_cons_zero, List.getElem_cons_succ, Act.put, List.setIfInBounds_toArray, List.set_cons_zero, List.set_cons_succ]
          refine wpAnyK_take (i := 19) (v := .bool true) rfl (by kernel_rfl) (by kernel_rfl) (by kernel_rfl) (by kernel_rfl) (fun _ _ _ h => h) (Or.inl ⟨by rfl, fun w hSw => by go_simp⟩) hHeld ?_
          simp only [List.getElem_toArray, List.getElem_cons_zero, List.getElem_cons_succ, Act.put, List.setIfInBounds_toArray, List.set_cons_zero, List.set_cons_succ]
          refine wpAnyK_one (i := 20) (by kernel_rfl) rfl (fun K hK => ?_)
          (try simp only [List.getElem_toArray, List.getElem_cons_zero, List.getElem_cons_succ, Act.put, List.setIfInBounds_toArray, List.set_cons_zero, List.set_cons_succ])
          go_simp
          refine hK.out _ _ (fun _ => hHeld) (fun _ => ?_)
          clear hK K hHeld
          refine wpAnyK_done (by kernel_rfl) ?_ _
          go_wp2_with fail
          go_ret
          exact ⟨rfl, B1.out⟩
end Go.Proofs.YtmjlpfmacblcpaaDoor

namespace Go.Proofs.YtmjlpfmacblcpaaDoor
open Go.RowKit
set_option linter.unusedVariables false
theorem info_u8r : (Tryd.prog.info? 5).map (fun i => (i.zero, i.size, i.bytes)) = some (some (.int .u8 0), 1, 1) := by kernel_rfl

set_option maxRecDepth 100000 in
set_option maxHeartbeats 1000000 in
theorem rbytes_any (x : Int) (w : World) (hx0 : 0 ≤ x) (hx1 : x ≤ 18446744073709551615) :
    Calls Tryd.prog 89 #[.int .u64 x] w fun e w' => ∃ v, e = .returned v ∧ w'.ownsRow w.heap.size 5 1 v (encI x).length ((encI x).map (Value.int .u8)) ∧ Below w.heap.size w w' := by
  obtain ⟨i0, hi, hz0, hz1, hz2⟩ := info_parts info_u8r
  go_enter Tryd.func89, Tryd.ntmps89
  go_wp2
  go_loopw [0, 3] (fun t o wr => ∃ (pre : List Int) (f : Nat) (u : Int), t = .int .u64 u ∧ wr.ownsRow w.heap.size 5 1 o pre.length (pre.map (Value.int .u8)) ∧ encI x = pre ++ encL f u ∧ pre.length + f = 9 ∧ 0 ≤ u ∧ u < 2 * 128 ^ f ∧ Below w.heap.size w wr) (fun t _ _ => (intOf t).toNat)
  case atStart => exact ⟨[], 9, x, rfl, World.ownsRow_nil _ _ _ _, rfl, rfl, hx0, by rw [pow9]; omega, Below.refl _ _⟩
  case round =>
    obtain ⟨pre, f, u, rfl, hown2, he, hf, hu0, hu1, hb2⟩ := hrel
    have hu2 : u ≤ 18446744073709551615 := by
      have h9 : (128 : Int) ^ f ≤ 128 ^ 9 := pow128_mono (by omega)
      have := pow9
      omega
    have hszr := hb2.size
    by_cases h7 : 127 < u
    · obtain ⟨f, rfl⟩ : ∃ g, f = g + 1 := ⟨f - 1, by
        cases f with
        | zero => simp at hu1; omega
        | succ f => rfl⟩
      have h8 : 128 ≤ u := by omega
      have HN : Hid (encI x = (pre ++ [u % 128 + 128]) ++ encL f (u / 128)) := by
        show encI x = _
        rw [he]; simp only [encL, if_pos h7, List.append_assoc, List.singleton_append]
      have hu3 : u / 128 < 2 * 128 ^ f := by rw [Int.pow_succ] at hu1; omega
      clear he h7
      go_wp2_with (at_builtin; refine wpList_push rfl _ _ 22 rfl w.heap.size 5 i0 (.int .u8 0) 1 Tryd.underlying22 hi hz0 hz1 hz2 rfl wr (.int .u8 (u % 128 + 128)) rfl hown2 rfl rfl (by omega) (by omega) hszr ?_; intro v' w2 hown3 hg3 hb3)
      go_roundw
      case rel => exact ⟨pre ++ [u % 128 + 128], f, u / 128, rfl, by simpa using hown3, HN.out, by simp; omega, by omega, hu3, hb2.trans hb3⟩
      case measure => simp [intOf]; omega
    · have h8 : u < 128 := by omega
      have HN : Hid (encI x = pre ++ [u]) := by
        show encI x = _
        rw [he]
        cases f <;> simp [encL, h7]
      clear he h7
      go_wp2_with (at_builtin; refine wpList_push rfl _ _ 22 rfl w.heap.size 5 i0 (.int .u8 0) 1 Tryd.underlying22 hi hz0 hz1 hz2 rfl wr (.int .u8 u) rfl hown2 rfl rfl (by omega) (by omega) hszr ?_; intro v' w2 hown3 hg3 hb3)
      go_ret
      exact ⟨_, rfl, by rw [HN.out]; simpa using hown3, hb2.trans hb3⟩

set_option maxRecDepth 100000 in
set_option maxHeartbeats 1000000 in
theorem rencode_any (a : Option Addr) (zs : List Int) (cap : Nat) (w : World) (hs : Seg64 w a zs) (hl : zs.length ≤ 8796093022208) :
    Calls Tryd.prog 88 #[.slice a zs.length cap] w fun e w' => ∃ v, e = .returned v ∧ w'.ownsRow w.heap.size 5 1 v (encA zs).length ((encA zs).map (Value.int .u8)) ∧ Below w.heap.size w w' := by
  obtain ⟨i0, hi, hz0, hz1, hz2⟩ := info_parts info_u8r
  go_enter Tryd.func88, Tryd.ntmps88
  go_wp2
  go_loopw [3, 8] (fun o i wr => ∃ k : Nat, k ≤ zs.length ∧ i = .int .i64 k ∧ wr.ownsRow w.heap.size 5 1 o (encA (zs.take k)).length ((encA (zs.take k)).map (Value.int .u8)) ∧ Below w.heap.size w wr) (fun _ i _ => zs.length - (intOf i).toNat)
  case atStart => exact ⟨0, Nat.zero_le _, rfl, World.ownsRow_nil _ _ _ _, Below.refl _ _⟩
  case round =>
    obtain ⟨k, hk, rfl, hown, hb⟩ := hrel
    have hle := encA_take_len zs k
    by_cases hlt : k < zs.length
    · have hsr := hs.old hb
      obtain ⟨b, off, rfl, hcell⟩ := hsr.at_ k hlt
      have hx := hs.bd k
      have HT : Hid (encA (zs.take (k + 1)) = encA (zs.take k) ++ encI (zs.getD k 0)) := encA_take zs k hlt
      have hlen := encI_len (zs.getD k 0)
      have hszr := hb.size
      have hbd := encI_bd (zs.getD k 0) hx.1 hx.2
      generalize zs.getD k 0 = x at *
      generalize encA (zs.take k) = E at *
      go_wp2_with fail
      refine (rbytes_any x _ hx.1 hx.2).mono ?_
      rintro e w1 ⟨v1, rfl, hown1, hb1⟩
      obtain ⟨_, a1, c1, rfl, hseg1, hblk, hc1, _⟩ := own_seg hown1 (M := 255) (by decide) hbd
      have hn1 : a1 = none → c1 = 0 := by
        intro e
        subst e
        rcases hown1.2 with ⟨h0, _⟩ | ⟨g, cp, cur, h0, _⟩
        · simp at h0; exact h0.2
        · simp at h0
      have hownA := own_below hown hb1
      have hz1' := hb1.size
      clear hown1 hblk hsr hcell
      go_wp2_with (at_builtin; refine wpList_append_seg rfl _ _ 22 rfl w.heap.size 5 i0 (.int .u8 0) 1 Tryd.underlying22 hi hz0 hz1 hz2 rfl hownA hseg1 hn1 rfl rfl (by omega) (by omega) (by omega) ?_; intro v2 w2 hown2 hg2 hb2)
      go_roundw
      case rel => exact ⟨k + 1, by omega, by go_num, by rw [HT.out]; simpa using hown2, hb.trans ((hb1.mono hszr).trans hb2)⟩
      case measure => simp [intOf]; omega
    · obtain rfl : k = zs.length := by omega
      have HT : Hid (zs.take zs.length = zs) := List.take_length
      rw [HT.out] at hown
      clear hle hlt
      go_wp2
      go_ret
      exact ⟨_, rfl, hown, hb⟩
end Go.Proofs.YtmjlpfmacblcpaaDoor

namespace Go.Proofs.YtmjlpfmacblcpaaDoor
open Go.RowKit
set_option linter.unusedVariables false
theorem div_next (v : Int) (k : Nat) : v / 2 ^ (8 * k) / 256 = v / 2 ^ (8 * (k + 1)) := by
  rw [Int.ediv_ediv_of_nonneg (Int.le_of_lt (Int.pow_pos (by decide))), show 8 * (k + 1) = 8 * k + 8 by omega, Int.pow_add]
  rfl
theorem div_bd (v : Int) (k : Nat) (h0 : 0 ≤ v) (h1 : v ≤ 18446744073709551615) : 0 ≤ v / 2 ^ (8 * k) ∧ v / 2 ^ (8 * k) ≤ 18446744073709551615 := by
  have hp : (0 : Int) < 2 ^ (8 * k) := Int.pow_pos (by decide)
  refine ⟨Int.ediv_nonneg h0 (Int.le_of_lt hp), ?_⟩
  have := Int.ediv_le_self (2 ^ (8 * k)) h0
  omega

set_option maxRecDepth 100000 in
set_option maxHeartbeats 1000000 in
theorem rfixed_any (v : Int) (s : Nat) (w : World) (h1 : 1 ≤ s) (h8 : s ≤ 8) (hv0 : 0 ≤ v) (hv1 : v ≤ 18446744073709551615) :
    Calls Tryd.prog 90 #[.int .u64 v, .int .i64 s] w fun e w' => Below w.heap.size w w' ∧
      ((v / 2 ^ (8 * s) ≠ 0 ∧ e = .returned (.tuple #[.slice none 0 0, .int .i64 10])) ∨
       (v / 2 ^ (8 * s) = 0 ∧ ∃ b, e = .returned (.tuple #[b, .int .i64 0]) ∧ w'.ownsRow w.heap.size 5 1 b s ((fixL s v).map (Value.int .u8)))) := by
  have a1 : decide ((s : Int) < 1) = false := by simp; omega
  obtain ⟨i0, hi, hz0, hz1, hz2⟩ := info_parts info_u8f
  go_enter Tryd.func90, Tryd.ntmps90
  go_wp2
  go_loopw [0, 6, 7] (fun t b i wr => ∃ k : Nat, k ≤ s ∧ i = .int .i64 k ∧ t = .int .u64 (v / 2 ^ (8 * k)) ∧ wr.ownsRow w.heap.size 5 1 b k ((fixL k v).map (Value.int .u8)) ∧ Below w.heap.size w wr) (fun _ _ i _ => s - (intOf i).toNat)
  case atStart => exact ⟨0, Nat.zero_le _, rfl, by simp, World.ownsRow_nil _ _ _ _, Below.refl _ _⟩
  case round =>
    obtain ⟨k, hk, rfl, rfl, hown, hb⟩ := hrel
    have hbd := div_bd v k hv0 hv1
    have HN : Hid (v / 2 ^ (8 * k) / 256 = v / 2 ^ (8 * (k + 1))) := div_next v k
    have HF : Hid (fixL (k + 1) v = fixL k v ++ [v / 2 ^ (8 * k) % 256]) := fixL_snoc k v
    have hszr := hb.size
    by_cases hlt : k < s
    · have hlti : (k : Int) < (s : Int) := by omega
      generalize hq : v / 2 ^ (8 * k) = q at *
      clear hq
      go_wp2_with (at_builtin; refine wpList_push rfl _ _ 22 rfl w.heap.size 5 i0 (.int .u8 0) 1 Tryd.underlying22 hi hz0 hz1 hz2 rfl wr (.int .u8 (q % 256)) rfl hown rfl rfl (by omega) (by omega) hszr ?_; intro v' w2 hown3 hg3 hb3)
      go_roundw
      case rel => exact ⟨k + 1, by omega, by go_num, by rw [HN.out], by rw [HF.out, List.map_append]; exact hown3, hb.trans hb3⟩
      case measure => simp [intOf]; omega
    · obtain rfl : k = s := by omega
      clear hlt HN HF
      by_cases hr : v / 2 ^ (8 * k) = 0
      · rw [hr]
        go_wp2
        go_ret2
        exact ⟨hb, Or.inr ⟨hr, _, rfl, hown⟩⟩
      · have hpos : 0 < v / 2 ^ (8 * k) := by omega
        generalize hq : v / 2 ^ (8 * k) = q at *
        have HQ : Hid (v / 2 ^ (8 * k) = q) := hq
        clear hq
        go_wp2
        go_ret2
        exact ⟨hb, Or.inl ⟨by rw [HQ.out]; exact hr, rfl⟩⟩

end Go.Proofs.YtmjlpfmacblcpaaDoor

namespace Go.Proofs.YtmjlpfmacblcpaaDoor
open Go.RowKit
set_option linter.unusedVariables false
set_option linter.unusedSimpArgs false
theorem sq (e : Nat) : act (onN e oneW) (onN e oneW) = onN (2 * e) oneW := by
  rw [act_pow', ← onN_add]
  congr 1
  omega

end Go.Proofs.YtmjlpfmacblcpaaDoor

namespace Go.Proofs.YtmjlpfmacblcpaaDoor
open Go.RowKit
set_option linter.unusedVariables false
set_option linter.unusedSimpArgs false
theorem wI_low (a : W32) : bits .and .u32 (wI a) 1 = wI (a &&& 1#32) := wI_and a 1#32
theorem wI_eq (a b : W32) : (wI a == wI b) = (a == b) := by
  rw [Bool.eq_iff_iff, beq_iff_eq, beq_iff_eq]
  exact ⟨wI_inj, fun h => by rw [h]⟩
theorem wI_low1 (a : W32) : (bits .and .u32 (wI a) 1 == 1) = a.getLsbD 0 := by
  rw [wI_low, show (1 : Int) = wI 1#32 from rfl, wI_eq]
  have h := and_two a 0 (by decide)
  rw [show BitVec.twoPow 32 0 = 1#32 from rfl] at h
  rw [← h]
  have e : (a &&& 1#32) = BitVec.ofNat 32 (a.toNat % 2) := by
    apply BitVec.eq_of_toNat_eq
    have : a.toNat &&& 1 = a.toNat % 2 := Nat.and_two_pow_sub_one_eq_mod _ 1
    simp [this]
    omega
  rw [e]
  rcases Nat.mod_two_eq_zero_or_one a.toNat with h | h <;> rw [h] <;> decide

set_option maxRecDepth 100000 in
/-- The register behind one more bit. -/
theorem step_any (a c : W32) (w : World) (hc : c = 0#32 ∨ c = 1#32) : Calls Tryd.prog 128 #[.int .u32 (wI a), .int .u32 (wI c)] w fun e w' => e = .returned (.int .u32 (wI (on (a ^^^ c)))) ∧ w' = w := by
  have b := wI_bd a
  have hx := wI_xor a c
  have hl := wI_low1 (a ^^^ c)
  have h2 : wI a / (2 : Int) = wI ((a ^^^ c) >>> 1) := by
    rw [wI_half, BitVec.ushiftRight_xor_distrib]
    congr 1
    rcases hc with rfl | rfl
    · simp
    · simp
  cases h : (a ^^^ c).getLsbD 0
  · have HL : Hid (wI a / 2 = wI (on (a ^^^ c))) := by
      show _ = _
      rw [h2]; unfold on; rw [h]; simp
    rw [h] at hl
    rw [← hx] at hl
    clear h h2 hx
    go_enter Tryd.func128, Tryd.ntmps128
    go_wp2
    go_ret
    exact ⟨ret_u32 HL.out, rfl⟩
  · have HL : Hid (bits .xor .u32 (wI a / 2) 3988292384 = wI (on (a ^^^ c))) := by
      show _ = _
      rw [h2, show (3988292384 : Int) = wI genW from rfl, wI_xor]; unfold on; rw [h, if_pos rfl]
    rw [h] at hl
    rw [← hx] at hl
    clear h h2 hx
    go_enter Tryd.func128, Tryd.ntmps128
    go_wp2
    go_ret
    exact ⟨ret_u32 HL.out, rfl⟩
end Go.Proofs.YtmjlpfmacblcpaaDoor

namespace Go.Proofs.YtmjlpfmacblcpaaDoor
open Go.RowKit
set_option linter.unusedVariables false
set_option linter.unusedSimpArgs false
/-- The low bits of a byte. -/
def lowW (x : Int) (k : Nat) : W32 := BitVec.ofNat 32 (x.toNat % 2 ^ k)
def bitW (x : Int) (k : Nat) : W32 := BitVec.ofNat 32 (x.toNat / 2 ^ k % 2)
theorem low_next0 : ∀ (x : Fin 256) (k : Fin 8), BitVec.ofNat 32 (x.val % 2 ^ (k.val + 1)) = BitVec.ofNat 32 (x.val % 2 ^ k.val) ^^^ (BitVec.ofNat 32 (x.val / 2 ^ k.val % 2) <<< k.val) := by decide +kernel
theorem low_next (x : Int) (h0 : 0 ≤ x) (h1 : x ≤ 255) (k : Nat) (hk : k < 8) : lowW x (k + 1) = lowW x k ^^^ (bitW x k <<< k) :=
  low_next0 ⟨x.toNat, by omega⟩ ⟨k, hk⟩
theorem low_step (r : W32) (x : Int) (h0 : 0 ≤ x) (h1 : x ≤ 255) (k : Nat) (hk : k < 8) : on (onN k (r ^^^ lowW x k) ^^^ bitW x k) = onN (k + 1) (r ^^^ lowW x (k + 1)) := by
  have e : bitW x k = onN k (bitW x k <<< k) := by
    refine (onN_shl k _ ?_ (by omega)).symm
    have h2 : (bitW x k).toNat < 2 := by
      unfold bitW
      have := Nat.mod_lt (x.toNat / 2 ^ k) (show 0 < 2 by decide)
      simp
      omega
    have h3 : 2 ^ 1 ≤ 2 ^ (32 - k) := Nat.pow_le_pow_right (by decide) (by omega)
    exact Nat.lt_of_lt_of_le h2 h3
  conv => lhs; rw [e]
  rw [← onN_xor, BitVec.xor_assoc, ← low_next x h0 h1 k hk]
  rfl
theorem bit_or (x : Int) (k : Nat) : bitW x k = 0#32 ∨ bitW x k = 1#32 := by
  unfold bitW
  rcases Nat.mod_two_eq_zero_or_one (x.toNat / 2 ^ k) with h | h <;> rw [h]
  · exact Or.inl rfl
  · exact Or.inr rfl
theorem bit_is (x : Int) (h0 : 0 ≤ x) (h1 : x ≤ 255) (k : Nat) : bits .and .u32 (x / 2 ^ k % 4294967296) 1 = wI (bitW x k) := by
  obtain ⟨n, rfl⟩ := Int.eq_ofNat_of_zero_le h0
  have hd : n / 2 ^ k ≤ n := Nat.div_le_self _ _
  have e1 : ((n : Int) / 2 ^ k) = wI (BitVec.ofNat 32 (n / 2 ^ k)) := by
    unfold wI
    rw [BitVec.toNat_ofNat, Nat.mod_eq_of_lt (by omega)]
    simp
  have e0 : (n : Int) / 2 ^ k % 4294967296 = (n : Int) / 2 ^ k := by
    have := wI_bd (BitVec.ofNat 32 (n / 2 ^ k))
    rw [← e1] at this
    exact Int.emod_eq_of_lt this.1 this.2
  rw [e0, e1, wI_low]
  congr 1
  apply BitVec.eq_of_toNat_eq
  unfold bitW
  rw [BitVec.toNat_and, BitVec.toNat_ofNat, BitVec.toNat_ofNat, Nat.mod_eq_of_lt (a := n / 2 ^ k) (by omega)]
  have : n / 2 ^ k &&& 1 = n / 2 ^ k % 2 := Nat.and_two_pow_sub_one_eq_mod _ 1
  simp [this]
  omega

set_option maxRecDepth 100000 in
set_option maxHeartbeats 1000000 in
theorem run_any (r : W32) (a : Option Addr) (zs : List Int) (cap : Nat) (w : World) (hs : Seg w a zs) (hl : zs.length ≤ 9223372036854775807) :
    Calls Tryd.prog 114 #[.int .u32 (wI r), .slice a zs.length cap] w fun e w' => e = .returned (.int .u32 (wI (runW r zs))) ∧ w' = w := by
  go_enter Tryd.func114, Tryd.ntmps114
  go_wp2
  go_loopw [0, 5] (fun tr ti wr => ∃ k : Nat, k ≤ zs.length ∧ tr = .int .u32 (wI (runW r (zs.take k))) ∧ ti = .int .i64 k ∧ wr = w) (fun _ ti _ => zs.length - (intOf ti).toNat)
  case atStart => exact ⟨0, Nat.zero_le _, by simp [runW], rfl, rfl⟩
  case round =>
    obtain ⟨k, hk, rfl, rfl, rfl⟩ := hrel
    by_cases hlt : k < zs.length
    · have hlti : (k : Int) < (zs.length : Int) := by omega
      obtain ⟨b, off, rfl, hc⟩ := hs.at_ k hlt
      have hbd := hs.bd k
      have HT : Hid (runW r (zs.take (k + 1)) = takeW (runW r (zs.take k)) (zs.getD k 0)) := by
        show _ = _
        rw [take_snoc hlt, runW_snoc]
      generalize zs.getD k 0 = z at *
      generalize runW r (zs.take k) = q at *
      go_wp2
      go_loopw [0, 6] (fun tr ti w2 => ∃ j : Nat, j ≤ 8 ∧ tr = .int .u32 (wI (onN j (q ^^^ lowW z j))) ∧ ti = .int .i64 j ∧ w2 = wr) (fun _ ti _ => 8 - (intOf ti).toNat)
      case atStart => exact ⟨0, by decide, by simp [lowW, onN, Nat.mod_one], rfl, rfl⟩
      case round =>
        obtain ⟨j, hj, rfl, rfl, rfl⟩ := hrel
        by_cases hj8 : j < 8
        · have hj8' : (j : Int) < 8 := by omega
          have hb := bit_is z hbd.1 hbd.2 j
          have HS : Hid (on (onN j (q ^^^ lowW z j) ^^^ bitW z j) = onN (j + 1) (q ^^^ lowW z (j + 1))) := low_step q z hbd.1 hbd.2 j hj8
          have ho := bit_or z j
          go_wp2_with (go_at_call 128; refine (step_any _ _ _ ho).mono ?_; rintro e w' ⟨rfl, hw'⟩; subst w')
          go_roundw
          case rel => exact ⟨j + 1, by omega, by rw [HS.out], by go_num, trivial⟩
          case measure => simp [intOf]; omega
        · obtain rfl : j = 8 := by omega
          clear hj8
          have H8 : Hid (onN 8 (q ^^^ lowW z 8) = takeW q z) := by
            show _ = _
            unfold takeW lowW bW
            rw [Nat.mod_eq_of_lt (by omega)]
          go_wp2
          go_roundw
          case rel => exact ⟨k + 1, by omega, by rw [HT.out, H8.out], by go_num, trivial⟩
          case measure => simp [intOf]; omega
    · obtain rfl : k = zs.length := by omega
      have e1 : zs.take zs.length = zs := List.take_of_length_le (Nat.le_refl _)
      rw [e1]
      clear hlt e1
      go_wp2
      go_ret
      exact ⟨rfl, rfl⟩
end Go.Proofs.YtmjlpfmacblcpaaDoor
