
import Derived.Test.YthefcmhmcgjcoaaPgM
import Derived.Deep.CutRange
namespace Go.Proofs.Ythefcmhmcgjcoaa
open Go.RowKit Go.Shelf
set_option linter.unusedVariables false
set_option linter.unusedSimpArgs false

/-! The law's made. -/
set_option maxRecDepth 100000 in
set_option maxHeartbeats 16000000 in
theorem pmade22 (d : Dv22) (w : World) (hd : Df22 w d) : Calls Try.prog 18 #[.agg #[.int .u64 (d.p : Int), .int .u64 (d.q : Int), .bool d.ac, .slice d.a0 d.l0.length d.k0, .slice d.a1 d.l1.length d.k1]] w fun e w' => Dm22 w w' d e := by
  have HSH : Hid (∀ W : World, Calls Try.prog 43 #[.agg #[.int .u64 (d.p : Int), .int .u64 (d.q : Int), .bool d.ac, .slice d.a0 d.l0.length d.k0, .slice d.a1 d.l1.length d.k1]] W fun e w' => e = .returned (.agg #[.int .i64 (d.P : Int), .int .i64 (d.Q : Int)]) ∧ Below W.heap.size W w') := fun W => pshape22 d W hd.p hd.q
  have hbd := d.bd
  obtain ⟨n0, hn0⟩ : ∃ n0, n0 = d.l0.length := ⟨_, rfl⟩
  obtain ⟨n1, hn1⟩ : ∃ n1, n1 = d.l1.length := ⟨_, rfl⟩
  obtain ⟨P, hP⟩ : ∃ P, P = d.P := ⟨_, rfl⟩
  obtain ⟨Q, hQ⟩ : ∃ Q, Q = d.Q := ⟨_, rfl⟩
  obtain ⟨PQ, hPQ⟩ : ∃ PQ, PQ = P * Q := ⟨_, rfl⟩
  have hz0 := hd.z0
  have hz1 := hd.z1
  rw [← hn0] at hz0
  rw [← hn1] at hz1
  rw [← hn0, ← hn1, ← hP, ← hQ] at HSH
  rw [← hn0, ← hn1]
  rw [← hP, ← hQ, ← hPQ] at hbd
  have hmul : IntKind.i64.wrap ((P : Int) * (Q : Int)) = (PQ : Int) := by
    have e : (P : Int) * (Q : Int) = (PQ : Int) := by rw [hPQ]; exact (Int.natCast_mul _ _).symm
    rw [e, IntWalk.i64_in _ (by omega)]
  obtain ⟨m0, hm0⟩ : ∃ m0, m0 = min n0 PQ := ⟨_, rfl⟩
  obtain ⟨m1, hm1⟩ : ∃ m1, m1 = min n1 PQ := ⟨_, rfl⟩
  have HM : Hid (m0 = min n0 PQ ∧ m1 = min n1 PQ ∧ n0 = d.l0.length ∧ n1 = d.l1.length ∧ P = d.P ∧ Q = d.Q ∧ PQ = P * Q ∧ n0 ≤ d.k0 ∧ n1 ≤ d.k1) := ⟨hm0, hm1, hn0, hn1, hP, hQ, hPQ, hz0, hz1⟩
  obtain ⟨g, hg⟩ : ∃ g, g = w.heap.size := ⟨_, rfl⟩
  have HG : Hid (w.heap.size = g) := hg.symm
  obtain ⟨w1, hw1⟩ : ∃ w1, w1 = w.alloc (.cells #[.int .u64 (d.p : Int), .int .u64 (d.q : Int), .bool d.ac, .slice d.a0 n0 d.k0, .slice d.a1 n1 d.k1] 55) := ⟨_, rfl⟩
  have HW1 : Hid (w.alloc (.cells #[.int .u64 (d.p : Int), .int .u64 (d.q : Int), .bool d.ac, .slice d.a0 n0 d.k0, .slice d.a1 n1 d.k1] 55) = w1) := hw1.symm
  have q1 : w1.heap[g]? = some (.cells #[.int .u64 (d.p : Int), .int .u64 (d.q : Int), .bool d.ac, .slice d.a0 n0 d.k0, .slice d.a1 n1 d.k1] 55 (0, 0)) := by rw [hw1, hg]; exact heap_alloc_new _ _
  have b1 : Below w.heap.size w w1 := by rw [hw1]; exact (Below.refl _ _).alloc (Nat.le_refl _) _
  have HV : Hid (∀ W : World, W.heap[g]? = some (.cells #[.int .u64 (d.p : Int), .int .u64 (d.q : Int), .bool d.ac, .slice d.a0 n0 d.k0, .slice d.a1 n1 d.k1] 55 (0, 0)) → W.cell? ⟨g, 0, none⟩ = some (.int .u64 (d.p : Int)) ∧ W.cell? ⟨g, 1, none⟩ = some (.int .u64 (d.q : Int)) ∧ W.cell? ⟨g, 2, none⟩ = some (.bool d.ac) ∧ W.cell? ⟨g, 3, none⟩ = some (.slice d.a0 n0 d.k0) ∧ W.cell? ⟨g, 4, none⟩ = some (.slice d.a1 n1 d.k1)) := fun W h => by simp [World.cell?, h]
  obtain ⟨AC, hAC⟩ : ∃ AC, AC = d.A := ⟨_, rfl⟩
  have HAC : Hid (AC = d.A ∧ (AC = 0 ∨ AC = 1)) := ⟨hAC, by rw [hAC]; unfold Dv22.A; split <;> omega⟩
  have hac : d.ac = true → AC = 1 := fun e => by rw [hAC]; unfold Dv22.A; rw [e]; rfl
  have hac' : d.ac = false → AC = 0 := fun e => by rw [hAC]; unfold Dv22.A; rw [e]; rfl
  have HB1 : Hid (Below w.heap.size w w1 ∧ w1.heap[g]? = some (.cells #[.int .u64 (d.p : Int), .int .u64 (d.q : Int), .bool d.ac, .slice d.a0 n0 d.k0, .slice d.a1 n1 d.k1] 55 (0, 0))) := ⟨b1, q1⟩
  have HAA : Hid ((d.ac = true → AC = 1) ∧ (d.ac = false → AC = 0)) := ⟨hac, hac'⟩
  clear hac hac'
  obtain ⟨c0, c1, c2, c3, c4⟩ := HV.out w1 q1
  have HD : Hid (Df22 w d) := hd
  clear hn0 hn1 hP hQ hPQ hm0 hm1 hg hw1 q1 b1 hAC hz0 hz1 hd
  go_enter Try.func18, Try.ntmps18
  go_upto_region 1 with fail
  rw [HW1.out, HG.out]
  go_wp2_with fail
  refine (HSH.out _).mono ?_
  rintro e w2 ⟨rfl, b2⟩
  obtain ⟨gS, hgS⟩ : ∃ gS, gS = w2.heap.size := ⟨_, rfl⟩
  obtain ⟨w3, hw3⟩ : ∃ w3, w3 = w2.alloc (.cells #[.int .i64 (P : Int), .int .i64 (Q : Int)] 31) := ⟨_, rfl⟩
  have HW3 : Hid (w2.alloc (.cells #[.int .i64 (P : Int), .int .i64 (Q : Int)] 31) = w3) := hw3.symm
  have HGS : Hid (w2.heap.size = gS) := hgS.symm
  have q3 : w3.heap[gS]? = some (.cells #[.int .i64 (P : Int), .int .i64 (Q : Int)] 31 (0, 0)) := by rw [hw3, hgS]; exact heap_alloc_new _ _
  have b3 : Below w1.heap.size w1 w3 := by rw [hw3]; exact b2.alloc b2.size _
  have q13 := (b3.block g (Array.getElem?_eq_some_iff.1 HB1.out.2).1).trans HB1.out.2
  clear c0 c1 c2 c3 c4
  obtain ⟨c0, c1, c2, c3, c4⟩ := HV.out w3 q13
  obtain ⟨w4, hw4⟩ : ∃ w4, w4 = w3.alloc (.cells #[.slice d.a0 n0 d.k0, .slice d.a1 n1 d.k1] 32) := ⟨_, rfl⟩
  have HW4 : Hid (w3.alloc (.cells #[.slice d.a0 n0 d.k0, .slice d.a1 n1 d.k1] 32) = w4) := hw4.symm
  obtain ⟨g7, hg7⟩ : ∃ g7, g7 = w3.heap.size := ⟨_, rfl⟩
  have HG7 : Hid (w3.heap.size = g7) := hg7.symm
  have q7 : w4.heap[g7]? = some (.cells #[.slice d.a0 n0 d.k0, .slice d.a1 n1 d.k1] 32 (0, 0)) := by rw [hw4, hg7]; exact heap_alloc_new _ _
  have q34 : w4.heap[gS]? = some (.cells #[.int .i64 (P : Int), .int .i64 (Q : Int)] 31 (0, 0)) := by rw [hw4, heap_alloc_old _ _ (Array.getElem?_eq_some_iff.1 q3).1]; exact q3
  have HB4 : Hid (Below w.heap.size w w4 ∧ w.heap.size ≤ g7) := by
    have h1 := HB1.out.1
    have h3 := h1.trans (b3.mono h1.size)
    exact ⟨by rw [hw4]; exact h3.alloc h3.size _, by rw [hg7]; exact h3.size⟩
  have HQ : Hid (w4.heap[g7]? = some (.cells #[.slice d.a0 n0 d.k0, .slice d.a1 n1 d.k1] 32 (0, 0)) ∧ w4.heap[gS]? = some (.cells #[.int .i64 (P : Int), .int .i64 (Q : Int)] 31 (0, 0))) := ⟨q7, q34⟩
  clear hgS hw3 q3 b3 q13 hw4 hg7 q7 q34 b2
  go_upto_region 2 with fail
  rw [HW3.out, HGS.out]
  go_upto_if 16 with fail
  go_cut [6] from 13 to 67 (fun s6 wc => wc = w3 ∧ s6 = .int .i64 AC)
  case first =>
    go_wp2_with fail
    all_goals
      rename_i hh
      go_meet
      case rel => exact ⟨rfl, by first | rw [HAA.out.1 hh] | rw [HAA.out.2 hh]⟩
  case rest =>
    obtain ⟨hwc, rfl⟩ := hcut
    subst wc
    go_upto_region 6 with fail
    rw [HW4.out, HG7.out]
    clear c0 c1 c2 c3 c4
    have HSS : Hid (∀ i : Nat, i < 2 → ∃ (ai : Option Addr) (ni ki mi : Nat), (∀ W : World, W.heap[g7]? = some (.cells #[(if 0 < i then .slice d.a0 m0 d.k0 else .slice d.a0 n0 d.k0), (if 1 < i then .slice d.a1 m1 d.k1 else .slice d.a1 n1 d.k1)] 32 (0, 0)) → W.cell? ⟨g7, i, none⟩ = some (.slice ai ni ki) ∧ W.frozen? ⟨g7, i, none⟩ = false ∧ (W.setCell ⟨g7, i, none⟩ (.slice ai mi ki)).heap[g7]? = some (.cells #[(if 0 < i + 1 then .slice d.a0 m0 d.k0 else .slice d.a0 n0 d.k0), (if 1 < i + 1 then .slice d.a1 m1 d.k1 else .slice d.a1 n1 d.k1)] 32 (0, 0))) ∧ mi = min ni PQ ∧ ni ≤ ki ∧ (ai = none → ki = 0)) := fun i hi => by
      obtain ⟨e1, e2, e3, e4, e5, e6, e7, e8, e9⟩ := HM.out
      rcases (show i = 0 ∨ i = 1 by omega) with rfl | rfl
      · exact ⟨d.a0, n0, d.k0, m0, fun W h => by simp at h; simp [World.cell?, World.frozen?, World.setCell, Array.getElem?_modify, h], e1, e8, HD.out.n0⟩
      · exact ⟨d.a1, n1, d.k1, m1, fun W h => by simp at h; simp [World.cell?, World.frozen?, World.setCell, Array.getElem?_modify, h], e2, e9, HD.out.n1⟩
    go_wp2_with fail
    go_loopw [8] (fun ti wr => ∃ i : Nat, i ≤ 2 ∧ ti = .int .i64 (i : Int) ∧ Below w.heap.size w wr ∧ wr.heap[gS]? = some (.cells #[.int .i64 (P : Int), .int .i64 (Q : Int)] 31 (0, 0)) ∧ wr.heap[g7]? = some (.cells #[(if 0 < i then .slice d.a0 m0 d.k0 else .slice d.a0 n0 d.k0), (if 1 < i then .slice d.a1 m1 d.k1 else .slice d.a1 n1 d.k1)] 32 (0, 0))) (fun ti _ => 2 - (intOf ti).toNat)
    case atStart => exact ⟨0, by omega, rfl, HB4.out.1, HQ.out.2, by simpa using HQ.out.1⟩
    case round =>
      obtain ⟨i, hi2, rfl, hB, hS5, h7⟩ := hrel
      by_cases hi : i < 2
      · have hii : (i : Int) < 2 := by omega
        obtain ⟨ai, ni, ki, mi, hf, hmi, hnk, hnil⟩ := HSS.out i hi
        obtain ⟨y7, f7, z7⟩ := hf wr h7
        have s0 := two_cell0 hS5
        have s1 := two_cell1 hS5
        have hmin : (if PQ < ni then (PQ : Int) else (ni : Int)) = (mi : Int) := by split <;> omega
        have hmin' : (if (PQ : Int) < (ni : Int) then (PQ : Int) else (ni : Int)) = (mi : Int) := by split <;> omega
        have hsl := slice_hi22 ai ni ki mi hnk (by omega) hnil
        have hiw : IntKind.i64.wrap ((i : Int) + 1) = ((i + 1 : Nat) : Int) := by rw [IntWalk.i64_in _ (by omega)]; omega
        obtain ⟨u, hu⟩ : ∃ u, u = wr.drew := ⟨_, rfl⟩
        have HU : Hid (wr.drew = u) := hu.symm
        have HHC : Hid (u.cell? ⟨g7, i, none⟩ = some (.slice ai ni ki) ∧ u.cell? ⟨gS, 0, none⟩ = some (.int .i64 (P : Int)) ∧ u.cell? ⟨gS, 1, none⟩ = some (.int .i64 (Q : Int))) := by rw [hu]; exact ⟨y7, s0, s1⟩
        have fu : u.frozen? ⟨g7, i, none⟩ = false := by rw [hu]; exact f7
        have HNX : Hid (Below w.heap.size w (u.setCell ⟨g7, i, none⟩ (.slice ai mi ki)) ∧ (u.setCell ⟨g7, i, none⟩ (.slice ai mi ki)).heap[gS]? = some (.cells #[.int .i64 (P : Int), .int .i64 (Q : Int)] 31 (0, 0)) ∧ (u.setCell ⟨g7, i, none⟩ (.slice ai mi ki)).heap[g7]? = some (.cells #[(if 0 < i + 1 then .slice d.a0 m0 d.k0 else .slice d.a0 n0 d.k0), (if 1 < i + 1 then .slice d.a1 m1 d.k1 else .slice d.a1 n1 d.k1)] 32 (0, 0))) := by
          have hk : Kp (fun k => k = g7) wr (wr.setCell ⟨g7, i, none⟩ (.slice ai mi ki)) := Kp.set (S := fun k => k = g7) rfl _
          have hne : gS ≠ g7 := fun e => by rw [e, h7] at hS5; injection hS5 with e; injection e with _ e _; exact absurd e (by decide)
          rw [hu]
          refine ⟨hB.trans ?_, ?_, z7⟩
          · have := hk.below (B := w.heap.size) (fun i e => by rw [e]; exact HB4.out.2) hB.size
            exact ⟨this.os, this.tape, this.output, this.size, this.block⟩
          · have := (hk.block gS (Array.getElem?_eq_some_iff.1 hS5).1 hne).trans hS5
            exact this
        clear hf hmi hnk hnil y7 f7 z7 s0 s1 hB hS5 h7 hu
        go_wp2_with fail
        refine plain_region16 (fun V => V.cell? ⟨g7, i, none⟩ = some (.slice ai ni ki) ∧ V.cell? ⟨gS, 0, none⟩ = some (.int .i64 (P : Int)) ∧ V.cell? ⟨gS, 1, none⟩ = some (.int .i64 (Q : Int))) 16 (by kernel_rfl) (by rw [HU.out]; exact HHC.out) (fun hHeld => ?_)
        rw [HU.out] at hHeld ⊢
        refine wpAnyK_take (i := 0) (v := .int .i64 (i : Int)) rfl (by kernel_rfl) (by kernel_rfl) (by kernel_rfl) (by kernel_rfl) (fun _ _ _ h => h) (Or.inl ⟨by rfl, fun w hSw => by go_simp⟩) hHeld ?_
        simp only [List.getElem_toArray, List.getElem_cons_zero, Act.put, List.setIfInBounds_toArray, List.set_cons_zero, List.set_cons_succ]
        refine wpAnyK_take (i := 1) (v := .int .i64 (i : Int)) rfl (by kernel_rfl) (by kernel_rfl) (by kernel_rfl) (by kernel_rfl) (fun _ _ _ h => h) (Or.inl ⟨by rfl, fun w hSw => by go_simp⟩) hHeld ?_
        simp only [List.getElem_toArray, List.getElem_cons_zero, List.getElem_cons_succ, Act.put, List.setIfInBounds_toArray, List.set_cons_zero, List.set_cons_succ]
        refine wpAnyK_take (i := 2) (v := .pointer (some ⟨g7, i, none⟩)) rfl (by kernel_rfl) (by kernel_rfl) (by kernel_rfl) (by kernel_rfl) (fun _ _ _ h => h) (Or.inl ⟨by rfl, fun w hSw => by go_simp⟩) hHeld ?_
        simp only [List.getElem_toArray, List.getElem_cons_zero, List.getElem_cons_succ, Act.put, List.setIfInBounds_toArray, List.set_cons_zero, List.set_cons_succ]
        refine wpAnyK_take (i := 3) (v := .slice ai ni ki) rfl (by kernel_rfl) (by kernel_rfl) (by kernel_rfl) (by kernel_rfl) (fun _ _ _ h => h) (Or.inl ⟨by rfl, fun w hSw => by go_simp⟩) hHeld ?_
        simp only [List.getElem_toArray, List.getElem_cons_zero, List.getElem_cons_succ, Act.put, List.setIfInBounds_toArray, List.set_cons_zero, List.set_cons_succ]
        refine wpAnyK_take (i := 4) (v := .int .i64 (i : Int)) rfl (by kernel_rfl) (by kernel_rfl) (by kernel_rfl) (by kernel_rfl) (fun _ _ _ h => h) (Or.inl ⟨by rfl, fun w hSw => by go_simp⟩) hHeld ?_
        simp only [List.getElem_toArray, List.getElem_cons_zero, List.getElem_cons_succ, Act.put, List.setIfInBounds_toArray, List.set_cons_zero, List.set_cons_succ]
        refine wpAnyK_take (i := 5) (v := .pointer (some ⟨g7, i, none⟩)) rfl (by kernel_rfl) (by kernel_rfl) (by kernel_rfl) (by kernel_rfl) (fun _ _ _ h => h) (Or.inl ⟨by rfl, fun w hSw => by go_simp⟩) hHeld ?_
        simp only [List.getElem_toArray, List.getElem_cons_zero, List.getElem_cons_succ, Act.put, List.setIfInBounds_toArray, List.set_cons_zero, List.set_cons_succ]
        refine wpAnyK_take (i := 6) (v := .slice ai ni ki) rfl (by kernel_rfl) (by kernel_rfl) (by kernel_rfl) (by kernel_rfl) (fun _ _ _ h => h) (Or.inl ⟨by rfl, fun w hSw => by go_simp⟩) hHeld ?_
        simp only [List.getElem_toArray, List.getElem_cons_zero, List.getElem_cons_succ, Act.put, List.setIfInBounds_toArray, List.set_cons_zero, List.set_cons_succ]
        refine wpAnyK_take (i := 7) (v := .int .i64 (ni : Int)) rfl (by kernel_rfl) (by kernel_rfl) (by kernel_rfl) (by kernel_rfl) (fun _ _ _ h => h) (Or.inl ⟨by rfl, fun w hSw => by go_simp⟩) hHeld ?_
        simp only [List.getElem_toArray, List.getElem_cons_zero, List.getElem_cons_succ, Act.put, List.setIfInBounds_toArray, List.set_cons_zero, List.set_cons_succ]
        refine wpAnyK_take (i := 8) (v := .pointer (some ⟨gS, 0, none⟩)) rfl (by kernel_rfl) (by kernel_rfl) (by kernel_rfl) (by kernel_rfl) (fun _ _ _ h => h) (Or.inl ⟨by rfl, fun w hSw => by go_simp⟩) hHeld ?_
        simp only [List.getElem_toArray, List.getElem_cons_zero, List.getElem_cons_succ, Act.put, List.setIfInBounds_toArray, List.set_cons_zero, List.set_cons_succ]
        refine wpAnyK_take (i := 9) (v := .int .i64 (P : Int)) rfl (by kernel_rfl) (by kernel_rfl) (by kernel_rfl) (by kernel_rfl) (fun _ _ _ h => h) (Or.inl ⟨by rfl, fun w hSw => by go_simp⟩) hHeld ?_
        simp only [List.getElem_toArray, List.getElem_cons_zero, List.getElem_cons_succ, Act.put, List.setIfInBounds_toArray, List.set_cons_zero, List.set_cons_succ]
        refine wpAnyK_take (i := 10) (v := .pointer (some ⟨gS, 1, none⟩)) rfl (by kernel_rfl) (by kernel_rfl) (by kernel_rfl) (by kernel_rfl) (fun _ _ _ h => h) (Or.inl ⟨by rfl, fun w hSw => by go_simp⟩) hHeld ?_
        simp only [List.getElem_toArray, List.getElem_cons_zero, List.getElem_cons_succ, Act.put, List.setIfInBounds_toArray, List.set_cons_zero, List.set_cons_succ]
        refine wpAnyK_take (i := 11) (v := .int .i64 (Q : Int)) rfl (by kernel_rfl) (by kernel_rfl) (by kernel_rfl) (by kernel_rfl) (fun _ _ _ h => h) (Or.inl ⟨by rfl, fun w hSw => by go_simp⟩) hHeld ?_
        simp only [List.getElem_toArray, List.getElem_cons_zero, List.getElem_cons_succ, Act.put, List.setIfInBounds_toArray, List.set_cons_zero, List.set_cons_succ]
        refine wpAnyK_take (i := 12) (v := .int .i64 (PQ : Int)) rfl (by kernel_rfl) (by kernel_rfl) (by kernel_rfl) (by kernel_rfl) (fun _ _ _ h => h) (Or.inl ⟨by rfl, fun w hSw => by go_simp⟩) hHeld ?_
        simp only [List.getElem_toArray, List.getElem_cons_zero, List.getElem_cons_succ, Act.put, List.setIfInBounds_toArray, List.set_cons_zero, List.set_cons_succ]
        refine wpAnyK_take (i := 13) (v := .int .i64 (mi : Int)) rfl (by kernel_rfl) (by kernel_rfl) (by kernel_rfl) (by kernel_rfl) (fun _ _ _ h => h) (Or.inl ⟨by rfl, fun w hSw => by go_simp⟩) hHeld ?_
        simp only [List.getElem_toArray, List.getElem_cons_zero, List.getElem_cons_succ, Act.put, List.setIfInBounds_toArray, List.set_cons_zero, List.set_cons_succ]
        refine wpAnyK_take (i := 14) (v := .slice ai mi ki) rfl (by kernel_rfl) (by kernel_rfl) (by kernel_rfl) (by kernel_rfl) (fun _ _ _ h => h) (Or.inl ⟨by rfl, fun w hSw => by go_simp⟩) hHeld ?_
        simp only [List.getElem_toArray, List.getElem_cons_zero, List.getElem_cons_succ, Act.put, List.setIfInBounds_toArray, List.set_cons_zero, List.set_cons_succ]
        refine wpAnyK_take (i := 15) (v := .pointer (some ⟨g7, i, none⟩)) rfl (by kernel_rfl) (by kernel_rfl) (by kernel_rfl) (by kernel_rfl) (fun _ _ _ h => h) (Or.inl ⟨by rfl, fun w hSw => by go_simp⟩) hHeld ?_
        simp only [List.getElem_toArray, List.getElem_cons_zero, List.getElem_cons_succ, Act.put, List.setIfInBounds_toArray, List.set_cons_zero, List.set_cons_succ]
        have y7 := hHeld.1
        refine wpAnyK_one (i := 16) (by kernel_rfl) rfl (fun K hK => ?_)
        (try simp only [List.getElem_toArray, List.getElem_cons_zero, List.getElem_cons_succ, Act.put, List.setIfInBounds_toArray, List.set_cons_zero, List.set_cons_succ])
        go_simp
        refine hK.out _ _ (fun h => absurd rfl h) (fun _ => ?_)
        clear hK K
        (try simp only [List.getElem_toArray, List.getElem_cons_zero, List.getElem_cons_succ, Act.put, List.setIfInBounds_toArray, List.set_cons_zero, List.set_cons_succ])
        refine wpAnyK_done (by kernel_rfl) ?_ _
        go_wp2_with fail
        refine ⟨⟨i + 1, by omega, by simp, HNX.out.1, HNX.out.2.1, HNX.out.2.2⟩, ?_⟩
        simp [intOf]; omega
      · obtain rfl : i = 2 := by omega
        have hii : ¬ ((2 : Nat) : Int) < 2 := by omega
        have h7' : wr.heap[g7]? = some (.cells #[.slice d.a0 m0 d.k0, .slice d.a1 m1 d.k1] 32 (0, 0)) := by simpa using h7
        obtain ⟨e1, e2, e3, e4, e5, e6, e7, e8, e9⟩ := HM.out
        have t0 : (d.l0.take PQ).length = m0 := by rw [List.length_take, e1, ← e3]; omega
        have t1 : (d.l1.take PQ).length = m1 := by rw [List.length_take, e2, ← e4]; omega
        have hN := pnew21 (w := wr) (P : Int) (Q : Int) AC ⟨by omega, by omega⟩ ⟨by omega, by omega⟩ d.a0 d.a1 (d.l0.take PQ) (d.l1.take PQ) m0 m1 d.k0 d.k1 ((HD.out.s0.old hB).take PQ) ((HD.out.s1.old hB).take PQ) t0 t1 (by omega) (by omega)
        have HSN : Hid (nw21 (P : Int).toNat (Q : Int).toNat AC (d.l0.take PQ) (d.l1.take PQ) = d.S ∧ nwE21 (P : Int) (Q : Int) AC (d.l0.take PQ).length (d.l1.take PQ).length = 0) := by
          constructor
          · have e10 := HAC.out.1
            unfold Dv22.S
            rw [← e5, ← e6, ← e7, ← e10]
            rfl
          · unfold nwE21
            have hmb : mb21 (P : Int) (Q : Int) = true := by unfold mb21; simp; omega
            have h2 : (P : Int) * (Q : Int) = (PQ : Int) := by rw [e7]; exact (Int.natCast_mul _ _).symm
            have h3 := HAC.out.2
            rw [if_neg (by rw [hmb]; simp; omega), h2, t0, t1, if_neg (by omega)]
        have HRN : Hid (∀ W : World, Below w.heap.size w W → Calls Try.prog 44 #[.int .i64 (P : Int), .int .i64 (Q : Int), .int .i64 AC, .agg #[.slice d.a0 m0 d.k0, .slice d.a1 m1 d.k1]] W fun e w' => ∃ b G, e = .returned (.tuple #[.pointer (some ⟨b, 0, none⟩), .int .i64 0]) ∧ Rl21d w' b G d.S ∧ (∀ k, G k → W.heap.size ≤ k) ∧ Below W.heap.size W w') := fun W hW => by
          have := rnew21 (w := W) P Q AC (by omega) (by omega) HAC.out.2 d.a0 d.a1 (d.l0.take PQ) (d.l1.take PQ) m0 m1 d.k0 d.k1 ((HD.out.s0.old hW).take PQ) ((HD.out.s1.old hW).take PQ) t0 t1 (by rw [← e7]; omega) (by rw [← e7]; omega)
          have e11 := HSN.out.1
          rw [show (P : Int).toNat = P by omega, show (Q : Int).toNat = Q by omega] at e11
          rw [e11] at this
          exact this
        have s0 := two_cell0 hS5
        have s1 := two_cell1 hS5
        have y0 := two_cell0 h7'
        have y1 := two_cell1 h7'
        have HB : Hid (Below w.heap.size w wr) := hB
        have HQ5 : Hid (wr.heap[gS]? = some (.cells #[.int .i64 (P : Int), .int .i64 (Q : Int)] 31 (0, 0)) ∧ wr.heap[g7]? = some (.cells #[.slice d.a0 m0 d.k0, .slice d.a1 m1 d.k1] 32 (0, 0))) := ⟨hS5, h7'⟩
        clear hB hS5 h7 h7' e1 e2 e3 e4 e5 e6 e7 e8 e9 t0 t1
        go_wp2_with fail
        refine hN.mono ?_
        rintro e w5 ⟨b5, h5⟩
        rcases h5 with ⟨h5, -⟩ | ⟨-, f, F, rfl, hF, hFw⟩
        · rw [HSN.out.2] at h5; exact absurd h5 (by decide)
        have b5' : Below w.heap.size w w5 := HB.out.trans (b5.mono HB.out.size)
        have x5 := (b5.block gS (Array.getElem?_eq_some_iff.1 HQ5.out.1).1).trans HQ5.out.1
        have x7 := (b5.block g7 (Array.getElem?_eq_some_iff.1 HQ5.out.2).1).trans HQ5.out.2
        clear s0 s1 y0 y1
        have s0 := two_cell0 x5
        have s1 := two_cell1 x5
        have y0 := two_cell0 x7
        have y1 := two_cell1 x7
        have hRN := HRN.out w5 b5'
        rw [HSN.out.1] at hF
        have HF : Hid (Fl21 w5 f F d.S ∧ (∀ k, F k → w.heap.size ≤ k) ∧ Below w.heap.size w w5) := ⟨hF, fun k e => Nat.le_trans HB.out.size (hFw k e), b5'⟩
        clear hN hF hFw x5 x7 b5 b5'
        go_wp2_with fail
        refine hRN.mono ?_
        rintro e w6 ⟨bb, G, rfl, hG, hGw, b6⟩
        have HGG : Hid (Rl21d w6 bb G d.S ∧ (∀ k, G k → w5.heap.size ≤ k) ∧ Below w5.heap.size w5 w6) := ⟨hG, hGw, b6⟩
        clear hRN hG hGw b6
        go_wp2_with fail
        refine bodyPost_ret (v := .tuple #[.pointer (some ⟨f, 0, none⟩), .pointer (some ⟨bb, 0, none⟩), .bool true]) (by first | rfl | kernel_rfl) rfl ?_
        obtain ⟨h1, h2, h3⟩ := HF.out
        obtain ⟨h4, h5, h6⟩ := HGG.out
        refine ⟨f, F, bb, G, rfl, h1.old h6, h4, h2, fun k e => Nat.le_trans h3.size (h5 k e), fun k e e2 => ?_, h3.trans (h6.mono h3.size)⟩
        have h7 := h5 k e2
        have h8 : k < w5.heap.size := by
          obtain ⟨m, c, f, ta, tc, la, lc, V, q1, q2, q3, q4, q5, q6⟩ := h1
          exact q6 k e
        omega
end Go.Proofs.Ythefcmhmcgjcoaa
