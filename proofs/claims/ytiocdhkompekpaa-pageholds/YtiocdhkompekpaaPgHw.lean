
import Derived.Test.YtiocdhkompekpaaPgH
import Derived.Deep.CutRange
namespace Go.Proofs.Ytiocdhkompekpaa
open Go.RowKit Go.Shelf
set_option linter.unusedVariables false
set_option linter.unusedSimpArgs false

/-! PageHolds, walked. -/
theorem rd22_ok {S : Fs21} (hO : Ok21 S) (hon : S.on = true) (x : Int) (hx : x = 0 ∨ x = 1) (n : Nat) (hn : n ≤ S.pg * S.ps) : rdE21 S x 0 (n : Int) = 0 := by
  have hz : sz21 S x = ((S.pg * S.ps : Nat) : Int) := by
    unfold sz21 pn21
    rw [if_neg (by omega), if_neg (by omega), Int.mul_comm]
    exact (Int.natCast_mul _ _).symm
  have h1 : 0 < S.pg * S.ps := Nat.mul_pos (by have := hO.pg; omega) (by have := hO.ps; omega)
  unfold rdE21
  rw [hz, if_neg (by rw [hon]; simp), if_neg (by omega)]
theorem nw22_bd (p q : Nat) (ac : Int) (L0 L1 : List Int) (h0 : ∀ z ∈ L0, 0 ≤ z ∧ z ≤ 255) (h1 : ∀ z ∈ L1, 0 ≤ z ∧ z ≤ 255) (x : Int) (a n : Nat) : ∀ z ∈ rb21 (nw21 p q ac L0 L1) x a n, 0 ≤ z ∧ z ≤ 255 := by
  have hb : ∀ y, ∀ z ∈ (sh21 (nw21 p q ac L0 L1) x y).b, 0 ≤ z ∧ z ≤ 255 := fun y z hz => by
    unfold sh21 nw21 pj21 at hz
    simp only at hz
    split at hz
    · unfold ck21 at hz
      split at hz
      · have hz2 : z ∈ Ls21 L0 L1 x := List.mem_of_mem_drop (List.mem_of_mem_take hz)
        unfold Ls21 at hz2
        split at hz2
        · exact h0 z hz2
        · exact h1 z hz2
      · simp at hz
    · simp at hz
  intro z hz
  unfold rb21 at hz
  simp only [List.mem_map] at hz
  obtain ⟨i, _, rfl⟩ := hz
  unfold pb21
  rw [List.getD]
  cases e : (sh21 (nw21 p q ac L0 L1) x ((((a + i) / (nw21 p q ac L0 L1).pg : Nat)) : Int)).b[(a + i) % (nw21 p q ac L0 L1).pg]? with
  | none => simp
  | some y => simpa using hb _ y (List.mem_of_getElem? e)
theorem seg_take22 {w : World} {q : Nat} {cur : List Value} {t : TypeId} {zs : List Int} (h : w.heap[q]? = some (.cells cur.toArray t (0, 0))) (ht : cur.take zs.length = zs.map (Value.int .u8)) (hz : ∀ z ∈ zs, 0 ≤ z ∧ z ≤ 255) : Seg w (some ⟨q, 0, none⟩) zs := by
  refine ⟨fun i hi => ⟨q, 0, rfl, ?_⟩, by decide, getD_bd (by decide) hz⟩
  have e : cur[i]? = some (.int .u8 (zs.getD i 0)) := by
    have h1 : (cur.take zs.length)[i]? = cur[i]? := by rw [List.getElem?_take, if_pos hi]
    rw [← h1, ht]
    simp [List.getD, hi]
  simp [World.cell?, h, e]
theorem rw_seg22 {w : World} {g : Nat} {zs : List Int} (h : Rw21 w g zs) (hb : ∀ z ∈ zs, 0 ≤ z ∧ z ≤ 255) : Seg w (some ⟨g, 0, none⟩) zs := by
  obtain ⟨X, hX⟩ := h
  refine seg_take22 (cur := (zs ++ X).map (Value.int .u8)) hX ?_ hb
  rw [List.map_append, List.take_append_of_le_length (by simp), List.take_of_length_le (by simp)]
theorem Hw22.app {w w1 w2 : World} {v s g f g8 gb p q : Nat} {B0 : List Int} {S0 : Fs21} {ar : Int} {L L' : List Int} {F : Nat → Prop} {S : Fs21} {P : Pw22} {ra ra2 : Option Addr} {rc rc2 n2 : Nat}
    (pe : Pe22 w1 v s g f F S P) (hp : Hp22 S0 S P ar L') (wn : P.wn = L'.length) (le : L'.length ≤ S0.pg * S0.ps) (fN : ∀ k, F k → w.heap.size ≤ k) (sN : w.heap.size ≤ s ∧ w.heap.size ≤ g ∧ w.heap.size ≤ v) (bl : Below w.heap.size w w1)
    (s8 : w1.heap[g8]? = some (.cells #[.int .i64 (p : Int), .int .i64 (q : Int)] 62 (0, 0))) (n8 : ¬ F g8) (sb : Rw21 w1 gb B0) (nb : ¬ F gb ∧ gb ≠ g) (ow : w1.ownsRow w.heap.size 5 1 (.slice ra L.length rc) L.length (L.map (Value.int .u8))) (no : ∀ r, (Value.slice ra L.length rc).ownBlock = some r → ¬ F r ∧ r ≠ g ∧ r ≠ gb)
    (hn2 : n2 = L'.length) (ow2 : w2.ownsRow w.heap.size 5 1 (.slice ra2 n2 rc2) n2 (L'.map (Value.int .u8))) (hg : w1.grownBy w2 (Value.slice ra L.length rc).ownBlock) (hf : Fresh w1 (.slice ra L.length rc) (.slice ra2 n2 rc2)) (mL : ∀ z ∈ L', 0 ≤ z ∧ z ≤ 255) :
    Hw22 w w2 v s g f g8 gb p q B0 S0 ar L' F S P ra2 rc2 := by
  subst hn2
  obtain ⟨Y, hY, _⟩ := pe.wr.hg
  obtain ⟨X, hX⟩ := sb
  have hs := pe.wr.hs
  have hv := pe.wr.hv
  have hFs : ∀ k, F k → k < w1.heap.size := by
    obtain ⟨m, c, f, ta, tc, la, lc, V, q1, q2, q3, q4, q5, q6⟩ := pe.fl
    exact q6
  have hrow : ∀ r, (Value.slice ra L.length rc).ownBlock = some r → w.heap.size ≤ r ∧ ∃ cu : Array Value, w1.heap[r]? = some (Obj.cells cu 5 (0, 0)) := fun r hr => by
    rcases ow.2 with ⟨h1, _⟩ | ⟨q', cp, cu, h1, h2, h3, _⟩
    · rw [h1] at hr; cases hr
    · rw [h1] at hr
      simp [Value.ownBlock] at hr
      subst hr
      exact ⟨h2, cu, h3⟩
  have hkp : Kp (fun j => (Value.slice ra L.length rc).ownBlock = some j) w1 w2 := Kp.grown hg (fun i e => e)
  have hne : ∀ (k : Nat) (ck : Array Value) (tk : TypeId), w1.heap[k]? = some (Obj.cells ck tk (0, 0)) → tk ≠ 5 → ¬ (Value.slice ra L.length rc).ownBlock = some k := fun k ck tk e1 hnt e => by
    obtain ⟨_, cu, e2⟩ := hrow k e
    rw [e1] at e2; injection e2 with e2; injection e2 with _ e2 _; exact hnt e2
  refine ⟨⟨pe.fl.kp (fun k e => hkp.block k (hFs k e) (fun e2 => (no k e2).1 e)) hkp.size, pe.wr.kpk hkp (hne _ _ _ hv (by decide)) (hne _ _ _ hs (by decide)) (fun e => (no g e).2.1 rfl), pe.nv, pe.ns, pe.ng⟩, hp, wn, le, fN, sN, bl.trans (hkp.below (fun i e => (hrow i e).1) bl.size), (hkp.block g8 (Array.getElem?_eq_some_iff.1 s8).1 (hne _ _ _ s8 (by decide))).trans s8, n8, ⟨X, (hkp.block gb (Array.getElem?_eq_some_iff.1 hX).1 (fun e => (no gb e).2.2 rfl)).trans hX⟩, nb, ow2, fun r hr => ?_, mL⟩
  rcases hf r hr with e | e
  · exact no r e
  · refine ⟨fun q => by have := hFs r q; omega, fun q => ?_, fun q => ?_⟩
    · have := (Array.getElem?_eq_some_iff.1 hY).1; omega
    · have := (Array.getElem?_eq_some_iff.1 hX).1; omega
set_option maxRecDepth 100000 in
set_option maxHeartbeats 32000000 in
theorem pageHolds_walk (w : World) (d : Dv22) (hd : Df22 w d) (pa : Option Addr) (ps : List Part) (pc : Nat) (hps : Parts w pa ps) (hpn : ∀ i, (ps.getD i noPart).zs.length ≤ (ps.getD i noPart).cap) (hnil : ∀ i, (ps.getD i noPart).a = none → (ps.getD i noPart).cap = 0) (hpl : ∀ i, (ps.getD i noPart).zs.length ≤ 140737488351232) (hln : ps.length ≤ 140737488351232) :
    Calls Try.prog 6 #[.agg #[.int .u64 (d.p : Int), .int .u64 (d.q : Int), .bool d.ac, .slice d.a0 d.l0.length d.k0, .slice d.a1 d.l1.length d.k1], .slice pa ps.length pc] w fun e w' => e = .returned (.bool true) ∧ Below w.heap.size w w' := by
  obtain ⟨w1, hw1⟩ : ∃ w1, w1 = w.alloc (.cells #[.int .u64 (d.p : Int), .int .u64 (d.q : Int), .bool d.ac, .slice d.a0 d.l0.length d.k0, .slice d.a1 d.l1.length d.k1] 29) := ⟨_, rfl⟩
  have HW1 : Hid (w.alloc (.cells #[.int .u64 (d.p : Int), .int .u64 (d.q : Int), .bool d.ac, .slice d.a0 d.l0.length d.k0, .slice d.a1 d.l1.length d.k1] 29) = w1) := hw1.symm
  have b1 : Below w.heap.size w w1 := by rw [hw1]; exact (Below.refl _ _).alloc (Nat.le_refl _) _
  obtain ⟨g1, hg1⟩ : ∃ g1, g1 = w.heap.size := ⟨_, rfl⟩
  have HG1 : Hid (w.heap.size = g1) := hg1.symm
  have q1 : w1.heap[g1]? = some (.cells #[.int .u64 (d.p : Int), .int .u64 (d.q : Int), .bool d.ac, .slice d.a0 d.l0.length d.k0, .slice d.a1 d.l1.length d.k1] 29 (0, 0)) := by rw [hw1, hg1]; exact heap_alloc_new _ _
  have c0 : w1.cell? ⟨g1, 0, none⟩ = some (.int .u64 (d.p : Int)) := by simp [World.cell?, q1]
  have c1 : w1.cell? ⟨g1, 1, none⟩ = some (.int .u64 (d.q : Int)) := by simp [World.cell?, q1]
  have c2 : w1.cell? ⟨g1, 2, none⟩ = some (.bool d.ac) := by simp [World.cell?, q1]
  have c3 : w1.cell? ⟨g1, 3, none⟩ = some (.slice d.a0 d.l0.length d.k0) := by simp [World.cell?, q1]
  have c4 : w1.cell? ⟨g1, 4, none⟩ = some (.slice d.a1 d.l1.length d.k1) := by simp [World.cell?, q1]
  have hMD := pmade22 d w1 ⟨hd.s0.old b1, hd.s1.old b1, hd.z0, hd.z1, hd.n0, hd.n1, hd.p, hd.q⟩
  have hO := d.ok
  have hbd := d.bd
  have hpp := hp22_new d.P d.Q d.A (d.l0.take (d.P * d.Q)) (d.l1.take (d.P * d.Q)) (by omega) (by omega) (by unfold Dv22.A; split <;> omega)
  have hAC : d.S.ac = d.A := rfl
  obtain ⟨S0, hS0⟩ : ∃ S0, S0 = d.S := ⟨_, rfl⟩
  have hpp' : Hp22 S0 S0 ⟨1 - S0.ac, [], 0, 0, 0⟩ (1 - S0.ac) [] := by rw [hS0]; exact hpp
  rw [← hS0] at hO
  obtain ⟨P, hP⟩ : ∃ P, P = S0.pg := ⟨_, rfl⟩
  obtain ⟨Q, hQ⟩ : ∃ Q, Q = S0.ps := ⟨_, rfl⟩
  obtain ⟨PQ, hPQ⟩ : ∃ PQ, PQ = P * Q := ⟨_, rfl⟩
  have hPd : P = d.P := by rw [hP, hS0]; rfl
  have hQd : Q = d.Q := by rw [hQ, hS0]; rfl
  rw [← hPd, ← hQd, ← hPQ] at hbd
  have hmul : IntKind.i64.wrap ((P : Int) * (Q : Int)) = (PQ : Int) := by
    have e : (P : Int) * (Q : Int) = (PQ : Int) := by rw [hPQ]; exact (Int.natCast_mul _ _).symm
    rw [e, IntWalk.i64_in _ (by omega)]
  have HB1 : Hid (Below w.heap.size w w1) := b1
  have HPQ : Hid (PQ = P * Q ∧ P = S0.pg ∧ Q = S0.ps ∧ Ok21 S0 ∧ S0.on = true ∧ (S0.ac = 0 ∨ S0.ac = 1) ∧ PQ = S0.pg * S0.ps) := ⟨hPQ, hP, hQ, hO, by rw [hS0]; rfl, hO.ac, by rw [hPQ, hP, hQ]⟩
  have HPP : Hid (Hp22 S0 S0 ⟨1 - S0.ac, [], 0, 0, 0⟩ (1 - S0.ac) []) := hpp'
  have HPS : Hid (Parts w pa ps ∧ (∀ i, (ps.getD i noPart).zs.length ≤ (ps.getD i noPart).cap) ∧ (∀ i, (ps.getD i noPart).a = none → (ps.getD i noPart).cap = 0) ∧ (∀ i, (ps.getD i noPart).zs.length ≤ 140737488351232)) := ⟨hps, hpn, hnil, hpl⟩
  have HAW : Hid (∀ W : World, Calls Try.prog 9 #[] W fun e w' => e = .returned (.bool true) ∧ Below W.heap.size W w') := pawk22
  have HSS : Hid (d.S = S0) := hS0.symm
  have HBD : Hid (∀ (x : Int) (a n : Nat), ∀ z ∈ rb21 S0 x a n, 0 ≤ z ∧ z ≤ 255) := fun x a n => by
    rw [hS0]
    exact nw22_bd _ _ _ _ _ (fun z hz => hd.s0.mem z (List.mem_of_mem_take hz)) (fun z hz => hd.s1.mem z (List.mem_of_mem_take hz)) x a n
  obtain ⟨LN, hLN⟩ : ∃ LN, LN = ps.length := ⟨_, rfl⟩
  rw [← hLN]
  rw [← hLN] at hln
  have HLN : Hid (LN = ps.length) := hLN
  clear hw1 b1 hg1 q1 hpp hpp' hAC hPd hQd hPQ hP hQ hS0 hps hpn hnil hpl hd hO hLN
  go_enter Try.func6, Try.ntmps6
  go_upto_region 1 with fail
  rw [HW1.out, HG1.out]
  go_wp2_with fail
  refine hMD.mono ?_
  rintro e w2 ⟨f, F, gd, G, rfl, hF, hG, hFw, hGw, hFG, b2⟩
  rw [HSS.out] at hF
  have b2' : Below w.heap.size w w2 := HB1.out.trans (b2.mono HB1.out.size)
  have HF2 : Hid (Fl21 w2 f F S0 ∧ (∀ k, F k → w.heap.size ≤ k) ∧ Below w.heap.size w w2) := ⟨hF, fun k e => Nat.le_trans HB1.out.size (hFw k e), b2'⟩
  clear hMD hF hG hFw hGw hFG b2 b2' c0 c1 c2 c3 c4
  go_wp2_with fail
  refine (HAW.out _).mono ?_
  rintro e w3 ⟨rfl, b3⟩
  have HF3 : Hid (Fl21 w3 f F S0 ∧ Below w.heap.size w w3) := ⟨HF2.out.1.old b3, HF2.out.2.2.trans (b3.mono HF2.out.2.2.size)⟩
  have hSH := pshp22 HF3.out.1 HPQ.out.2.2.2.1
  rw [← HPQ.out.2.1, ← HPQ.out.2.2.1] at hSH
  clear b3
  go_wp2_with fail
  refine hSH.mono ?_
  rintro e w4 ⟨rfl, b4⟩
  obtain ⟨g8, hg8⟩ : ∃ g8, g8 = w4.heap.size := ⟨_, rfl⟩
  obtain ⟨w5, hw5⟩ : ∃ w5, w5 = w4.alloc (.cells #[.int .i64 (P : Int), .int .i64 (Q : Int)] 62) := ⟨_, rfl⟩
  have HW5 : Hid (w4.alloc (.cells #[.int .i64 (P : Int), .int .i64 (Q : Int)] 62) = w5) := hw5.symm
  have HG8 : Hid (w4.heap.size = g8) := hg8.symm
  have q8 : w5.heap[g8]? = some (.cells #[.int .i64 (P : Int), .int .i64 (Q : Int)] 62 (0, 0)) := by rw [hw5, hg8]; exact heap_alloc_new _ _
  have b5 : Below w3.heap.size w3 w5 := by rw [hw5]; exact b4.alloc b4.size _
  have HF5 : Hid (Fl21 w5 f F S0 ∧ Below w.heap.size w w5 ∧ ¬ F g8) := by
    refine ⟨HF3.out.1.old b5, HF3.out.2.trans (b5.mono HF3.out.2.size), fun e => ?_⟩
    have h6 : g8 < w2.heap.size := by
      obtain ⟨m, c, f, ta, tc, la, lc, V, q1, q2, q3, q4, q5, q6⟩ := HF2.out.1
      exact q6 g8 e
    have : w2.heap.size ≤ w3.heap.size := by
      obtain ⟨m, c, f, ta, tc, la, lc, V, q1, q2, q3, q4, q5, q6⟩ := HF3.out.1
      have := q6 g8 e
      have := b4.size
      omega
    have := b4.size
    omega
  have HQ8 : Hid (w5.heap[g8]? = some (.cells #[.int .i64 (P : Int), .int .i64 (Q : Int)] 62 (0, 0))) := q8
  have hAT := pact22 HF5.out.1 HPQ.out.2.2.2.1
  have s0 := two_cell0 q8
  have s1 := two_cell1 q8
  obtain ⟨AC, hAC⟩ : ∃ AC, AC = S0.ac := ⟨_, rfl⟩
  rw [← hAC] at hAT
  have HAC : Hid (AC = S0.ac ∧ (AC = 0 ∨ AC = 1)) := ⟨hAC, by rw [hAC]; exact HPQ.out.2.2.2.2.2.1⟩
  have hRD := pread21 HF5.out.1 HPQ.out.2.2.2.1 AC 0 (PQ : Int) (by have := HAC.out.2; exact ⟨by omega, by omega⟩) ⟨by omega, by omega⟩ ⟨by omega, by omega⟩
  clear hg8 hw5 b4 b5 hSH q8 hAC
  go_upto_region 5 with fail
  rw [HW5.out, HG8.out]
  go_wp2_with fail
  refine hAT.mono ?_
  rintro e w6 ⟨rfl, hw6⟩
  subst w6
  go_wp2_with fail
  refine hRD.mono ?_
  rintro e w6 ⟨b6, h6⟩
  rcases h6 with ⟨h6, -⟩ | ⟨-, gb, rfl, hgb, hrw⟩
  · exact absurd (rd22_ok HPQ.out.2.2.2.1 HPQ.out.2.2.2.2.1 AC HAC.out.2 PQ (by rw [HPQ.out.2.2.2.2.2.2]; exact Nat.le_refl _)) h6
  rw [show (0 : Int).toNat = 0 from rfl, show ((PQ : Int)).toNat = PQ by omega] at hrw
  rw [show ((PQ : Int)).toNat = PQ by omega]
  obtain ⟨B0, hB0⟩ : ∃ B0, B0 = rb21 S0 AC 0 PQ := ⟨_, rfl⟩
  rw [← hB0] at hrw
  have HB0 : Hid (B0 = rb21 S0 AC 0 PQ) := hB0
  have HF6 : Hid (Fl21 w6 f F S0 ∧ Below w.heap.size w w6 ∧ Below w5.heap.size w5 w6 ∧ Rw21 w6 gb B0 ∧ w5.heap.size ≤ gb) := ⟨HF5.out.1.old b6, HF5.out.2.1.trans (b6.mono HF5.out.2.1.size), b6, hrw, hgb⟩
  have hNW := pnw22 HF6.out.1 HPQ.out.2.2.2.1
  clear b6 hrw hgb hB0 hAT hRD s0 s1
  go_wp2_with fail
  refine hNW.mono ?_
  rintro e w7 ⟨v, s, g, rfl, q7, b7, z1, z2, z3⟩
  have HI0 : Hid (Hw22 w w7 v s g f g8 gb P Q B0 S0 (1 - AC) [] F S0 ⟨1 - AC, [], 0, 0, 0⟩ none 0) := by
    obtain ⟨h61, h62, h63, ⟨X, h64⟩, h65⟩ := HF6.out
    have hFs : ∀ k, F k → k < w5.heap.size := by
      obtain ⟨m, c, f, ta, tc, la, lc, V, q1, q2, q3, q4, q5, q6⟩ := HF5.out.1
      exact q6
    have hAC := HAC.out.1
    have hlb := (Array.getElem?_eq_some_iff.1 h64).1
    refine ⟨by rw [hAC]; exact q7, by rw [hAC]; exact HPP.out, rfl, by simp, HF2.out.2.1, ⟨by have := h62.size; omega, by have := h62.size; omega, by have := h62.size; omega⟩, h62.trans (b7.mono h62.size), ?_, HF5.out.2.2, ⟨X, (b7.block gb hlb).trans h64⟩, ⟨fun e => by have := hFs gb e; omega, by omega⟩, World.ownsRow_nil _ _ _ _, fun r e => by simp [Value.ownBlock] at e, by simp⟩
    have hl8 := (Array.getElem?_eq_some_iff.1 HQ8.out).1
    rw [b7.block g8 (by have := h63.size; omega), h63.block g8 hl8]
    exact HQ8.out
  clear hNW q7 b7 z1 z2 z3
  go_wp2_with fail
  go_loopw [14, 15] (fun ta ti wr => ∃ (i : Nat) (L : List Int) (F : Nat → Prop) (S : Fs21) (Pw : Pw22) (ra : Option Addr) (rc : Nat), i ≤ LN ∧ ti = .int .i64 (i : Int) ∧ ta = .slice ra L.length rc ∧ Hw22 w wr v s g f g8 gb P Q B0 S0 (1 - AC) L F S Pw ra rc) (fun _ ti _ => LN - (intOf ti).toNat)
  case atStart => exact ⟨0, [], F, S0, _, none, 0, by omega, rfl, rfl, HI0.out⟩
  case round =>
    obtain ⟨i, L, F', S, Pw, ra, rc, hiL, rfl, rfl, hH⟩ := hrel
    by_cases hi : i < LN
    · have hii : (i : Int) < (LN : Int) := by omega
      have hiw : IntKind.i64.wrap ((i : Int) + 1) = ((i + 1 : Nat) : Int) := by rw [IntWalk.i64_in _ (by omega)]; omega
      obtain ⟨pb, po, hpa, hpc⟩ := HPS.out.1.at_ i (by rw [← HLN.out]; exact hi)
      have hsg := HPS.out.1.seg i (by rw [← HLN.out]; exact hi)
      have hcp := HPS.out.2.1 i
      have hnl := HPS.out.2.2.1 i
      have hml := HPS.out.2.2.2 i
      obtain ⟨pt, hpt⟩ : ∃ pt, pt = ps.getD i noPart := ⟨_, rfl⟩
      rw [← hpt] at hpc hsg hcp hnl hml
      obtain ⟨AM, M, MC⟩ := pt
      simp only [Part.val] at hpc hsg hcp hnl hml
      obtain ⟨ML, hML⟩ : ∃ ML, ML = M.length := ⟨_, rfl⟩
      rw [← hML] at hpc hcp hml
      subst hpa
      have hplt := World.block_lt_of_cell? w _ hpc
      have HPC : Hid (∀ W : World, Below w.heap.size w W → W.cell? ⟨pb, po + i, none⟩ = some (.slice AM ML MC)) := fun W hW => (hW.cell (p := ⟨pb, po + i, none⟩) hplt).trans hpc
      have HSGM : Hid (∀ W : World, Below w.heap.size w W → Seg W AM M) := fun W hW => hsg.old hW
      have pcell := HPC.out wr hH.bl
      have hpos := hH.hp.pn
      have hle := hH.le
      have hPQe := HPQ.out.2.2.2.2.2.2
      have hpg := HPQ.out.2.2.2.1.pg
      have hpnb : Pw.pn ≤ 288 := by
        have : Pw.pn * 1 ≤ Pw.pn * S0.pg := Nat.mul_le_mul_left _ (by omega)
        omega
      have HML : Hid (ML = M.length) := hML
      have hWRT := pwr22 hH.pe hH.hp.ok (by rw [hH.hp.ea]; have := HAC.out.2; exact ⟨by omega, by omega⟩) (by omega) (by rw [hH.wn]; omega) (by rw [hH.hp.lg]; omega) (fun _ => by rw [hH.hp.pg]; exact hH.hp.lt) AM M ML MC (hsg.old hH.bl) hML.symm hcp (by omega) (fun x off e h0 => by
        obtain ⟨b', o', e', hc⟩ := hsg.at_ 0 (by omega)
        rw [e] at e'; cases e'
        have hx : x < w.heap.size := World.block_lt_of_cell? w _ hc
        refine ⟨fun q => by have := hH.fN x q; omega, ?_, ?_⟩
        · have := hH.sN.1; omega
        · have := hH.sN.2.1; omega)
      have hwrr := hp22_wr hH.hp (by have := HAC.out.2; omega) hH.wn hH.le M
      rw [← hPQe, ← hML] at hwrr
      obtain ⟨LL, hLL⟩ : ∃ LL, LL = L.length := ⟨_, rfl⟩
      have hLb : LL ≤ PQ := by rw [hLL, hPQe]; exact hle
      obtain ⟨SM, hSM⟩ : ∃ SM, SM = LL + ML := ⟨_, rfl⟩
      have hadd : (LL : Int) + (ML : Int) = (SM : Int) := by omega
      have hwadd : IntKind.i64.wrap (SM : Int) = (SM : Int) := IntWalk.i64_in _ (by omega)
      have HH : Hid (Hw22 w wr v s g f g8 gb P Q B0 S0 (1 - AC) L F' S Pw ra rc) := hH
      have HLL : Hid (LL = L.length ∧ SM = LL + ML ∧ LL ≤ PQ) := ⟨hLL, hSM, hLb⟩
      rw [← hLL]
      rw [← hLL] at hwrr
      rw [← hSM] at hwrr
      by_cases hbig : PQ < SM
      · have hbigi : (PQ : Int) < (SM : Int) := by omega
        rw [if_pos hbig] at hwrr
        rw [hwrr.1, hwrr.2.1, hwrr.2.2] at hWRT
        clear hpos hle hpg hML hLL hSM hcp hnl hml hsg hpt hpc hH hwrr hpnb hPQe
        go_wp2_with fail
        refine hWRT.mono ?_
        rintro e w9 ⟨rfl, hn9⟩
        have hH := HH.out
        obtain ⟨F9, pe9, fN9, bl9, s89, n89, sb9, nb9, ow9, no9⟩ := hH.put hn9
        have HN9 : Hid (Hw22 w w9.drew v s g f g8 gb P Q B0 S0 (1 - AC) L F9 S Pw ra rc) := (Hw22.mk pe9 hH.hp hH.wn hH.le fN9 hH.sN bl9 s89 n89 sb9 ⟨nb9, hH.nb.2⟩ ow9 no9 hH.mL).old (Below.refl _ _).drew
        have hWN := pwn22 HN9.out.pe.wr
        rw [HN9.out.wn, ← HLL.out.1] at hWN
        have s0 : w9.drew.cell? ⟨g8, 0, none⟩ = some (.int .i64 (P : Int)) := two_cell0 s89
        have s1 : w9.drew.cell? ⟨g8, 1, none⟩ = some (.int .i64 (Q : Int)) := two_cell1 s89
        have pc9 : w9.drew.cell? ⟨pb, po + i, none⟩ = some (.slice AM ML MC) := HPC.out w9 bl9
        clear hWRT hn9 pe9 fN9 bl9 s89 n89 sb9 nb9 ow9 no9 hH pcell
        go_wp2_with fail
        refine still_all22 (by kernel_rfl) (by kernel_rfl) ?_
        repeat still_step
        refine wpStill_nil ?_
        go_wp2_with fail
        refine hWN.mono ?_
        rintro e w10 ⟨rfl, hw10⟩
        subst w10
        go_wp2_with fail
        go_roundw
        case rel => exact ⟨i + 1, L, F9, S, Pw, ra, rc, by omega, by go_num, by rw [← HLL.out.1], HN9.out⟩
        case measure => simp [intOf]; omega
      · have hbigi : ¬ (PQ : Int) < (SM : Int) := by omega
        rw [if_neg hbig] at hwrr
        obtain ⟨wr1, wr2, wr3⟩ := hwrr
        rw [wr1] at hWRT
        have hLM : (L ++ M).length = SM := by rw [List.length_append, ← hLL, ← hML, hSM]
        have hSMle : (L ++ M).length ≤ S0.pg * S0.ps := by rw [hLM, ← hPQe]; omega
        have HWR : Hid (Hp22 S0 (wrS22 S Pw M) (wrP22 S Pw M) (1 - AC) (L ++ M) ∧ (wrP22 S Pw M).wn = (L ++ M).length ∧ (L ++ M).length ≤ S0.pg * S0.ps ∧ (L ++ M).length = SM) := ⟨wr2, wr3, hSMle, hLM⟩
        obtain ⟨i0, hi0, hz0, hz1, hz2⟩ := info_parts info_y21
        have HMM : Hid (∀ z ∈ L ++ M, 0 ≤ z ∧ z ≤ 255) := fun z hz => by
          rcases List.mem_append.1 hz with e | e
          · exact hH.mL z e
          · exact hsg.mem z e
        clear hpos hle hpg hML hLL hSM hcp hml hsg hpt hpc hH hpnb hPQe wr1 wr2 wr3 hLM hSMle
        generalize wrS22 S Pw M = S' at hWRT HWR
        generalize wrP22 S Pw M = P' at hWRT HWR
        go_wp2_with fail
        refine hWRT.mono ?_
        rintro e w9 ⟨rfl, hn9⟩
        have hH := HH.out
        obtain ⟨F9, pe9, fN9, bl9, s89, n89, sb9, nb9, ow9, no9⟩ := hH.put hn9
        have hd9 : Below w9.heap.size w9 w9.drew := (Below.refl _ _).drew
        obtain ⟨X9, hX9⟩ := sb9
        have bl9d : Below w.heap.size w w9.drew := bl9.trans (hd9.mono bl9.size)
        have own9 : w9.drew.ownsRow w.heap.size 5 1 (.slice ra LL rc) LL (L.map (Value.int .u8)) := by rw [HLL.out.1]; exact ⟨ow9.1, ow9.2⟩
        have hs9 : Seg w9.drew AM M := HSGM.out _ bl9d
        have HAPP : Hid (∀ (a1 : Option Addr) (c1 : Nat) (w10 : World), w10.ownsRow w.heap.size 5 1 (.slice a1 SM c1) SM ((L ++ M).map (Value.int .u8)) → w9.drew.grownBy w10 (Value.slice ra LL rc).ownBlock → Fresh w9.drew (.slice ra LL rc) (.slice a1 SM c1) → Hw22 w w10 v s g f g8 gb P Q B0 S0 (1 - AC) (L ++ M) F9 S' P' a1 c1) := fun a1 c1 w10 h1 h2 h3 => by
          have eLL := HLL.out.1
          have own9' := own9
          rw [eLL] at h2 h3 own9'
          exact Hw22.app (pe9.old hd9) HWR.out.1 HWR.out.2.1 HWR.out.2.2.1 fN9 hH.sN bl9d s89 n89 ⟨X9, hX9⟩ ⟨nb9, hH.nb.2⟩ own9' no9 HWR.out.2.2.2.symm h1 h2 h3 HMM.out
        have s0 : w9.drew.cell? ⟨g8, 0, none⟩ = some (.int .i64 (P : Int)) := two_cell0 s89
        have s1 : w9.drew.cell? ⟨g8, 1, none⟩ = some (.int .i64 (Q : Int)) := two_cell1 s89
        have pc9 : w9.drew.cell? ⟨pb, po + i, none⟩ = some (.slice AM ML MC) := HPC.out w9 bl9
        have hws : w.heap.size ≤ w9.drew.heap.size := bl9d.size
        have hbse : LL + ML = SM := HLL.out.2.1.symm
        have HBSE : Hid (LL + ML = SM ∧ SM ≤ 288) := ⟨hbse, by have := hbd.2.2.2.2; omega⟩
        have eML := HML.out
        subst eML
        obtain ⟨DV, hDV⟩ : ∃ DV, DV = SM / P := ⟨_, rfl⟩
        obtain ⟨NN, hNN⟩ : ∃ NN, NN = DV * P := ⟨_, rfl⟩
        have hNS : NN ≤ SM := by rw [hNN, hDV]; exact Nat.div_mul_le_self SM P
        have hDS : DV ≤ SM := by rw [hDV]; exact Nat.div_le_self SM P
        have hSMb := HBSE.out.2
        have t1 : Int.tdiv (SM : Int) (P : Int) = (DV : Int) := by rw [hDV]; rfl
        have t2 : IntKind.i64.wrap (DV : Int) = (DV : Int) := IntWalk.i64_in _ (by omega)
        have t3 : IntKind.i64.wrap ((DV : Int) * (P : Int)) = (NN : Int) := by
          have e : (DV : Int) * (P : Int) = (NN : Int) := by rw [hNN]; exact (Int.natCast_mul _ _).symm
          rw [e, IntWalk.i64_in _ (by omega)]
        have t4 : Int.tdiv (NN : Int) (P : Int) = (DV : Int) := by
          have e : (NN : Int).tdiv (P : Int) = ((NN / P : Nat) : Int) := rfl
          rw [e, hNN, Nat.mul_div_cancel _ (by omega)]
        have p0 : ¬ P = 0 := by omega
        have p0' : ((P : Int) == 0) = false := by simp [p0]
        have p0'' : ¬ (P : Int) = 0 := by omega
        have hac : IntKind.i64.wrap (1 - AC) = 1 - AC := by rw [IntWalk.i64_in _ (by have := HAC.out.2; omega)]
        have HDV : Hid (DV = SM / P ∧ NN = DV * P ∧ NN ≤ SM) := ⟨hDV, hNN, hNS⟩
        clear hWRT hn9 pe9 fN9 bl9 s89 n89 nb9 ow9 no9 hH pcell hX9 hd9 hDV hNN hbse hDS
        go_wp2_with fail
        refine still_all22 (by kernel_rfl) (by kernel_rfl) ?_
        repeat still_step
        refine wpStill_nil ?_
        go_upto_region 19 with (first
          | (at_builtin; refine wpList_appS rfl (.tmp 97) (.tmp 101) 26 rfl w.heap.size 5 i0 (.int .u8 0) 1 Try.underlying26 hi0 hz0 hz1 hz2 rfl own9 hs9 hnl rfl rfl (by omega) (by omega) hws ?_; intro a1 c1 w10 hown10 hg10 hf10 hn10))
        rw [← List.map_append] at hown10
        rw [HBSE.out.1] at hown10 hf10
        rw [HBSE.out.1]
        have hH10 := HAPP.out a1 c1 w10 hown10 hg10 hf10
        have HH10 : Hid (Hw22 w w10 v s g f g8 gb P Q B0 S0 (1 - AC) (L ++ M) F9 S' P' a1 c1) := hH10
        have r0 : w10.drew.cell? ⟨g8, 0, none⟩ = some (.int .i64 (P : Int)) := two_cell0 hH10.s8
        have hRD := pread21 (hH10.old (Below.refl _ _).drew).pe.fl hH10.hp.ok (1 - AC) 0 (NN : Int) (by have := HAC.out.2; exact ⟨by omega, by omega⟩) ⟨by omega, by omega⟩ ⟨by omega, by omega⟩
        have hpnn := hp22_pn hH10.hp
        rw [HWR.out.2.2.2, ← HPQ.out.2.1, ← HDV.out.1, ← HDV.out.2.1] at hpnn
        have hrd := hp22_rd hH10.hp
        rw [← HPQ.out.2.1, ← hpnn.2] at hrd
        have HPN : Hid (DV = P'.pn ∧ rb21 S' (1 - AC) 0 NN = (L ++ M).take NN) := ⟨hpnn.1, hrd⟩
        have HSG10 : Hid (∀ W : World, Below w10.heap.size w10 W → Seg W a1 ((L ++ M).take NN)) := fun W hW => by
          have hc := cl21_own hown10 HMM.out
          exact (hc.1.old hW).take NN
        have hcap : SM ≤ c1 := by
          have hc := cl21_own hown10 HMM.out
          have := hc.2.2.2; rw [HWR.out.2.2.2] at this; exact this
        have hsl := slice_hi22 a1 SM c1 NN hcap (by omega) (by have hc := cl21_own hown10 HMM.out; exact hc.2.2.1)
        clear own9 hs9 pc9 s0 s1 hown10 hg10 hf10 hn10 hH10 hpnn hrd hcap
        go_wp2_with fail
        refine still_all22 (by kernel_rfl) (by kernel_rfl) ?_
        repeat still_step
        refine wpStill_nil ?_
        go_wp2_with fail
        refine hRD.mono ?_
        rintro e w11 ⟨b11, h11⟩
        have hH10 := HH10.out.old (Below.refl _ _).drew
        rcases h11 with ⟨h11, -⟩ | ⟨-, gg, rfl, hgg, hrw⟩
        · exact absurd (rd22_ok hH10.hp.ok hH10.hp.qt.on (1 - AC) (by have := HAC.out.2; omega) NN (by rw [hH10.hp.pg, hH10.hp.ps, ← HPQ.out.2.2.2.2.2.2]; have := HDV.out.2.2; omega)) h11
        rw [show (0 : Int).toNat = 0 from rfl, show ((NN : Int)).toNat = NN by omega, HPN.out.2] at hrw
        rw [show ((NN : Int)).toNat = NN by omega]
        have hlT : ((L ++ M).take NN).length = NN := by rw [List.length_take, HWR.out.2.2.2]; have := HDV.out.2.2; omega
        have hmT : ∀ z ∈ (L ++ M).take NN, 0 ≤ z ∧ z ≤ 255 := fun z hz => HMM.out z (List.mem_of_mem_take hz)
        have hb11 : Below w10.heap.size w10 w11 := (Below.refl _ _).drew.trans (a := w10) b11
        have HH11 : Hid (Hw22 w w11.drew v s g f g8 gb P Q B0 S0 (1 - AC) (L ++ M) F9 S' P' a1 c1) := (hH10.old b11).old (Below.refl _ _).drew
        have v1 := run_conv22 (P := Try.prog) (w := w11.drew) NN NN hlT ((rw_seg22 hrw hmT).drew) 26 5 9 Try.underlying26 Try.underlying5 Try.underlying9
        have v2 := run_conv22 (P := Try.prog) (w := w11.drew) c1 NN hlT ((HSG10.out w11 hb11).drew) 26 5 9 Try.underlying26 Try.underlying5 Try.underlying9
        generalize strOfNums ((L ++ M).take NN) = st at v1 v2
        have hWN := pwn22 HH11.out.pe.wr
        have hPN := ppn22 HH11.out.pe.wr
        rw [HH11.out.wn, HWR.out.2.2.2] at hWN
        rw [← HPN.out.1] at hPN
        have r1 : w11.drew.cell? ⟨g8, 0, none⟩ = some (.int .i64 (P : Int)) := two_cell0 HH11.out.s8
        clear hRD b11 hgg hrw hH10 hlT hmT hb11 r0
        go_wp2_with fail
        refine still_all22 (by kernel_rfl) (by kernel_rfl) ?_
        repeat still_step
        still_call hWN
        repeat still_step
        still_call hPN
        repeat still_step
        refine wpStill_nil ?_
        go_wp2_with fail
        go_roundw
        case rel => exact ⟨i + 1, L ++ M, F9, S', P', a1, c1, by omega, by go_num, by rw [HWR.out.2.2.2], HH11.out⟩
        case measure => simp [intOf]; omega
    · obtain rfl : i = LN := by omega
      have hii : ¬ (i : Int) < (i : Int) := by omega
      have hPQe := HPQ.out.2.2.2.2.2.2
      have hpg := HPQ.out.2.2.2.1.pg
      have hle := hH.le
      have hpos := hH.hp.pn
      have hpnb : Pw.pn ≤ 288 := by
        have : Pw.pn * 1 ≤ Pw.pn * S0.pg := Nat.mul_le_mul_left _ (by omega)
        omega
      have hED := ped22 hH.pe hH.hp.ok (by rw [hH.hp.ea]; have := HAC.out.2; exact ⟨by omega, by omega⟩) (by omega) (by rw [hH.hp.lg]; omega)
      obtain ⟨en1, en2⟩ := hp22_end hH.hp (by have := HAC.out.2; omega) hH.le
      rw [en1] at hED
      obtain ⟨LL, hLL⟩ : ∃ LL, LL = L.length := ⟨_, rfl⟩
      rw [← hLL, ← HPQ.out.2.1] at en2
      obtain ⟨NP, hNP⟩ : ∃ NP, NP = (LL + P - 1) / P := ⟨_, rfl⟩
      rw [← hNP] at en2
      obtain ⟨NB, hNB⟩ : ∃ NB, NB = NP * P := ⟨_, rfl⟩
      obtain ⟨SA, hSA⟩ : ∃ SA, SA = LL + P := ⟨_, rfl⟩
      obtain ⟨SB, hSB⟩ : ∃ SB, SB = SA - 1 := ⟨_, rfl⟩
      have hLb : LL ≤ PQ := by rw [hLL, hPQe]; exact hle
      have hge := en2.ge
      have hle2 := en2.le
      rw [← HPQ.out.2.1, ← hLL, ← hNB] at hge
      have hNBq : NB ≤ PQ := by rw [hNB, HPQ.out.1, Nat.mul_comm]; exact Nat.mul_le_mul_left P (by rw [HPQ.out.2.2.1]; exact hle2)
      have a1 : (LL : Int) + (P : Int) = (SA : Int) := by omega
      have a2 : IntKind.i64.wrap (SA : Int) = (SA : Int) := IntWalk.i64_in _ (by omega)
      have a3 : (SA : Int) - 1 = (SB : Int) := by omega
      have a4 : IntKind.i64.wrap (SB : Int) = (SB : Int) := IntWalk.i64_in _ (by omega)
      have a5 : Int.tdiv (SB : Int) (P : Int) = (NP : Int) := by rw [hNP, ← hSA, ← hSB]; rfl
      have hNPb : NP ≤ 288 := by
        have h1 : NP * 1 ≤ NP * P := Nat.mul_le_mul_left _ (by omega)
        rw [← hNB] at h1
        omega
      have a6 : IntKind.i64.wrap (NP : Int) = (NP : Int) := IntWalk.i64_in _ (by omega)
      have a7 : IntKind.i64.wrap ((NP : Int) * (P : Int)) = (NB : Int) := by
        have e : (NP : Int) * (P : Int) = (NB : Int) := by rw [hNB]; exact (Int.natCast_mul _ _).symm
        rw [e, IntWalk.i64_in _ (by omega)]
      have a8 : Int.tdiv (NB : Int) (P : Int) = (NP : Int) := by
        have e : (NB : Int).tdiv (P : Int) = ((NB / P : Nat) : Int) := rfl
        rw [e, hNB, Nat.mul_div_cancel _ (by omega)]
      have p0 : ¬ P = 0 := by omega
      have p0' : ((P : Int) == 0) = false := by simp [p0]
      have p0'' : ¬ (P : Int) = 0 := by omega
      have hac : IntKind.i64.wrap (1 - AC) = 1 - AC := by rw [IntWalk.i64_in _ (by have := HAC.out.2; omega)]
      have HEN : Hid (He22 S0 (edS22 S Pw) (edP22 S Pw) (1 - AC) L NP) := en2
      have HH : Hid (Hw22 w wr v s g f g8 gb P Q B0 S0 (1 - AC) L F' S Pw ra rc) := hH
      have HLL : Hid (LL = L.length ∧ NB = NP * P ∧ LL ≤ NB ∧ NB ≤ PQ) := ⟨hLL, hNB, hge, hNBq⟩
      rw [← hLL]
      clear hPQe hpg hle hpos hpnb en1 en2 hLL hNP hNB hSA hSB hH hge hle2 hNBq
      generalize edS22 S Pw = S' at hED HEN
      generalize edP22 S Pw = P' at hED HEN
      go_wp2_with fail
      refine hED.mono ?_
      rintro e w9 ⟨rfl, hn9⟩
      have hH := HH.out
      obtain ⟨F9, pe9, fN9, bl9, s89, n89, sb9, nb9, ow9, no9⟩ := hH.put hn9
      have hd9 : Below w9.heap.size w9 w9.drew := (Below.refl _ _).drew
      have s0 : w9.drew.cell? ⟨g8, 0, none⟩ = some (.int .i64 (P : Int)) := two_cell0 s89
      have HP9 : Hid (Pe22 w9.drew v s g f F9 S' P' ∧ Below w.heap.size w w9.drew ∧ w9.drew.heap[g8]? = some (.cells #[.int .i64 (P : Int), .int .i64 (Q : Int)] 62 (0, 0)) ∧ Rw21 w9.drew gb B0 ∧ w9.drew.ownsRow w.heap.size 5 1 (.slice ra L.length rc) L.length (L.map (Value.int .u8))) := ⟨pe9.old hd9, bl9.trans (hd9.mono bl9.size), s89, sb9, ⟨ow9.1, ow9.2⟩⟩
      have hRD := pread21 HP9.out.1.fl HEN.out.ok (1 - AC) 0 (NB : Int) (by have := HAC.out.2; exact ⟨by omega, by omega⟩) ⟨by omega, by omega⟩ ⟨by omega, by have := HLL.out; omega⟩
      have HML : Hid (∀ z ∈ L, 0 ≤ z ∧ z ≤ 255) := hH.mL
      clear hED hn9 pe9 fN9 bl9 s89 n89 sb9 nb9 ow9 no9 hH hd9
      go_wp2_with fail
      refine still_all22 (by kernel_rfl) (by kernel_rfl) ?_
      repeat still_step
      refine wpStill_nil ?_
      go_wp2_with fail
      refine hRD.mono ?_
      rintro e w10 ⟨b10, h10⟩
      rcases h10 with ⟨h10, -⟩ | ⟨-, gg, rfl, hgg, hrw⟩
      · exact absurd (rd22_ok HEN.out.ok HEN.out.qt.on (1 - AC) (by have := HAC.out.2; omega) NB (by rw [HEN.out.pg, HEN.out.ps, ← HPQ.out.2.2.2.2.2.2]; exact HLL.out.2.2.2)) h10
      have hrb := HEN.out.rd
      rw [← HPQ.out.2.1, ← HLL.out.2.1, ← HLL.out.1] at hrb
      rw [show (0 : Int).toNat = 0 from rfl, show ((NB : Int)).toNat = NB by omega, hrb] at hrw
      rw [show ((NB : Int)).toNat = NB by omega]
      have HR10 : Hid (Rw21 w10 gg (L ++ List.replicate (NB - LL) 255) ∧ w9.drew.heap.size ≤ gg ∧ Below w9.drew.heap.size w9.drew w10) := ⟨hrw, hgg, b10⟩
      have hRD2 := pread21 (HP9.out.1.fl.old b10) HEN.out.ok AC 0 (PQ : Int) (by have := HAC.out.2; exact ⟨by omega, by omega⟩) ⟨by omega, by omega⟩ ⟨by omega, by omega⟩
      have h8 := (b10.block g8 (Array.getElem?_eq_some_iff.1 HP9.out.2.2.1).1).trans HP9.out.2.2.1
      have x0 := two_cell0 h8
      have x1 := two_cell1 h8
      clear hRD hgg hrw hrb b10 s0 h8
      go_wp2_with fail
      refine hRD2.mono ?_
      rintro e w11 ⟨b11, h11⟩
      rcases h11 with ⟨h11, -⟩ | ⟨-, gq, rfl, hgq, hrq⟩
      · exact absurd (rd22_ok HEN.out.ok HEN.out.qt.on AC HAC.out.2 PQ (by rw [HEN.out.pg, HEN.out.ps, ← HPQ.out.2.2.2.2.2.2]; exact Nat.le_refl _)) h11
      rw [show (0 : Int).toNat = 0 from rfl, show ((PQ : Int)).toNat = PQ by omega, HEN.out.ot AC (by have := HAC.out.2; omega), ← HB0.out] at hrq
      rw [show ((PQ : Int)).toNat = PQ by omega]
      have hBl : B0.length = PQ := by rw [HB0.out, rb21_len]
      have hBm : ∀ z ∈ B0, 0 ≤ z ∧ z ≤ 255 := by rw [HB0.out]; exact HBD.out AC 0 PQ
      have b10 := HR10.out.2.2
      have b911 : Below w9.drew.heap.size w9.drew w11 := b10.trans (b11.mono b10.size)
      obtain ⟨Xb, hXb⟩ := HP9.out.2.2.2.1
      have hrwB : Rw21 w11 gb B0 := ⟨Xb, (b911.block gb (Array.getElem?_eq_some_iff.1 hXb).1).trans hXb⟩
      obtain ⟨Xg, hXg⟩ := HR10.out.1
      have hXg11 := (b11.block gg (Array.getElem?_eq_some_iff.1 hXg).1).trans hXg
      have hrwG : Rw21 w11 gg (L ++ List.replicate (NB - LL) 255) := ⟨Xg, hXg11⟩
      have hmG : ∀ z ∈ L ++ List.replicate (NB - LL) (255 : Int), 0 ≤ z ∧ z ≤ 255 := fun z hz => by
        rcases List.mem_append.1 hz with e | e
        · exact HML.out z e
        · rw [(List.mem_replicate.1 e).2]; decide
      have hsegG := rw_seg22 hrwG hmG
      have hsegGL : Seg w11.drew (some ⟨gg, 0, none⟩) L := by
        have := hsegG.take L.length
        simp at this
        exact this.drew
      have ow11 := own_old22 HP9.out.2.2.2.2 (w' := w11) (fun r hr => by
        rcases HP9.out.2.2.2.2.2 with ⟨h1, _⟩ | ⟨q', cp, cu, h1, h2, h3, _⟩
        · rw [h1] at hr; cases hr
        · rw [h1] at hr
          simp [Value.ownBlock] at hr
          subst hr
          exact b911.block _ (Array.getElem?_eq_some_iff.1 h3).1)
      have hclL := cl21_own ow11 HML.out
      have v1 := run_conv22 (P := Try.prog) (w := w11.drew) PQ PQ hBl ((rw_seg22 hrq hBm).drew) 26 5 9 Try.underlying26 Try.underlying5 Try.underlying9
      have v2 := run_conv22 (P := Try.prog) (w := w11.drew) PQ PQ hBl ((rw_seg22 hrwB hBm).drew) 26 5 9 Try.underlying26 Try.underlying5 Try.underlying9
      generalize strOfNums B0 = st at v1 v2
      have v3 := run_conv22 (P := Try.prog) (w := w11.drew) NB LL HLL.out.1.symm hsegGL 26 5 9 Try.underlying26 Try.underlying5 Try.underlying9
      have v4 := run_conv22 (P := Try.prog) (w := w11.drew) rc LL HLL.out.1.symm (hclL.1.drew) 26 5 9 Try.underlying26 Try.underlying5 Try.underlying9
      generalize strOfNums L = st2 at v3 v4
      have hsl := slice_hi22 (some ⟨gg, 0, none⟩) NB NB LL (Nat.le_refl _) HLL.out.2.2.1 (by intro h; cases h)
      have hPe11 := (HP9.out.1.old b911).old (Below.refl _ _).drew
      have hPN := ppn22 hPe11.wr
      rw [HEN.out.pn] at hPN
      have h8 := (b911.block g8 (Array.getElem?_eq_some_iff.1 HP9.out.2.2.1).1).trans HP9.out.2.2.1
      have y0 : w11.drew.cell? ⟨g8, 0, none⟩ = some (.int .i64 (P : Int)) := two_cell0 h8
      have HBL : Hid (Below w.heap.size w w11.drew) := HP9.out.2.1.trans ((b911.mono HP9.out.2.1.size).drew)
      have HCG : Hid (∀ j : Nat, LL ≤ j → j < NB → w11.drew.cell? ⟨gg, j, none⟩ = some (.int .u8 255)) := fun j h1 h2 => by
        have hc : (⟨gg, j, none⟩ : Addr) = ⟨gg, j, none⟩ := rfl
        have hlL := HLL.out.1
        show w11.cell? ⟨gg, j, none⟩ = _
        have hjl : j < (L ++ List.replicate (NB - LL) (255 : Int)).length := by simp; omega
        obtain ⟨b', o', e', hcell⟩ := hsegG.at_ j hjl
        cases e'
        rw [Nat.zero_add] at hcell
        rw [hcell, List.getD, List.getElem?_append_right (by omega), List.getElem?_replicate, if_pos (by omega)]
        rfl
      clear hRD2 hgq hrq hBl hBm b10 b911 hXb hrwB hXg hXg11 hrwG hmG hsegG hsegGL ow11 hclL hPe11 h8 x0 x1 b11
      go_wp2_with fail
      refine still_all22 (by kernel_rfl) (by kernel_rfl) ?_
      repeat still_step
      still_call hPN
      repeat still_step
      refine wpStill_nil ?_
      go_wp2_with fail
      go_loopw [23] (fun tj wq => ∃ j : Nat, LL ≤ j ∧ j ≤ NB ∧ tj = .int .i64 (j : Int) ∧ wq = w11.drew) (fun tj _ => NB - (intOf tj).toNat)
      case atStart => exact ⟨LL, Nat.le_refl _, HLL.out.2.2.1, rfl, rfl⟩
      case round =>
        obtain ⟨j, hj1, hj2, rfl, hwq⟩ := hrel
        subst wr
        by_cases hj : j < NB
        · have hji : (j : Int) < (NB : Int) := by omega
          have hcj := HCG.out j hj1 hj
          have hjw : IntKind.i64.wrap ((j : Int) + 1) = ((j + 1 : Nat) : Int) := by rw [IntWalk.i64_in _ (by have := HLL.out; omega)]; omega
          go_wp2_with fail
          go_roundw
          case rel => exact ⟨j + 1, by omega, by omega, by go_num, by first | rfl | trivial⟩
          case measure => simp [intOf]; omega
        · obtain rfl : j = NB := by omega
          have hji : ¬ (j : Int) < (j : Int) := by omega
          go_wp2_with fail
          go_ret
          exact ⟨rfl, HBL.out⟩
end Go.Proofs.Ytiocdhkompekpaa
