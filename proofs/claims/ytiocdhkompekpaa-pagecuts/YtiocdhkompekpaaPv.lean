import Derived.Test.YtiocdhkompekpaaPu
import Derived.Test.YtiocdhkompekpaaPl
import Derived.StillTailTactics
import Derived.Laws.StructEq
import Derived.Test.YtiocdhkompekpaaPt
import Derived.Deep.CutRange
namespace Go.Proofs.Ytiocdhkompekpaa
open Go.RowKit Go.Shelf
set_option linter.unusedVariables false
set_option linter.unusedSimpArgs false

/-! PageCuts: logs held against each other. -/
theorem still_all22c {P : Program} {id : Nat} {Q : Exit → Act → World → Prop} {a : Act} {w : World} {l : List Oper} (hm : P.follows .mixedOrders = true) (hB : Region.lexB .any l.toArray = true)
    (h : wpStill P l.toArray w.drew (fun a' => Q .normal a' w.drew) l a) : (Code.region id l.toArray true).wp P Q a w := wp_region_still_lit hm hB h
theorem ops22 {w : World} {N n rc : Nat} {ra : Option Addr} {L : List (Int × Int × Int)} (h : w.ownsRow N 91 3 (.slice ra n rc) n (lgc21 L)) (hn : L.length = n) {i : Nat} (hi : i < n) :
    ∃ (g : Nat) (o : Int × Int × Int), L[i]? = some o ∧ ra = some ⟨g, 0, none⟩ ∧ g < w.heap.size ∧ w.cell? ⟨g, i * 3, none⟩ = some (.int .i64 o.1) ∧ w.cell? ⟨g, i * 3 + 1, none⟩ = some (.int .i64 o.2.1) ∧ w.cell? ⟨g, i * 3 + 2, none⟩ = some (.int .i64 o.2.2) := by
  obtain ⟨o, ho⟩ : ∃ o, L[i]? = some o := ⟨_, List.getElem?_eq_getElem (by omega)⟩
  rcases h.2 with ⟨h1, h2⟩ | ⟨g, cp, cu, h1, h2, h3, h4⟩
  · omega
  · simp only [Value.slice.injEq] at h1
    obtain ⟨rfl, -, rfl⟩ := h1
    obtain ⟨e1, e2, e3⟩ := lgc21_get L i o ho
    have hadd : ∀ j, (⟨g, 0, none⟩ : Addr).add j = ⟨g, j, none⟩ := fun j => by unfold Addr.add; split <;> simp_all
    have c1 := h.cells (g := g) rfl _ _ e1
    have c2 := h.cells (g := g) rfl _ _ e2
    have c3 := h.cells (g := g) rfl _ _ e3
    rw [hadd] at c1 c2 c3
    exact ⟨g, o, ho, rfl, (Array.getElem?_eq_some_iff.1 h3).1, c1, c2, c3⟩
set_option maxRecDepth 100000 in
set_option maxHeartbeats 4000000 in
theorem psop22 {w : World} {N M : Nat} (ra rb : Option Addr) (n rc rd : Nat) (L : List (Int × Int × Int)) (hn : Hid (L.length = n)) (h1 : w.ownsRow N 91 3 (.slice ra n rc) n (lgc21 L)) (h2 : w.ownsRow M 91 3 (.slice rb n rd) n (lgc21 L)) (hb : n ≤ 1000000) :
    Calls Try.prog 32 #[.slice ra n rc, .slice rb n rd] w fun e w' => e = .returned (.bool true) ∧ Below w.heap.size w w' := by
  have H1 : Hid (w.ownsRow N 91 3 (.slice ra n rc) n (lgc21 L) ∧ w.ownsRow M 91 3 (.slice rb n rd) n (lgc21 L)) := ⟨h1, h2⟩
  clear h1 h2
  go_enter Try.func32, Try.ntmps32
  go_wp2_with fail
  go_loopw [5] (fun ti wr => ∃ i : Nat, i ≤ n ∧ ti = .int .i64 (i : Int) ∧ Below w.heap.size w wr) (fun ti _ => n - (intOf ti).toNat)
  case atStart => exact ⟨0, by omega, rfl, Below.refl _ _⟩
  case round =>
    obtain ⟨i, hi, rfl, hB⟩ := hrel
    by_cases hlt : i < n
    · have hii : (i : Int) < (n : Int) := by omega
      have hiw : IntKind.i64.wrap ((i : Int) + 1) = ((i + 1 : Nat) : Int) := by rw [IntWalk.i64_in _ (by omega)]; omega
      obtain ⟨g, o, ho, hra, hg, a1, a2, a3⟩ := ops22 H1.out.1 hn.out hlt
      obtain ⟨g', o', ho', hrb, hg', b1, b2, b3⟩ := ops22 H1.out.2 hn.out hlt
      rw [ho] at ho'
      cases ho'
      have c1 : wr.drew.cell? ⟨g, i * 3, none⟩ = some (.int .i64 o.1) := (hB.cell (p := ⟨g, i * 3, none⟩) hg).trans a1
      have c2 : wr.drew.cell? ⟨g, i * 3 + 1, none⟩ = some (.int .i64 o.2.1) := (hB.cell (p := ⟨g, i * 3 + 1, none⟩) hg).trans a2
      have c3 : wr.drew.cell? ⟨g, i * 3 + 2, none⟩ = some (.int .i64 o.2.2) := (hB.cell (p := ⟨g, i * 3 + 2, none⟩) hg).trans a3
      have d1 : wr.drew.cell? ⟨g', i * 3, none⟩ = some (.int .i64 o.1) := (hB.cell (p := ⟨g', i * 3, none⟩) hg').trans b1
      have d2 : wr.drew.cell? ⟨g', i * 3 + 1, none⟩ = some (.int .i64 o.2.1) := (hB.cell (p := ⟨g', i * 3 + 1, none⟩) hg').trans b2
      have d3 : wr.drew.cell? ⟨g', i * 3 + 2, none⟩ = some (.int .i64 o.2.2) := (hB.cell (p := ⟨g', i * 3 + 2, none⟩) hg').trans b3
      have HB : Hid (Below w.heap.size w wr) := hB
      obtain ⟨o1, o2, o3⟩ := o
      simp only at c1 c2 c3 d1 d2 d3
      subst hra
      subst hrb
      clear a1 a2 a3 b1 b2 b3 hB ho
      go_wp2_with fail
      refine still_all22c (by kernel_rfl) (by kernel_rfl) ?_
      repeat still_step
      refine wpStill_nil ?_
      go_wp2_with fail
      go_roundw
      case rel => exact ⟨i + 1, by omega, by go_num, HB.out.drew⟩
      case measure => simp [intOf]; omega
    · obtain rfl : i = n := by omega
      have hii : ¬ (i : Int) < (i : Int) := by omega
      go_wp2_with fail
      go_ret
      exact ⟨rfl, hB⟩
set_option maxRecDepth 100000 in
set_option maxHeartbeats 4000000 in
theorem pord22 {w : World} {N : Nat} (ra : Option Addr) (n rc : Nat) (ar : Int) (h1 : w.ownsRow N 91 3 (.slice ra n rc) n (lgc21 (od22 ar n))) (hb : n ≤ 1000000) :
    Calls Try.prog 33 #[.slice ra n rc, .int .i64 ar] w fun e w' => e = .returned (.bool true) ∧ w' = w := by
  have H1 : Hid (w.ownsRow N 91 3 (.slice ra n rc) n (lgc21 (od22 ar n))) := h1
  clear h1
  go_enter Try.func33, Try.ntmps33
  go_wp2_with fail
  go_loopw [5] (fun ti wr => ∃ i : Nat, i ≤ n ∧ ti = .int .i64 (i : Int) ∧ wr = w) (fun ti _ => n - (intOf ti).toNat)
  case atStart => exact ⟨0, by omega, rfl, rfl⟩
  case round =>
    obtain ⟨i, hi, rfl, hw⟩ := hrel
    subst wr
    by_cases hlt : i < n
    · have hii : (i : Int) < (n : Int) := by omega
      have hiw : IntKind.i64.wrap ((i : Int) + 1) = ((i + 1 : Nat) : Int) := by rw [IntWalk.i64_in _ (by omega)]; omega
      obtain ⟨g, o, ho, hra, hg, a1, a2, a3⟩ := ops22 H1.out (od22_len ar n) hlt
      have ho2 : o = ((if i % 2 = 0 then 1 else 2 : Int), ar, ((i / 2 : Nat) : Int)) := by
        simp [od22, hlt] at ho
        exact ho.symm
      subst ho2
      simp only at a1 a2 a3
      subst hra
      obtain ⟨m, hm⟩ : ∃ m, m = i % 2 := ⟨_, rfl⟩
      obtain ⟨q, hq⟩ : ∃ q, q = i / 2 := ⟨_, rfl⟩
      rw [← hm] at a1
      rw [← hq] at a3
      have t1 : Int.tmod (i : Int) 2 = (m : Int) := by rw [hm]; rfl
      have t2 : Int.tdiv (i : Int) 2 = (q : Int) := by rw [hq]; rfl
      have t3 : IntKind.i64.wrap (m : Int) = (m : Int) := IntWalk.i64_in _ (by omega)
      have t4 : IntKind.i64.wrap (q : Int) = (q : Int) := IntWalk.i64_in _ (by omega)
      rcases (show m = 0 ∨ m = 1 by omega) with h0 | h0
      all_goals
        subst h0
        simp at a1
        clear hm hq ho
        go_wp2_with fail
        go_roundw
        case rel => exact ⟨i + 1, by omega, by go_num, by first | rfl | trivial⟩
        case measure => simp [intOf]; omega
    · obtain rfl : i = n := by omega
      have hii : ¬ (i : Int) < (i : Int) := by omega
      go_wp2_with fail
      go_ret
      exact ⟨rfl, rfl⟩
end Go.Proofs.Ytiocdhkompekpaa

namespace Go.Proofs.Ytiocdhkompekpaa
open Go.RowKit Go.Shelf
set_option linter.unusedVariables false
set_option linter.unusedSimpArgs false

/-! PageCuts: through. -/
structure Tw22 (w wr : World) (v s g f : Nat) (S0 : Fs21) (ar : Int) (tc k T : Nat) (F : Nat → Prop) (S : Fs21) (P : Pw22) : Prop where
  pe : Pe22 wr v s g f F S P
  st : St22 S0 S P ar tc k T
  fN : ∀ j, F j → w.heap.size ≤ j
  sN : w.heap.size ≤ s ∧ w.heap.size ≤ g
  bl : Below w.heap.size w wr
theorem St22.bd {S0 S : Fs21} {P : Pw22} {ar : Int} {tc k T : Nat} (h : St22 S0 S P ar tc k T) (hk : k ≤ T) (hT : T ≤ 288) (ht : tc ≤ 8) (hp : 0 < S0.pg) : P.wn ≤ 288 ∧ S.lg.length ≤ 600 ∧ P.ar = ar ∧ Ok21 S ∧ (P.cl = 0 → P.bf.length < S.pg) ∧ P.pn ≤ 288 ∧ S.pg = S0.pg := by
  have hm : ∀ m, m * S0.pg ≤ T → m ≤ 288 := fun m e => by
    have : m * 1 ≤ m * S0.pg := Nat.mul_le_mul_left _ hp
    omega
  rcases h with ⟨h, hw⟩ | ⟨⟨h, m, -, h1, h2⟩, hw⟩
  · have hpn := h.pn
    have hb : P.pn ≤ 288 := hm _ (by omega)
    exact ⟨by omega, by rw [h.ay.lg, od22_len]; omega, h.ay.ea, h.ay.ok, fun _ => by rw [h.ay.pg]; exact h.lt, hb, h.ay.pg⟩
  · have := hm m h1
    exact ⟨by omega, by rw [h.lg, od22_len]; omega, h.ea, h.ok, fun e => absurd e h.cl, by omega, h.pg⟩
/-- How many operations there are. -/
def kt22 (pg T tc : Nat) : Nat := if 0 < tc ∧ tc < 2 * ((T + pg - 1) / pg) then tc else 2 * ((T + pg - 1) / pg)
def Th22 (w w' : World) (d : Dv22) (T tc : Nat) (e : Ending) : Prop := ∃ ra rc f F S', e = .returned (.tuple #[.slice ra (kt22 d.P T tc) rc, .pointer (some ⟨f, 0, none⟩), .bool true]) ∧ (∃ N, w'.ownsRow N 91 3 (.slice ra (kt22 d.P T tc) rc) (kt22 d.P T tc) (lgc21 (od22 (1 - d.A) (kt22 d.P T tc)))) ∧ Fl21 w' f F S' ∧ Ok21 S' ∧ S'.ac = d.A ∧ Below w.heap.size w w'
set_option maxRecDepth 100000 in
set_option maxHeartbeats 32000000 in
theorem pthr22 (w : World) (d : Dv22) (hd : Df22 w d) (a : Option Addr) (A : List Int) (n cap : Nat) (hA : Seg w a A) (hn : Hid (A.length = n)) (hcap : n ≤ cap) (hnil : a = none → cap = 0) (hnb : n ≤ 140737488351232) (cb : Option Addr) (C : List Int) (m cc : Nat) (hC : Seg64 w cb C) (hm : Hid (C.length = m)) (hmb : m ≤ 140737488351232) (tc : Nat) (ht : tc ≤ 8) :
    Calls Try.prog 31 #[.agg #[.int .u64 (d.p : Int), .int .u64 (d.q : Int), .bool d.ac, .slice d.a0 d.l0.length d.k0, .slice d.a1 d.l1.length d.k1], .slice a n cap, .slice cb m cc, .int .i64 (tc : Int)] w fun e w' => Th22 w w' d (min n (d.P * d.Q)) tc e := by
  obtain ⟨w1, hw1⟩ : ∃ w1, w1 = w.alloc (.cells #[.int .u64 (d.p : Int), .int .u64 (d.q : Int), .bool d.ac, .slice d.a0 d.l0.length d.k0, .slice d.a1 d.l1.length d.k1] 29) := ⟨_, rfl⟩
  have HW1 : Hid (w.alloc (.cells #[.int .u64 (d.p : Int), .int .u64 (d.q : Int), .bool d.ac, .slice d.a0 d.l0.length d.k0, .slice d.a1 d.l1.length d.k1] 29) = w1) := hw1.symm
  have b1 : Below w.heap.size w w1 := by rw [hw1]; exact (Below.refl _ _).alloc (Nat.le_refl _) _
  obtain ⟨g1, hg1⟩ : ∃ g1, g1 = w.heap.size := ⟨_, rfl⟩
  have HG1 : Hid (w.heap.size = g1) := hg1.symm
  have q1 : w1.heap[g1]? = some (.cells #[.int .u64 (d.p : Int), .int .u64 (d.q : Int), .bool d.ac, .slice d.a0 d.l0.length d.k0, .slice d.a1 d.l1.length d.k1] 29 (0, 0)) := by rw [hw1, hg1]; exact heap_alloc_new _ _
  have c0 : w1.cell? ⟨g1, 0, none⟩ = some (.int .u64 (d.p : Int)) := by simp [World.cell?, q1]
  have c1 : w1.cell? ⟨g1, 1, none⟩ = some (.int .u64 (d.q : Int)) := by simp [World.cell?, q1]
  have c2 : w1.cell? ⟨g1, 2, none⟩ = some (.bool d.ac) := by simp [World.cell?, q1]
  have c3 : w1.cell? ⟨g1, 3, none⟩ = some (.slice d.a0 d.l0.length d.k0) := by simp [World.cell?, q1]
  have c4 : w1.cell? ⟨g1, 4, none⟩ = some (.slice d.a1 d.l1.length d.k1) := by simp [World.cell?, q1]
  have hMD := pmade22 d w1 ⟨hd.s0.old b1, hd.s1.old b1, hd.z0, hd.z1, hd.n0, hd.n1, hd.p, hd.q⟩
  have hbd := d.bd
  have hA01 : d.A = 0 ∨ d.A = 1 := by unfold Dv22.A; split <;> omega
  obtain ⟨T, hT⟩ : ∃ T, T = min n (d.P * d.Q) := ⟨_, rfl⟩
  obtain ⟨PQ, hPQ⟩ : ∃ PQ, PQ = d.P * d.Q := ⟨_, rfl⟩
  have hst := st22_new d.P d.Q d.A (d.l0.take (d.P * d.Q)) (d.l1.take (d.P * d.Q)) (by omega) (by omega) hA01 tc T (by omega)
  have hok := d.ok
  obtain ⟨S0, hS0⟩ : ∃ S0, S0 = d.S := ⟨_, rfl⟩
  obtain ⟨P, hP⟩ : ∃ P, P = d.P := ⟨_, rfl⟩
  obtain ⟨Q, hQ⟩ : ∃ Q, Q = d.Q := ⟨_, rfl⟩
  obtain ⟨AC, hAC⟩ : ∃ AC, AC = d.A := ⟨_, rfl⟩
  have hst' : cuE21 S0 (tc : Int) 0 = 0 ∧ Ok21 (cuS21 S0 (tc : Int) []) ∧ (cuS21 S0 (tc : Int) []).ac = AC ∧ (cuS21 S0 (tc : Int) []).pg = P ∧ (cuS21 S0 (tc : Int) []).ps = Q ∧ St22 S0 (cuS21 S0 (tc : Int) []) ⟨1 - AC, [], 0, 0, 0⟩ (1 - AC) tc 0 T := by rw [hS0, hAC, hP, hQ]; exact hst
  have HBD : Hid (S0.pg = P ∧ S0.ps = Q ∧ S0.ac = AC ∧ PQ = P * Q ∧ 64 ≤ P ∧ P ≤ 72 ∧ PQ ≤ 288 ∧ T ≤ PQ ∧ T = min n PQ ∧ (AC = 0 ∨ AC = 1) ∧ P = d.P ∧ AC = d.A ∧ Ok21 S0) := ⟨by rw [hS0, hP]; rfl, by rw [hS0, hQ]; rfl, by rw [hS0, hAC]; rfl, by rw [hPQ, hP, hQ], by omega, by omega, by omega, by omega, by rw [hT, hPQ], by rw [hAC]; exact hA01, hP, hAC, by rw [hS0]; exact hok⟩
  have HST : Hid (cuE21 S0 (tc : Int) 0 = 0 ∧ Ok21 (cuS21 S0 (tc : Int) []) ∧ (cuS21 S0 (tc : Int) []).ac = AC ∧ (cuS21 S0 (tc : Int) []).pg = P ∧ (cuS21 S0 (tc : Int) []).ps = Q ∧ St22 S0 (cuS21 S0 (tc : Int) []) ⟨1 - AC, [], 0, 0, 0⟩ (1 - AC) tc 0 T) := hst'
  have HSS : Hid (d.S = S0) := hS0.symm
  have HB1 : Hid (Below w.heap.size w w1) := b1
  have HAA : Hid (Seg w a A ∧ n ≤ cap ∧ (a = none → cap = 0)) := ⟨hA, hcap, hnil⟩
  have HCC : Hid (Seg64 w cb C) := hC
  rw [← hT]
  have hmul : IntKind.i64.wrap ((P : Int) * (Q : Int)) = (PQ : Int) := by
    have e : (P : Int) * (Q : Int) = (PQ : Int) := by rw [HBD.out.2.2.2.1]; exact (Int.natCast_mul _ _).symm
    rw [e, IntWalk.i64_in _ (by omega)]
  have hmin : (if PQ < n then (PQ : Int) else (n : Int)) = (T : Int) := by split <;> omega
  have hmin' : (if (PQ : Int) < (n : Int) then (PQ : Int) else (n : Int)) = (T : Int) := by split <;> omega
  have hslT := slice_hi22 a n cap T hcap (by omega) hnil
  have hT288 : T ≤ 288 := by have := HBD.out; omega
  clear hw1 b1 hg1 q1 hbd hA01 hPQ hst hst' hS0 hP hQ hAC hd hA hcap hnil hC hT hok
  go_enter Try.func31, Try.ntmps31
  go_upto_region 1 with fail
  rw [HW1.out, HG1.out]
  go_wp2_with fail
  refine hMD.mono ?_
  rintro e w2 ⟨f, F, gd, G, rfl, hF, hG, hFw, hGw, hFG, b2⟩
  rw [HSS.out] at hF
  have b2' : Below w.heap.size w w2 := HB1.out.trans (b2.mono HB1.out.size)
  have hCU := pcut21 hF HBD.out.2.2.2.2.2.2.2.2.2.2.2.2 (tc : Int) none [] 0 0 (SegK.nil (by decide) _ _) rfl (fun _ => rfl)
  rw [HST.out.1] at hCU
  have HF2 : Hid ((∀ k, F k → w.heap.size ≤ k) ∧ Below w.heap.size w w2) := ⟨fun k e => Nat.le_trans HB1.out.size (hFw k e), b2'⟩
  clear hMD hF hG hFw hGw hFG b2 b2' c0 c1 c2 c3 c4
  go_wp2_with fail
  refine hCU.mono ?_
  rintro e w3 ⟨rfl, hn3⟩
  obtain ⟨F3, hF3, hFw3, b3⟩ := hn3.kpw HF2.out.1 HF2.out.2.size
  have hNW := pnw22 hF3 HST.out.2.1
  have HF3 : Hid (Fl21 w3 f F3 (cuS21 S0 (tc : Int) []) ∧ (∀ k, F3 k → w.heap.size ≤ k) ∧ Below w.heap.size w w3) := ⟨hF3, hFw3, HF2.out.2.trans b3⟩
  clear hCU hn3 hF3 hFw3 b3
  go_wp2_with fail
  refine hNW.mono ?_
  rintro e w4 ⟨v, s, g, rfl, q4, b4, z1, z2, z3⟩
  have HI0 : Hid (Tw22 w w4 v s g f S0 (1 - AC) tc 0 T F3 (cuS21 S0 (tc : Int) []) ⟨1 - AC, [], 0, 0, 0⟩) := by
    have h3 := HF3.out.2.2
    refine ⟨?_, HST.out.2.2.2.2.2, HF3.out.2.1, ⟨by have := h3.size; omega, by have := h3.size; omega⟩, h3.trans (b4.mono h3.size)⟩
    rw [← HST.out.2.2.1]; exact q4
  have HSH : Hid (∀ W : World, Below w4.heap.size w4 W → Calls Try.prog 27 #[.pointer (some ⟨f, 0, none⟩)] W fun e w' => e = .returned (.agg #[.int .i64 (P : Int), .int .i64 (Q : Int)]) ∧ Below w4.heap.size w4 w') := fun W hW => by
    have := pshp22 (q4.old hW).fl HST.out.2.1
    rw [HST.out.2.2.2.1, HST.out.2.2.2.2.1] at this
    refine this.mono ?_
    rintro e w' ⟨rfl, hb⟩
    exact ⟨rfl, hW.trans (hb.mono hW.size)⟩
  have hf0 := flds22 (P : Int) (Q : Int)
  have hf1 : ∀ W : World, (Instr.field 62 (.agg #[.int .i64 (P : Int), .int .i64 (Q : Int)]) 1).run Try.prog W = .ok (.int .i64 (Q : Int)) W := fun W => by kernel_rfl
  clear hNW q4 b4 z1 z2 z3
  go_wp2_with fail
  refine (HSH.out _ (Below.refl _ _)).mono ?_
  rintro e w5 ⟨rfl, b5⟩
  go_wp2_with fail
  refine (HSH.out _ b5).mono ?_
  rintro e w6 ⟨rfl, b6⟩
  have HI6 : Hid (Tw22 w w6 v s g f S0 (1 - AC) tc 0 T F3 (cuS21 S0 (tc : Int) []) ⟨1 - AC, [], 0, 0, 0⟩) := by
    have h := HI0.out
    exact ⟨h.pe.old b6, h.st, h.fN, h.sN, h.bl.trans (b6.mono h.bl.size)⟩
  clear b5 b6
  go_wp2_with fail
  go_loopw [1, 16] (fun tr ti wr => ∃ (i k k' : Nat) (a' : Option Addr) (F : Nat → Prop) (S : Fs21) (Pw : Pw22), tr = .slice a' (T - k) k' ∧ ti = .int .i64 (i : Int) ∧ k ≤ T ∧ T - k ≤ k' ∧ (i ≤ m ∨ k = T) ∧ i ≤ m + 1 ∧ Seg wr a' ((A.take T).drop k) ∧ (a' = none → k' = 0) ∧ (∀ x off, a' = some ⟨x, off, none⟩ → 0 < T - k → x < w.heap.size) ∧ Tw22 w wr v s g f S0 (1 - AC) tc k T F S Pw) (fun tr ti _ => sliceLen21 tr + (m - (intOf ti).toNat))
  case atStart =>
    refine ⟨0, 0, cap, a, F3, _, _, rfl, rfl, by omega, by have := HAA.out.2.1; have := HBD.out; omega, .inl (by omega), by omega, ?_, HAA.out.2.2, fun x off e h0 => ?_, HI6.out⟩
    · have := (HAA.out.1.old HI6.out.bl).take T
      simpa using this
    · obtain ⟨b', o', e', hc⟩ := HAA.out.1.at_ 0 (by rw [hn.out]; have := HBD.out; omega)
      rw [e] at e'; cases e'
      exact World.block_lt_of_cell? w _ hc
  case round =>
    obtain ⟨i, k, k', a', F, S, Pw, rfl, rfl, hkT, hkk, hik, him, hsg, hnl, hap, hH⟩ := hrel
    obtain ⟨R, hR⟩ : ∃ R, R = T - k := ⟨_, rfl⟩
    rw [← hR] at hkk hap
    rw [← hR]
    by_cases h0 : 0 < R
    · have h0i : (0 : Int) < (R : Int) := by omega
      have hATl : ((A.take T).drop k).length = R := by have := hn.out; have := HBD.out; simp; omega
      obtain ⟨ag, ao, ha', hcell⟩ := hsg.at_ 0 (by omega)
      subst ha'
      have hagl := hap ag ao rfl h0
      have hiw : IntKind.i64.wrap ((i : Int) + 1) = ((i + 1 : Nat) : Int) := by rw [IntWalk.i64_in _ (by omega)]; omega
      have HH : Hid (Tw22 w wr v s g f S0 (1 - AC) tc k T F S Pw) := hH
      have HSG : Hid (Seg wr (some ⟨ag, ao, none⟩) ((A.take T).drop k)) := hsg
      have HN : Hid (R = T - k ∧ k ≤ T ∧ R ≤ k' ∧ (i ≤ m ∨ k = T) ∧ i ≤ m + 1 ∧ ((A.take T).drop k).length = R ∧ ag < w.heap.size) := ⟨hR, hkT, hkk, hik, him, hATl, hagl⟩
      have HCV : Hid (i < m → ∃ (cg co : Nat) (c : Nat), cb = some ⟨cg, co, none⟩ ∧ wr.cell? ⟨cg, co + i, none⟩ = some (.int .u64 (c : Int)) ∧ c < 18446744073709551616) := fun hi => by
        obtain ⟨cg, co, e, hc⟩ := HCC.out.at_ i (by rw [hm.out]; exact hi)
        have hlt := World.block_lt_of_cell? w _ hc
        have hbd := HCC.out.bd i
        obtain ⟨c, hc'⟩ : ∃ c : Nat, C.getD i 0 = (c : Int) := ⟨(C.getD i 0).toNat, by omega⟩
        refine ⟨cg, co, c, e, ?_, by omega⟩
        rw [hH.bl.cell (p := ⟨cg, co + i, none⟩) hlt, hc, hc']
      clear hR hkk hik hsg hnl hap hH hcell hATl
      go_upto_if 61 with fail
      go_cut [17] from 51 to 78 (fun s17 wc => wc = wr ∧ ∃ nn : Nat, nn ≤ R ∧ s17 = .int .i64 (nn : Int) ∧ (i < m ∨ nn = R))
      case first =>
        by_cases hi : i < m
        · have hii : (i : Int) < (m : Int) := by omega
          obtain ⟨cg, co, c, hcb, hcc, hcl⟩ := HCV.out hi
          subst hcb
          obtain ⟨R1, hR1⟩ : ∃ R1, R1 = R + 1 := ⟨_, rfl⟩
          obtain ⟨nn, hnn⟩ : ∃ nn, nn = c % R1 := ⟨_, rfl⟩
          have hRb : R ≤ 288 := by have := HN.out.1; omega
          have x1 : IntKind.i64.wrap ((R : Int) + 1) = (R1 : Int) := by rw [IntWalk.i64_in _ (by omega)]; omega
          have x2 : IntKind.u64.wrap (R1 : Int) = (R1 : Int) := IntWalk.u64_in _ (by omega)
          have x3 : Int.tmod (c : Int) (R1 : Int) = (nn : Int) := by rw [hnn]; rfl
          have hnl : nn < R1 := by rw [hnn]; exact Nat.mod_lt _ (by omega)
          have x4 : IntKind.u64.wrap (nn : Int) = (nn : Int) := IntWalk.u64_in _ (by omega)
          have x5 : IntKind.i64.wrap (nn : Int) = (nn : Int) := IntWalk.i64_in _ (by omega)
          have p0 : ¬ R1 = 0 := by omega
          have p0' : ((R1 : Int) == 0) = false := by simp [p0]
          have p0'' : ¬ (R1 : Int) = 0 := by omega
          have HNR : Hid (nn ≤ R) := by show nn ≤ R; omega
          clear hR1 hnn hnl
          go_wp2_with fail
          go_meet
          case rel => exact ⟨rfl, nn, HNR.out, rfl, .inl hi⟩
        · have hii : ¬ (i : Int) < (m : Int) := by omega
          go_wp2_with fail
          go_meet
          case rel => exact ⟨rfl, R, Nat.le_refl _, rfl, .inr rfl⟩
      case rest =>
        obtain ⟨hwc, nn, hnR, rfl, hnm⟩ := hcut
        subst wc
        obtain ⟨n1, n2, n3, n4, n5, n6, n7⟩ := HN.out
        have hdb := HBD.out
        have hsl := slice_hi22 (some ⟨ag, ao, none⟩) R k' nn n3 (by omega) (fun e => by cases e)
        obtain ⟨M, hM⟩ : ∃ M, M = ((A.take T).drop k).take nn := ⟨_, rfl⟩
        have hMl : M.length = nn := by rw [hM, List.length_take, n6]; omega
        obtain ⟨u1, u2, u3, u4, u5, u6, u7⟩ := HH.out.st.bd n2 hT288 ht (by rw [hdb.1]; omega)
        have hWR := pwr22 HH.out.pe u4 (by rw [u3]; exact ⟨by omega, by omega⟩) (by omega) (by omega) (by omega) u5 (some ⟨ag, ao, none⟩) M nn k' (by rw [hM]; exact HSG.out.take nn) hMl (by omega) (by omega) (fun x off e _ => by
          cases e
          have hf := HH.out.fN ag
          have hs := HH.out.sN
          refine ⟨fun q => ?_, by omega, by omega⟩
          have := hf q
          omega)
        have hst2 := st22_wr HH.out.st (by omega) M (by omega) (by rw [hdb.1, hdb.2.1, ← hdb.2.2.2.1]; omega)
        rw [hMl] at hst2
        have HNX : Hid (∀ w2 : World, Pn22 wr w2 v s g f F (wrS22 S Pw M) (wrP22 S Pw M) → ∃ F', Tw22 w w2 v s g f S0 (1 - AC) tc (k + nn) T F' (wrS22 S Pw M) (wrP22 S Pw M) ∧ Seg w2 (some (if k' = nn then (⟨ag, ao, none⟩ : Addr) else ⟨ag, ao + nn, none⟩)) ((A.take T).drop (k + nn))) := fun w2 h2 => by
          obtain ⟨F2, q2, f2, kk2⟩ := h2
          have hb2 : Below w.heap.size wr w2 := kk2.below (fun i e => by rcases e with e | e | e; (exact HH.out.fN i e); (rw [e]; exact HH.out.sN.1); (rw [e]; exact HH.out.sN.2)) HH.out.bl.size
          refine ⟨F2, ⟨q2, hst2, fun j e => ?_, HH.out.sN, HH.out.bl.trans hb2⟩, ?_⟩
          · rcases f2 j e with q | q
            · exact HH.out.fN j q
            · have := HH.out.bl.size; omega
          · by_cases hkn : k' = nn
            · have : ((A.take T).drop (k + nn)) = [] := by rw [← List.drop_drop]; exact List.drop_eq_nil_of_le (by omega)
              rw [this]
              exact SegK.nil (by decide) _ _
            · rw [if_neg hkn, ← List.drop_drop]
              exact (HSG.out.below hb2 (fun b off e _ => by cases e; exact n7)).drop nn
        have hnk1 : (nn : Int) ≤ (R : Int) := by omega
        have hnk2 : (nn : Int) ≤ (k' : Int) := by omega
        have HHI : Hid (∀ x off, some (if k' = nn then (⟨ag, ao, none⟩ : Addr) else ⟨ag, ao + nn, none⟩) = some (⟨x, off, none⟩ : Addr) → x < w.heap.size) := fun x off e => by
          by_cases hkn : k' = nn
          · rw [if_pos hkn] at e; cases e; exact n7
          · rw [if_neg hkn] at e; cases e; exact n7
        have HRN : Hid (R - nn = T - (k + nn)) := by show R - nn = _; omega
        have HMM : Hid (i < m ∨ nn = R) := hnm
        clear hM hMl u1 u2 u3 u4 u5 u6 u7 n1 n2 n3 n4 n5 n6 n7 hst2 hdb hnm
        go_wp2_with fail
        refine hWR.mono ?_
        rintro e w2 ⟨rfl, h2⟩
        obtain ⟨F2, hw2, hs2⟩ := HNX.out w2 h2
        have HW2 : Hid (Tw22 w w2 v s g f S0 (1 - AC) tc (k + nn) T F2 (wrS22 S Pw M) (wrP22 S Pw M) ∧ Seg w2 (some (if k' = nn then (⟨ag, ao, none⟩ : Addr) else ⟨ag, ao + nn, none⟩)) ((A.take T).drop (k + nn))) := ⟨hw2, hs2⟩
        clear hWR h2 hw2 hs2 hsl HNX
        by_cases hkn : k' = nn
        all_goals
          go_wp2_with fail
          obtain ⟨n1, n2, n3, n4, n5, n6, n7⟩ := HN.out
          have hmm := HMM.out
          have hrn := HRN.out
          have hw2 := HW2.out
          have hhi := HHI.out
          simp only [hkn, if_true, if_false] at hw2 hhi
          go_roundw
          case rel =>
            exact ⟨i + 1, k + nn, _, _, F2, _, _, by rw [← hrn], by simp, by omega, by omega, by omega, by omega, hw2.2, (fun e => by cases e), fun x off e _ => hhi x off e, hw2.1⟩
          case measure =>
            show R - nn + (m - ((i : Int) + 1).toNat) < R + (m - (i : Int).toNat)
            omega
    · obtain rfl : R = 0 := by omega
      have hTk : T = k := by omega
      subst hTk
      have hdb := HBD.out
      have hE := st22_end hH.st (by omega) (by rw [hdb.1, hdb.2.1, ← hdb.2.2.2.1]; omega) (by rw [hdb.1]; omega)
      obtain ⟨u1, u2, u3, u4, u5, u6, u7⟩ := hH.st.bd (Nat.le_refl _) hT288 ht (by rw [hdb.1]; omega)
      have hED := ped22 hH.pe u4 (by rw [u3]; exact ⟨by omega, by omega⟩) (by omega) (by omega)
      obtain ⟨K, hK⟩ : ∃ K, K = kt22 d.P T tc := ⟨_, rfl⟩
      have hkl : (edS22 S Pw).lg = od22 (1 - AC) K := by
        rw [hE.1, hK]; unfold kt22; rw [hdb.1, hdb.2.2.2.2.2.2.2.2.2.2.1]
      have hKb : K ≤ 600 := by
        have : (T + d.P - 1) / d.P ≤ 288 := by
          have h64 : 64 ≤ d.P := by rw [← hdb.2.2.2.2.2.2.2.2.2.2.1]; omega
          exact (Nat.div_le_of_le_mul (by have : 64 * 288 ≤ d.P * 288 := Nat.mul_le_mul_right _ h64; have : d.P ≤ 72 := by rw [← hdb.2.2.2.2.2.2.2.2.2.2.1]; omega
                                          omega))
        rw [hK]; unfold kt22; split <;> omega
      have HK : Hid (K = kt22 d.P T tc ∧ (edS22 S Pw).lg = od22 (1 - AC) K ∧ (edS22 S Pw).lg.length = K ∧ (edS22 S Pw).ac = d.A ∧ Ok21 (edS22 S Pw) ∧ K ≤ 600 ∧ AC = d.A) := ⟨hK, hkl, by rw [hkl, od22_len], by rw [hE.2.1, hdb.2.2.1]; exact hdb.2.2.2.2.2.2.2.2.2.2.2.1, hE.2.2, hKb, hdb.2.2.2.2.2.2.2.2.2.2.2.1⟩
      have HH : Hid (Tw22 w wr v s g f S0 (1 - AC) tc T T F S Pw) := hH
      clear hE hK hkl hKb hdb u1 u2 u3 u4 u5 u6 u7 hH hsg hap hnl hkk hik hR
      go_wp2_with fail
      refine hED.mono ?_
      rintro e w8 ⟨rfl, F8, q8, f8, k8⟩
      have hb8 : Below w.heap.size wr w8 := k8.below (fun i e => by rcases e with e | e | e; (exact HH.out.fN i e); (rw [e]; exact HH.out.sN.1); (rw [e]; exact HH.out.sN.2)) HH.out.bl.size
      have hLG := plog21 q8.fl HK.out.2.2.2.2.1 (by have := HK.out; omega)
      rw [HK.out.2.2.1, HK.out.2.1] at hLG
      have HQ8 : Hid (Fl21 w8 f F8 (edS22 S Pw) ∧ Below w.heap.size w w8) := ⟨q8.fl, HH.out.bl.trans hb8⟩
      clear hED q8 f8 k8 hb8
      go_wp2_with fail
      refine hLG.mono ?_
      rintro e w9 ⟨⟨ra, rc, rfl, hrow⟩, b9⟩
      have HR9 : Hid (w9.ownsRow w8.heap.size 91 3 (.slice ra K rc) K (lgc21 (od22 (1 - AC) K)) ∧ Below w8.heap.size w8 w9) := ⟨hrow, b9⟩
      clear hLG hrow b9
      go_wp2_with fail
      refine bodyPost_ret (v := .tuple #[.slice ra K rc, .pointer (some ⟨f, 0, none⟩), .bool true]) (by first | rfl | kernel_rfl) rfl ?_
      obtain ⟨m1, m2, m3, m4, m5, m6, m7⟩ := HK.out
      obtain ⟨h1, h2⟩ := HR9.out
      obtain ⟨h3, h4⟩ := HQ8.out
      refine ⟨ra, rc, f, F8, _, by rw [← m1], ⟨_, by rw [← m1, ← m7]; exact h1⟩, h3.old h2, m5, m4, h4.trans (h2.mono h4.size)⟩
end Go.Proofs.Ytiocdhkompekpaa
