import Derived.Test.YtiocdhkompekpaaPv
import Derived.Test.YtiocdhkompekpaaPw
import Derived.Test.YtiocdhkompekpaaPa
import Derived.WalkKit
import Derived.ProofKit
import Derived.OpenShut
import Derived.SizedLaws
import Derived.Test.YtiocdhkompekpaaPd
import Derived.Deep.Slices
import Derived.Lib.SmallJoins
import Derived.Test.YtiocdhkompekpaaPt
import Derived.Laws.IdiomArrays
namespace Go.Proofs.Ytiocdhkompekpaa
open Go.RowKit Go.Shelf
set_option linter.unusedVariables false
set_option linter.unusedSimpArgs false

/-! PageCuts: the law's walk. -/
theorem own_below22 {N n B : Nat} {e : TypeId} {k : Nat} {v : Value} {xs : List Value} {w w' : World} (h : w.ownsRow N e k v n xs) (hb : Below w.heap.size w w') : w'.ownsRow N e k v n xs :=
  own_old22 h (fun r hr => hb.block r (h.lt r hr).2)
theorem dev_cells22 {w w' : World} {g : Nat} {d : Dv22} (q : w.heap[g]? = some (.cells #[.int .u64 (d.p : Int), .int .u64 (d.q : Int), .bool d.ac, .slice d.a0 d.l0.length d.k0, .slice d.a1 d.l1.length d.k1] 29 (0, 0))) (hb : Below w.heap.size w w') :
    w'.cell? ⟨g, 0, none⟩ = some (.int .u64 (d.p : Int)) ∧ w'.cell? ⟨g, 1, none⟩ = some (.int .u64 (d.q : Int)) ∧ w'.cell? ⟨g, 2, none⟩ = some (.bool d.ac) ∧ w'.cell? ⟨g, 3, none⟩ = some (.slice d.a0 d.l0.length d.k0) ∧ w'.cell? ⟨g, 4, none⟩ = some (.slice d.a1 d.l1.length d.k1) := by
  have q1 := (hb.block g (Array.getElem?_eq_some_iff.1 q).1).trans q
  exact ⟨by simp [World.cell?, q1], by simp [World.cell?, q1], by simp [World.cell?, q1], by simp [World.cell?, q1], by simp [World.cell?, q1]⟩
set_option maxRecDepth 100000 in
set_option maxHeartbeats 32000000 in
theorem pageCuts_walk (w : World) (d : Dv22) (hd : Df22 w d) (a : Option Addr) (A : List Int) (cap : Nat) (hA : Seg w a A) (hcap : A.length ≤ cap) (hnil : a = none → cap = 0) (hnb : A.length ≤ 140737488351232) (cb : Option Addr) (C : List Int) (cc : Nat) (hC : Seg64 w cb C) (hcc : C.length ≤ cc) (hcn : cb = none → cc = 0) (hmb : C.length ≤ 140737488351232) :
    Calls Try.prog 7 #[.agg #[.int .u64 (d.p : Int), .int .u64 (d.q : Int), .bool d.ac, .slice d.a0 d.l0.length d.k0, .slice d.a1 d.l1.length d.k1], .slice a A.length cap, .slice cb C.length cc] w fun e w' => e = .returned (.bool true) ∧ Below w.heap.size w w' := by
  obtain ⟨w1, hw1⟩ : ∃ w1, w1 = w.alloc (.cells #[.int .u64 (d.p : Int), .int .u64 (d.q : Int), .bool d.ac, .slice d.a0 d.l0.length d.k0, .slice d.a1 d.l1.length d.k1] 29) := ⟨_, rfl⟩
  have HW1 : Hid (w.alloc (.cells #[.int .u64 (d.p : Int), .int .u64 (d.q : Int), .bool d.ac, .slice d.a0 d.l0.length d.k0, .slice d.a1 d.l1.length d.k1] 29) = w1) := hw1.symm
  have b1 : Below w.heap.size w w1 := by rw [hw1]; exact (Below.refl _ _).alloc (Nat.le_refl _) _
  obtain ⟨g1, hg1⟩ : ∃ g1, g1 = w.heap.size := ⟨_, rfl⟩
  have HG1 : Hid (w.heap.size = g1) := hg1.symm
  have q1 : w1.heap[g1]? = some (.cells #[.int .u64 (d.p : Int), .int .u64 (d.q : Int), .bool d.ac, .slice d.a0 d.l0.length d.k0, .slice d.a1 d.l1.length d.k1] 29 (0, 0)) := by rw [hw1, hg1]; exact heap_alloc_new _ _
  have HQ1 : Hid (w1.heap[g1]? = some (.cells #[.int .u64 (d.p : Int), .int .u64 (d.q : Int), .bool d.ac, .slice d.a0 d.l0.length d.k0, .slice d.a1 d.l1.length d.k1] 29 (0, 0))) := q1
  obtain ⟨c0, c1, c2, c3, c4⟩ := dev_cells22 q1 (Below.refl _ _)
  have hSH := pshape22 d w1 hd.p hd.q
  have hbd := d.bd
  have hA01 : d.A = 0 ∨ d.A = 1 := by unfold Dv22.A; split <;> omega
  obtain ⟨n, hn⟩ : ∃ n, n = A.length := ⟨_, rfl⟩
  obtain ⟨m, hm⟩ : ∃ m, m = C.length := ⟨_, rfl⟩
  have HND : Hid (A.length = n ∧ C.length = m ∧ n ≤ cap ∧ n ≤ 140737488351232 ∧ m ≤ 140737488351232 ∧ (a = none → cap = 0)) := ⟨hn.symm, hm.symm, by omega, by omega, by omega, hnil⟩
  have HDF : Hid (Df22 w d ∧ Seg w a A ∧ Seg64 w cb C) := ⟨hd, hA, hC⟩
  rw [← hn, ← hm]
  obtain ⟨P, hP⟩ : ∃ P, P = d.P := ⟨_, rfl⟩
  obtain ⟨Q, hQ⟩ : ∃ Q, Q = d.Q := ⟨_, rfl⟩
  obtain ⟨PQ, hPQ⟩ : ∃ PQ, PQ = P * Q := ⟨_, rfl⟩
  obtain ⟨T, hT⟩ : ∃ T, T = min n PQ := ⟨_, rfl⟩
  obtain ⟨AC, hAC⟩ : ∃ AC, AC = d.A := ⟨_, rfl⟩
  obtain ⟨AR, hAR⟩ : ∃ AR, AR = 1 - AC := ⟨_, rfl⟩
  obtain ⟨X, hX⟩ : ∃ X, X = T + P := ⟨_, rfl⟩
  obtain ⟨Y, hY⟩ : ∃ Y, Y = T + P - 1 := ⟨_, rfl⟩
  obtain ⟨E, hE⟩ : ∃ E, E = Y / P := ⟨_, rfl⟩
  obtain ⟨D, hD⟩ : ∃ D, D = 2 * E := ⟨_, rfl⟩
  obtain ⟨Q2, hQ2⟩ : ∃ Q2, Q2 = 2 * Q := ⟨_, rfl⟩
  rw [← hP, ← hQ] at hSH hbd
  rw [← hPQ] at hbd
  rw [← hAC] at hA01
  have hEb : E ≤ 360 := by rw [hE]; exact Nat.le_trans (Nat.div_le_self _ _) (by omega)
  have x1 : IntKind.i64.wrap ((P : Int) * (Q : Int)) = (PQ : Int) := by
    have e : (P : Int) * (Q : Int) = (PQ : Int) := by rw [hPQ]; exact (Int.natCast_mul _ _).symm
    rw [e, IntWalk.i64_in _ (by omega)]
  have x2 : (if PQ < n then (PQ : Int) else (n : Int)) = (T : Int) := by split <;> omega
  have x2' : (if (PQ : Int) < (n : Int) then (PQ : Int) else (n : Int)) = (T : Int) := by split <;> omega
  have x3 : IntKind.i64.wrap ((T : Int) + (P : Int)) = (X : Int) := by rw [IntWalk.i64_in _ (by omega)]; omega
  have x4 : IntKind.i64.wrap ((X : Int) - 1) = (Y : Int) := by rw [IntWalk.i64_in _ (by omega)]; omega
  have x5 : Int.tdiv (Y : Int) (P : Int) = (E : Int) := by rw [hE]; rfl
  have x6 : IntKind.i64.wrap (E : Int) = (E : Int) := IntWalk.i64_in _ (by omega)
  have x7 : IntKind.i64.wrap (2 * (E : Int)) = (D : Int) := by rw [IntWalk.i64_in _ (by omega)]; omega
  have x8 : IntKind.i64.wrap (2 * (Q : Int)) = (Q2 : Int) := by rw [IntWalk.i64_in _ (by omega)]; omega
  have x9 : IntKind.i64.wrap (1 - AC) = AR := by rw [IntWalk.i64_in _ (by omega)]; omega
  have p0 : ¬ P = 0 := by omega
  have p0' : ((P : Int) == 0) = false := by simp [p0]
  have p0'' : ¬ (P : Int) = 0 := by omega
  have HNU : Hid (P = d.P ∧ Q = d.Q ∧ PQ = d.P * d.Q ∧ T = min n PQ ∧ AC = d.A ∧ AR = 1 - AC ∧ Y = T + P - 1 ∧ E = Y / P ∧ D = 2 * E ∧ Q2 = 2 * Q ∧ Q ≤ 4 ∧ D ≤ 1000) := ⟨hP, hQ, by rw [hPQ, hP, hQ], hT, hAC, hAR, hY, hE, hD, hQ2, by omega, by omega⟩
  have HKT : Hid (∀ tc, kt22 d.P T tc = if 0 < tc ∧ tc < D then tc else D) := fun tc => by unfold kt22; rw [← hP, ← hY, ← hE, ← hD]
  have HB1 : Hid (Below w.heap.size w w1) := b1
  have hQ8 : Q2 ≤ 8 := by omega
  clear hw1 b1 hg1 q1 hbd hn hm hP hQ hPQ hT hAC hAR hX hY hE hD hQ2 hd hA hC hcap hcc hnil hcn hnb hmb hA01 hEb
  go_enter Try.func7, Try.ntmps7
  go_upto_region 1 with fail
  rw [HW1.out, HG1.out]
  go_wp2_with fail
  refine hSH.mono ?_
  rintro e w4 ⟨rfl, b4⟩
  obtain ⟨g8, hg8⟩ : ∃ g8, g8 = w4.heap.size := ⟨_, rfl⟩
  obtain ⟨w5, hw5⟩ : ∃ w5, w5 = w4.alloc (.cells #[.int .i64 (P : Int), .int .i64 (Q : Int)] 62) := ⟨_, rfl⟩
  have HW5 : Hid (w4.alloc (.cells #[.int .i64 (P : Int), .int .i64 (Q : Int)] 62) = w5) := hw5.symm
  have HG8 : Hid (w4.heap.size = g8) := hg8.symm
  have q8 : w5.heap[g8]? = some (.cells #[.int .i64 (P : Int), .int .i64 (Q : Int)] 62 (0, 0)) := by rw [hw5, hg8]; exact heap_alloc_new _ _
  have b5 : Below w1.heap.size w1 w5 := by rw [hw5]; exact b4.alloc b4.size _
  have HB5 : Hid (Below w1.heap.size w1 w5 ∧ Below w.heap.size w w5) := ⟨b5, HB1.out.trans (b5.mono HB1.out.size)⟩
  have HQ8 : Hid (w5.heap[g8]? = some (.cells #[.int .i64 (P : Int), .int .i64 (Q : Int)] 62 (0, 0))) := q8
  have HS8 : Hid (∀ W : World, Below w5.heap.size w5 W → W.cell? ⟨g8, 0, none⟩ = some (.int .i64 (P : Int)) ∧ W.cell? ⟨g8, 1, none⟩ = some (.int .i64 (Q : Int))) := fun W hW => by
    have q := (hW.block g8 (Array.getElem?_eq_some_iff.1 q8).1).trans q8
    exact ⟨two_cell0 q, two_cell1 q⟩
  have HDV : Hid (∀ W : World, Below w5.heap.size w5 W → W.cell? ⟨g1, 0, none⟩ = some (.int .u64 (d.p : Int)) ∧ W.cell? ⟨g1, 1, none⟩ = some (.int .u64 (d.q : Int)) ∧ W.cell? ⟨g1, 2, none⟩ = some (.bool d.ac) ∧ W.cell? ⟨g1, 3, none⟩ = some (.slice d.a0 d.l0.length d.k0) ∧ W.cell? ⟨g1, 4, none⟩ = some (.slice d.a1 d.l1.length d.k1)) := fun W hW => dev_cells22 HQ1.out (b5.trans (hW.mono b5.size))
  have HTH : Hid (∀ (tc : Nat), tc ≤ 8 → ∀ (W : World), Below w5.heap.size w5 W → ∀ (cb' : Option Addr) (C' : List Int) (m' cc' : Nat), Seg64 W cb' C' → C'.length = m' → m' ≤ 140737488351232 → Calls Try.prog 31 #[.agg #[.int .u64 (d.p : Int), .int .u64 (d.q : Int), .bool d.ac, .slice d.a0 d.l0.length d.k0, .slice d.a1 d.l1.length d.k1], .slice a n cap, .slice cb' m' cc', .int .i64 (tc : Int)] W fun e w' => Th22 W w' d T tc e) := fun tc ht W hW cb' C' m' cc' hs hl hmb => by
    obtain ⟨h1, h2, h3⟩ := HDF.out
    obtain ⟨k1, k2, k3, k4, k5, k6⟩ := HND.out
    have hb : Below w.heap.size w W := HB5.out.2.trans (hW.mono HB5.out.2.size)
    have := pthr22 W d ⟨h1.s0.old hb, h1.s1.old hb, h1.z0, h1.z1, h1.n0, h1.n1, h1.p, h1.q⟩ a A n cap (h2.old hb) k1 k3 k6 k4 cb' C' m' cc' hs hl hmb tc ht
    rw [← HNU.out.2.2.1, ← HNU.out.2.2.2.1] at this
    exact this
  have HCS : Hid (∀ W : World, Below w5.heap.size w5 W → Seg64 W cb C) := fun W hW => HDF.out.2.2.old (HB5.out.2.trans (hW.mono HB5.out.2.size))
  have HAW : Hid (∀ W : World, Calls Try.prog 9 #[] W fun e w' => e = .returned (.bool true) ∧ Below W.heap.size W w') := pawk22
  clear hg8 hw5 b4 b5 hSH q8 c0 c1 c2 c3 c4
  go_upto_region 2 with fail
  rw [HW5.out, HG8.out]
  go_wp2_with fail
  go_loopw [8] (fun ti wr => ∃ i : Nat, ti = .int .i64 (i : Int) ∧ i ≤ Q2 + 1 ∧ Below w5.heap.size w5 wr) (fun ti _ => Q2 + 1 - (intOf ti).toNat)
  case atStart => exact ⟨0, rfl, by omega, Below.refl _ _⟩
  case round =>
    obtain ⟨i, rfl, hiQ, hB⟩ := hrel
    have HB : Hid (Below w5.heap.size w5 wr) := hB
    obtain ⟨s0, s1⟩ := HS8.out wr hB
    clear hB
    by_cases hi : i ≤ Q2
    · have hii : (i : Int) ≤ (Q2 : Int) := by omega
      have hiw : IntKind.i64.wrap ((i : Int) + 1) = ((i + 1 : Nat) : Int) := by rw [IntWalk.i64_in _ (by omega)]; omega
      obtain ⟨c0, c1, c2, c3, c4⟩ := HDV.out wr HB.out
      have hT1 := HTH.out i (by omega) wr HB.out cb C m cc (HCS.out wr HB.out) HND.out.2.1 HND.out.2.2.2.2.1
      have hK := HKT.out i
      obtain ⟨K, hKK⟩ : ∃ K, K = kt22 d.P T i := ⟨_, rfl⟩
      have HK : Hid (K = kt22 d.P T i ∧ K = (if 0 < i ∧ i < D then i else D) ∧ K ≤ 1000) := ⟨hKK, by rw [hKK, hK], by rw [hKK, hK]; have := HNU.out; split <;> omega⟩
      clear hK hKK
      go_wp2_with fail
      refine hT1.mono ?_
      rintro e w6 ⟨ra, rc, f, F, S1, rfl, ⟨N1, hr1⟩, hf1, ho1, ha1, b6⟩
      have hB6 : Below w5.heap.size w5 w6 := HB.out.trans (b6.mono HB.out.size)
      have HB6 : Hid (Below w5.heap.size w5 w6) := hB6
      rw [← HK.out.1] at hr1
      rw [← HK.out.1]
      have hT2 := HTH.out i (by omega) w6 hB6 none [] 0 0 (SegK.nil (by decide) _ _) rfl (by omega)
      have HR1 : Hid (w6.ownsRow N1 91 3 (.slice ra K rc) K (lgc21 (od22 (1 - d.A) K)) ∧ Fl21 w6 f F S1 ∧ Ok21 S1 ∧ S1.ac = d.A) := ⟨hr1, hf1, ho1, ha1⟩
      clear hT1 hr1 hf1 ho1 ha1 b6 c0 c1 c2 c3 c4
      obtain ⟨c0, c1, c2, c3, c4⟩ := HDV.out w6 hB6
      clear hB6
      go_wp2_with fail
      refine hT2.mono ?_
      rintro e w7 ⟨rb, rd, f2, F2, S2, rfl, ⟨N2, hr2⟩, hf2, ho2, ha2, b7⟩
      have HB7 : Hid (Below w5.heap.size w5 w7) := HB6.out.trans (b7.mono HB6.out.size)
      rw [← HK.out.1] at hr2
      rw [← HK.out.1]
      have hr1 := own_below22 (B := 0) HR1.out.1 b7
      have hf1 := HR1.out.2.1.old b7
      have hSO := psop22 ra rb K rc rd (od22 (1 - d.A) K) (od22_len _ _) hr1 hr2 (by have := HK.out.2.2; omega)
      have HR2 : Hid (w7.ownsRow N1 91 3 (.slice ra K rc) K (lgc21 (od22 (1 - d.A) K)) ∧ Fl21 w7 f F S1) := ⟨hr1, hf1⟩
      clear hT2 hr1 hr2 hf1 hf2 ho2 ha2 b7 c0 c1 c2 c3 c4
      go_wp2_with fail
      refine hSO.mono ?_
      rintro e w8 ⟨rfl, b8⟩
      have HB8 : Hid (Below w5.heap.size w5 w8) := HB7.out.trans (b8.mono HB7.out.size)
      have hr3 := own_below22 (B := 0) HR2.out.1 b8
      have hAT := pact22 (HR2.out.2.old b8) HR1.out.2.2.1
      rw [HR1.out.2.2.2, ← HNU.out.2.2.2.2.1] at hAT
      have hOR := pord22 ra K rc (1 - d.A) hr3 (by have := HK.out.2.2; omega)
      rw [← HNU.out.2.2.2.2.1, ← HNU.out.2.2.2.2.2.1] at hOR
      clear hSO b8 hr3
      go_wp2_with fail
      refine hAT.mono ?_
      rintro e w9 ⟨rfl, hw9⟩
      subst w9
      go_wp2_with fail
      refine hOR.mono ?_
      rintro e w9 ⟨rfl, hw9⟩
      subst w9
      obtain ⟨s0, s1⟩ := HS8.out w8 HB8.out
      have hK2 := HK.out.2.1
      clear hAT hOR
      by_cases h1 : 0 < i
      · have h1i : (0 : Int) < (i : Int) := by omega
        by_cases h2 : i < D
        · have h2i : (i : Int) < (D : Int) := by omega
          rw [if_pos ⟨h1, h2⟩] at hK2
          go_wp2_with fail
          exact ⟨⟨i + 1, by simp, by omega, HB8.out⟩, by show Q2 + 1 - ((i : Int) + 1).toNat < Q2 + 1 - (i : Int).toNat; omega⟩
        · have h2i : ¬ (i : Int) < (D : Int) := by omega
          rw [if_neg (by omega)] at hK2
          go_wp2_with fail
          exact ⟨⟨i + 1, by simp, by omega, HB8.out⟩, by show Q2 + 1 - ((i : Int) + 1).toNat < Q2 + 1 - (i : Int).toNat; omega⟩
      · have h1i : ¬ (0 : Int) < (i : Int) := by omega
        rw [if_neg (by omega)] at hK2
        go_wp2_with fail
        exact ⟨⟨i + 1, by simp, by omega, HB8.out⟩, by show Q2 + 1 - ((i : Int) + 1).toNat < Q2 + 1 - (i : Int).toNat; omega⟩
    · have hii : ¬ (i : Int) ≤ (Q2 : Int) := by omega
      go_wp2_with fail
      refine (HAW.out _).mono ?_
      rintro e w6 ⟨rfl, b6⟩
      have HB6 : Hid (Below w.heap.size w w6) := by
        have h := HB5.out.2.trans (HB.out.mono HB5.out.2.size)
        exact h.trans (b6.mono h.size)
      clear b6
      go_wp2_with fail
      go_ret
      exact ⟨rfl, HB6.out⟩
end Go.Proofs.Ytiocdhkompekpaa

namespace Go.Proofs.Ytiocdhkompekpaa
open Go.ChangeShapes Go.WideShapes Go.ChangeAt Go.RowKit
set_option linter.unusedVariables false

/-- A slice of whole numbers that came in: what lies there, and how it was read. -/
theorem open_seg {H : Type} {enc : TypeId × Value → H} {P : Program} {W : World} {T e : TypeId} {k : IntKind} {M : Int} {a : Option Addr} {len cap : Nat} {d : DataW H} {p : List MemPlace}
    (hT : P.underlying T = some (.slice e)) (he : P.underlying e = some (.int k)) (hc : P.cellsOf e = 1) (hM : 0 ≤ M) (hwf : ∀ n, (Lit.int k n).wf = true → 0 ≤ n ∧ n ≤ M)
    (h : DataW.Trod enc P W 0 (fun _ => true) true T (.slice a len cap) d p) :
    ∃ zs : List Int, zs.length = len ∧ SegK k M W a zs ∧ len ≤ cap ∧ (a = none → cap = 0) ∧ ((d = .nil ∧ len = 0) ∨ ∃ elems spare, d = .slice elems spare ∧ elems.length = len) := by
  obtain ⟨fuel, hf⟩ := h
  rcases open_ints hT he hc hf with ⟨hcs, hx⟩ | ⟨x, l, c, zs, hcs, _, hl, hm, hz, hx, hcell, hwz⟩
  · simp [Value.cells] at hcs
    obtain ⟨rfl, rfl, rfl⟩ := hcs
    simp only [Prod.mk.injEq] at hx
    exact ⟨[], rfl, SegK.nil hM _ _, Nat.le_refl _, fun _ => rfl, Or.inl ⟨hx.1, rfl⟩⟩
  · simp [Value.cells] at hcs
    obtain ⟨rfl, rfl, rfl⟩ := hcs
    simp only [Prod.mk.injEq] at hx
    simp only [if_true] at hz
    refine ⟨zs.take len, by simp; omega, ⟨fun i hi => ?_, hM, getD_bd hM ?_⟩, hl, (by intro h; cases h), Or.inr ⟨_, _, hx.1, by simp [ChangeShapes.lits]; omega⟩⟩
    · simp at hi
      have hi2 : i < len := by omega
      have h1 := hcell i (by omega)
      obtain ⟨b, off, spot⟩ := x
      have hs : spot = none := by
        have := hcell 0 (by omega)
        simpa [Addr.add] using World.cell?_spot this
      subst hs
      refine ⟨b, off, rfl, ?_⟩
      have hadd : (⟨b, off, none⟩ : Addr).add i = ⟨b, off + i, none⟩ := by unfold Addr.add; split <;> simp_all
      rw [hadd] at h1
      rw [h1]
      simp [List.getD, hi2]
    · intro z hz1
      exact hwf z (hwz z (List.mem_of_mem_take hz1))
end Go.Proofs.Ytiocdhkompekpaa

namespace Go.Proofs.Ytiocdhkompekpaa
open Go.ChangeShapes Go.WideShapes Go.ChangeAt Go.RowKit Go.Deep
set_option linter.unusedVariables false
set_option maxRecDepth 100000

/-! A call, a script, a set-up that came in. -/
structure Oq21 where
  c : Int
  a : Int
  p : Int
  n : Int
  ba : Option Addr
  b : List Int
  bc : Nat
theorem cells_in21 : Try.prog.cellsOf 3 = 1 := by kernel_rfl
theorem cells_sl21 : Try.prog.cellsOf 26 = 1 := by kernel_rfl
theorem cells_u821 : Try.prog.cellsOf 5 = 1 := by kernel_rfl
structure Of21 (W : World) (o : Oq21) : Prop where
  sg : Seg W o.ba o.b
  cap : o.b.length ≤ o.bc
  nil : o.ba = none → o.bc = 0
  c : In21 o.c
  a : In21 o.a
  p : In21 o.p
  n : In21 o.n
theorem slc21 {H : Type} {enc : TypeId × Value → H} {W : World} {k : Nat} {v : Value} {y : DataW H × List MemPlace} (g : DataW.trod enc Try.prog W 0 (fun _ => true) true k 26 [v] = some y) :
    ∃ (ba : Option Addr) (p : List Int) (bc : Nat), v = .slice ba p.length bc ∧ Seg W ba p ∧ p.length ≤ bc ∧ (ba = none → bc = 0) ∧ ((y.1 = .nil ∧ p.length = 0) ∨ ∃ elems spare, y.1 = .slice elems spare ∧ elems.length = p.length) := by
  obtain ⟨ba, bl, bc, rfl⟩ : ∃ ba bl bc, v = .slice ba bl bc := by
    rcases open_ints Try.underlying26 Try.underlying5 cells_u821 g with ⟨hcs, _⟩ | ⟨x, l, c, zs, hcs, _⟩
    · simp at hcs; exact ⟨_, _, _, hcs⟩
    · simp at hcs; exact ⟨_, _, _, hcs⟩
  have ht : DataW.Trod enc Try.prog W 0 (fun _ => true) true 26 (.slice ba bl bc) y.1 y.2 := ⟨k, by simpa [Value.cells] using g⟩
  obtain ⟨p, hp, hseg, hcap, hnil, hd⟩ := open_seg (k := .u8) (M := 255) Try.underlying26 Try.underlying5 cells_u821 (by decide) (fun n hn => bounds_u8 hn) ht
  subst hp
  exact ⟨ba, p, bc, rfl, hseg, hcap, hnil, hd⟩
/-- A script in memory. -/
structure Ss21 (W : World) (a : Option Addr) (len : Nat) (O : Nat → Oq21) : Prop where
  at_ : ∀ i, i < len → ∃ g off, a = some ⟨g, off, none⟩ ∧ W.cell? ⟨g, off + i * 5, none⟩ = some (.int .i64 (O i).c) ∧ W.cell? ⟨g, off + i * 5 + 1, none⟩ = some (.int .i64 (O i).a) ∧ W.cell? ⟨g, off + i * 5 + 2, none⟩ = some (.int .i64 (O i).p) ∧ W.cell? ⟨g, off + i * 5 + 3, none⟩ = some (.int .i64 (O i).n) ∧ W.cell? ⟨g, off + i * 5 + 4, none⟩ = some (.slice (O i).ba (O i).b.length (O i).bc)
  of : ∀ i, i < len → Of21 W (O i)
/-- A set-up that came in. -/
structure Su21 where
  p : Int
  q : Int
  ac : Int
  a0 : Option Addr
  l0 : List Int
  k0 : Nat
  a1 : Option Addr
  l1 : List Int
  k1 : Nat
structure Sf21 (W : World) (s : Su21) : Prop where
  s0 : Seg W s.a0 s.l0
  s1 : Seg W s.a1 s.l1
  z0 : s.l0.length ≤ s.k0
  z1 : s.l1.length ≤ s.k1
  p : In21 s.p
  q : In21 s.q
  ac : In21 s.ac
end Go.Proofs.Ytiocdhkompekpaa

namespace Go.Proofs.Ytiocdhkompekpaa
open Go.ChangeShapes Go.WideShapes Go.ChangeAt Go.RowKit
set_option linter.unusedVariables false
set_option maxRecDepth 100000

theorem cells_ui22 : Try.prog.cellsOf 25 = 1 := by kernel_rfl
theorem cells_bo22 : Try.prog.cellsOf 4 = 1 := by kernel_rfl
theorem cells_ar22 : Try.prog.cellsOf 27 = 2 := by kernel_rfl
theorem cells_dv22 : Try.prog.cellsOf 29 = 5 := by kernel_rfl
/-- Two slices in an array. -/
theorem trod_two22 {H : Type} {enc : TypeId × Value → H} {W : World} {fuel : Nat} {t e : TypeId} {c0 c1 : Value} {x : DataW H × List MemPlace} (ht : Try.prog.underlying t = some (.array 2 e)) (hce : Try.prog.cellsOf e = 1)
    (h : DataW.trod enc Try.prog W 0 (fun _ => true) true fuel t [c0, c1] = some x) :
    ∃ y0 y1 n, DataW.trod enc Try.prog W 0 (fun _ => true) true n e [c0] = some y0 ∧ DataW.trod enc Try.prog W 0 (fun _ => true) true n e [c1] = some y1 := by
  obtain ⟨xs, k, hx⟩ := DataW.trod_array ht h
  obtain ⟨_, _, _, hl, hf⟩ := hx
  match xs, hl with
  | [y0, y1], _ =>
    have g0 := hf 0 (by omega)
    have g1 := hf 1 (by omega)
    simp [hce] at g0 g1
    exact ⟨_, _, k, g0, g1⟩
/-- A device that came in. -/
theorem open_dev22 {H : Type} {enc : TypeId × Value → H} {W : World} {r : Reach} {b0 : Nat} {v : Value} {d : DataW H} {pl : List MemPlace}
    (hv : Value.okWide Try.prog W r b0 29 v) (h : DataW.Trod enc Try.prog W 0 (fun _ => true) true 29 v d pl) :
    ∃ s : Dv22, v = .agg #[.int .u64 (s.p : Int), .int .u64 (s.q : Int), .bool s.ac, .slice s.a0 s.l0.length s.k0, .slice s.a1 s.l1.length s.k1] ∧ Df22 W s := by
  obtain ⟨cs, rfl, hsz⟩ := okWide_struct Try.underlying29 hv
  rw [cells_dv22] at hsz
  obtain ⟨l⟩ := cs
  match l, hsz with
  | [u0, u1, u2, u3, u4], _ =>
    obtain ⟨fuel, hf⟩ := h
    obtain ⟨xs, kk, _, hd, _, hxl, hfl⟩ := DataW.trod_struct Try.underlying29 hf
    match xs, hxl with
    | [y0, y1, y2, y3], _ =>
      have g0 := hfl 0 _ rfl
      have g1 := hfl 1 _ rfl
      have g2 := hfl 2 _ rfl
      have g3 := hfl 3 _ rfl
      simp [cells_ui22, cells_bo22, cells_ar22, Value.cells] at g0 g1 g2 g3
      obtain ⟨V0, e0, _, w0⟩ := DataW.trod_int Try.underlying25 g0
      obtain ⟨V1, e1, _, w1⟩ := DataW.trod_int Try.underlying25 g1
      obtain ⟨V2, e2, _⟩ := DataW.trod_bool Try.underlying4 g2
      obtain ⟨z0, z1, n, t0, t1⟩ := trod_two22 Try.underlying27 cells_sl21 g3
      simp at e0 e1 e2
      subst e0 e1 e2
      obtain ⟨ba, p, bc, rfl, hs, hc, hn, _⟩ := slc21 t0
      obtain ⟨ba', p', bc', rfl, hs', hc', hn', _⟩ := slc21 t1
      have b0 := bounds_u64 w0
      have b1 := bounds_u64 w1
      refine ⟨⟨V0.toNat, V1.toNat, V2, ba, p, bc, ba', p', bc'⟩, ?_, ⟨hs, hs', hc, hc', hn, hn', ?_, ?_⟩⟩
      · show _ = Value.agg #[.int .u64 ((V0.toNat : Nat) : Int), .int .u64 ((V1.toNat : Nat) : Int), _, _, _]
        rw [show ((V0.toNat : Nat) : Int) = V0 by omega, show ((V1.toNat : Nat) : Int) = V1 by omega]
      · show V0.toNat < _; omega
      · show V1.toNat < _; omega
end Go.Proofs.Ytiocdhkompekpaa
