
import Derived.Test.YtjoghmdjnkdokaaDoorOpenFl
import Derived.Lib.SmallJoins
namespace Go.Proofs.YtjoghmdjnkdokaaDoor
open Go.ChangeShapes Go.WideShapes Go.ChangeAt Go.RowKit Go.Deep
set_option linter.unusedVariables false
set_option maxRecDepth 100000

/-! A script that came in, with how long its bytes may be. -/
theorem weightsAll_mem24 {H : Type} {P : Program} {e : TypeId} {d : DataW H} {n : Nat} (hn : n ∈ d.weights P e) : ∀ {l : List (DataW H)}, d ∈ l → n ∈ DataW.weightsAll P e l
  | d0 :: r, h => by
    simp only [DataW.weightsAll, List.mem_append]
    rcases List.mem_cons.1 h with rfl | h
    · exact .inl hn
    · exact .inr (weightsAll_mem24 hn h)
theorem bytes_u24 : Tryd.prog.bytesOf 5 = 1 := by kernel_rfl
theorem one_op21w {H : Type} {enc : TypeId × Value → H} {W : World} {n : Nat} {cs : List Value} {x : DataW H × List MemPlace} (h : DataW.trod enc Tryd.prog W 0 (fun _ => true) true n 40 cs = some x) (hl : cs.length = 5)
    (hw : ∀ m ∈ x.1.weights Tryd.prog 40, m ≤ reachBytes) :
    ∃ (o : Oq21), cs = [.int .i64 o.c, .int .i64 o.a, .int .i64 o.p, .int .i64 o.n, .slice o.ba o.b.length o.bc] ∧ Of21 W o ∧ o.b.length ≤ 140737488351232 := by
  obtain ⟨xs, k, _, hx, _, hxl, hf⟩ := DataW.trod_struct Tryd.underlying40 h
  match cs, hl with
  | [v0, v1, v2, v3, v4], _ =>
    match xs, hxl with
    | [y0, y1, y2, y3, y4], _ =>
      have g0 := hf 0 _ rfl
      have g1 := hf 1 _ rfl
      have g2 := hf 2 _ rfl
      have g3 := hf 3 _ rfl
      have g4 := hf 4 _ rfl
      simp [cells_in21, cells_sl21] at g0 g1 g2 g3 g4
      obtain ⟨V0, e0, _, w0⟩ := DataW.trod_int Tryd.underlying3 g0
      obtain ⟨V1, e1, _, w1⟩ := DataW.trod_int Tryd.underlying3 g1
      obtain ⟨V2, e2, _, w2⟩ := DataW.trod_int Tryd.underlying3 g2
      obtain ⟨V3, e3, _, w3⟩ := DataW.trod_int Tryd.underlying3 g3
      simp at e0 e1 e2 e3
      subst e0 e1 e2 e3
      obtain ⟨ba, p, bc, rfl, hs, hc, hn, hd⟩ := slc21 g4
      refine ⟨⟨V0, V1, V2, V3, ba, p, bc⟩, rfl, ⟨hs, hc, hn, bounds_i64 w0, bounds_i64 w1, bounds_i64 w2, bounds_i64 w3⟩, ?_⟩
      rcases hd with ⟨_, h0⟩ | ⟨elems, spare, h1, h2⟩
      · show p.length ≤ _; omega
      · have hm : (elems.length + spare.length) * Tryd.prog.bytesOf 5 ∈ x.1.weights Tryd.prog 40 := by
          rw [hx]
          simp only [DataW.weights, Tryd.underlying40]
          refine DataW.weights_mem_each (j := 4) (t := 22) (d := y4.1) rfl rfl _ ?_
          rw [h1]
          simp [DataW.weights, Tryd.underlying22]
        have := hw _ hm
        rw [bytes_u24] at this
        simp only [reachBytes] at this
        show p.length ≤ _
        omega
theorem open_script21w {H : Type} {enc : TypeId × Value → H} {W : World} {a : Option Addr} {len cap : Nat} {d : DataW H} {pl : List MemPlace}
    (h : DataW.Trod enc Tryd.prog W 0 (fun _ => true) true 25 (.slice a len cap) d pl) (hw : (d.weights Tryd.prog 25).all (· ≤ reachBytes) = true) :
    ∃ O : Nat → Oq21, Ss21 W a len O ∧ (∀ i, i < len → (O i).b.length ≤ 140737488351232) ∧ ((d = .nil ∧ len = 0) ∨ ∃ elems spare, d = .slice elems spare ∧ elems.length = len) := by
  obtain ⟨fuel, hf⟩ := h
  rcases open_slice Tryd.underlying25 hf with ⟨hcs, hx⟩ | ⟨x, l, c, m, n, D, Pl, hcs, _, hl, hm, hmm, hx, hat⟩
  · simp [Value.cells] at hcs
    obtain ⟨rfl, rfl, rfl⟩ := hcs
    simp only [Prod.mk.injEq] at hx
    exact ⟨fun _ => ⟨0, 0, 0, 0, none, [], 0⟩, ⟨fun i hi => by omega, fun i hi => by omega⟩, fun i hi => by omega, Or.inl ⟨hx.1, rfl⟩⟩
  · simp [Value.cells] at hcs
    obtain ⟨rfl, rfl, rfl⟩ := hcs
    simp only [Prod.mk.injEq] at hx
    simp only [if_true] at hmm
    subst hmm
    rw [cells_op21] at hat
    have hwi : ∀ i, i < len → ∀ y ∈ (D i).weights Tryd.prog 40, y ≤ reachBytes := fun i hi y hy => by
      rw [hx.1] at hw
      have hm : y ∈ DataW.weightsAll Tryd.prog 40 ((List.range len).map D) := weightsAll_mem24 hy (List.mem_map.2 ⟨i, List.mem_range.2 hi, rfl⟩)
      have := List.all_eq_true.1 hw y (by simp only [DataW.weights, Tryd.underlying25, List.mem_cons, List.mem_append]; exact .inr (.inl hm))
      simpa using this
    have key : ∀ i, i < len → ∃ o : Oq21, W.cell? (x.add (i * 5)) = some (.int .i64 o.c) ∧ W.cell? (x.add (i * 5 + 1)) = some (.int .i64 o.a) ∧ W.cell? (x.add (i * 5 + 2)) = some (.int .i64 o.p) ∧ W.cell? (x.add (i * 5 + 3)) = some (.int .i64 o.n) ∧ W.cell? (x.add (i * 5 + 4)) = some (.slice o.ba o.b.length o.bc) ∧ Of21 W o ∧ o.b.length ≤ 140737488351232 := by
      intro i hi
      obtain ⟨cs', h1, h2⟩ := hat i (by omega)
      obtain ⟨_, hlen, hcell⟩ := World.cells?_some h1
      obtain ⟨o, rfl, hO, hB⟩ := one_op21w h2 hlen (hwi i (by omega))
      have e0 := hcell 0 (by omega)
      have e1 := hcell 1 (by omega)
      have e2 := hcell 2 (by omega)
      have e3 := hcell 3 (by omega)
      have e4 := hcell 4 (by omega)
      rw [add_add] at e0 e1 e2 e3 e4
      exact ⟨o, by simpa using e0, by simpa using e1, by simpa using e2, by simpa using e3, by simpa using e4, hO, hB⟩
    haveI : Inhabited Oq21 := ⟨⟨0, 0, 0, 0, none, [], 0⟩⟩
    obtain ⟨q, hq⟩ := choose_lt key
    refine ⟨q, ⟨fun i hi => ?_, fun i hi => (hq i (by omega)).2.2.2.2.2.1⟩, fun i hi => (hq i (by omega)).2.2.2.2.2.2, Or.inr ⟨_, _, hx.1, by simp⟩⟩
    obtain ⟨h0, h1, h2, h3, h4, _⟩ := hq i (by omega)
    obtain ⟨b, off, spot⟩ := x
    have hs : spot = none := by
      obtain ⟨h5, _⟩ := hq 0 (by omega)
      simpa [Addr.add] using World.cell?_spot h5
    subst hs
    have hadd : ∀ j, (⟨b, off, none⟩ : Addr).add j = ⟨b, off + j, none⟩ := by intro j; unfold Addr.add; split <;> simp_all
    rw [hadd] at h0 h1 h2 h3 h4
    exact ⟨b, off, rfl, h0, by rw [Nat.add_assoc]; exact h1, by rw [Nat.add_assoc]; exact h2, by rw [Nat.add_assoc]; exact h3, by rw [Nat.add_assoc]; exact h4⟩
structure Sg21 (s : Su21) : Prop where
  n0 : s.a0 = none → s.k0 = 0
  n1 : s.a1 = none → s.k1 = 0
  b0 : s.l0.length ≤ 140737488351232
  b1 : s.l1.length ≤ 140737488351232
theorem open_setup21w {H : Type} {enc : TypeId × Value → H} {W : World} {r : Reach} {b0 : Nat} {v : Value} {d : DataW H} {pl : List MemPlace}
    (hv : Value.okWide Tryd.prog W r b0 24 v) (h : DataW.Trod enc Tryd.prog W 0 (fun _ => true) true 24 v d pl) (hw : (d.weights Tryd.prog 24).all (· ≤ reachBytes) = true) :
    ∃ s : Su21, v = .agg #[.int .i64 s.p, .int .i64 s.q, .int .i64 s.ac, .slice s.a0 s.l0.length s.k0, .slice s.a1 s.l1.length s.k1] ∧ Sf21 W s ∧ Sg21 s := by
  obtain ⟨cs, rfl, hsz⟩ := okWide_struct Tryd.underlying24 hv
  rw [cells_su21] at hsz
  obtain ⟨l⟩ := cs
  match l, hsz with
  | [u0, u1, u2, u3, u4], _ =>
    obtain ⟨fuel, hf⟩ := h
    obtain ⟨xs, kk, _, hd, _, hxl, hfl⟩ := DataW.trod_struct Tryd.underlying24 hf
    match xs, hxl with
    | [y0, y1, y2, y3, y4], _ =>
      have g0 := hfl 0 _ rfl
      have g1 := hfl 1 _ rfl
      have g2 := hfl 2 _ rfl
      have g3 := hfl 3 _ rfl
      have g4 := hfl 4 _ rfl
      simp [cells_in21, cells_sl21, Value.cells] at g0 g1 g2 g3 g4
      obtain ⟨V0, e0, _, w0⟩ := DataW.trod_int Tryd.underlying3 g0
      obtain ⟨V1, e1, _, w1⟩ := DataW.trod_int Tryd.underlying3 g1
      obtain ⟨V2, e2, _, w2⟩ := DataW.trod_int Tryd.underlying3 g2
      simp at e0 e1 e2
      subst e0 e1 e2
      obtain ⟨ba, p, bc, rfl, hs, hc, hn, hq⟩ := slc21 g3
      obtain ⟨ba', p', bc', rfl, hs', hc', hn', hq'⟩ := slc21 g4
      have key : ∀ (j : Nat) (y : DataW H × List MemPlace) (m : Nat), ((j = 3 ∧ y = y3) ∨ (j = 4 ∧ y = y4)) → ((y.1 = .nil ∧ m = 0) ∨ ∃ elems spare, y.1 = .slice elems spare ∧ elems.length = m) → m ≤ 140737488351232 := by
        intro j y m hj hm
        rcases hm with ⟨_, h0⟩ | ⟨elems, spare, h1, h2⟩
        · omega
        · have hmm : (elems.length + spare.length) * Tryd.prog.bytesOf 5 ∈ d.weights Tryd.prog 24 := by
            have hd' := congrArg Prod.fst hd
            simp only at hd'
            rw [hd']
            simp only [DataW.weights, Tryd.underlying24]
            refine DataW.weights_mem_each (j := j) (t := 22) (d := y.1) ?_ ?_ _ ?_
            · rcases hj with ⟨rfl, _⟩ | ⟨rfl, _⟩ <;> rfl
            · rcases hj with ⟨rfl, rfl⟩ | ⟨rfl, rfl⟩ <;> rfl
            · rw [h1]; simp [DataW.weights, Tryd.underlying22]
          have := List.all_eq_true.1 hw _ hmm
          rw [bytes_u24] at this
          simp [reachBytes] at this
          omega
      exact ⟨⟨V0, V1, V2, ba, p, bc, ba', p', bc'⟩, rfl, ⟨hs, hs', hc, hc', bounds_i64 w0, bounds_i64 w1, bounds_i64 w2⟩, ⟨hn, hn', key 3 y3 _ (.inl ⟨rfl, rfl⟩) hq, key 4 y4 _ (.inr ⟨rfl, rfl⟩) hq'⟩⟩
end Go.Proofs.YtjoghmdjnkdokaaDoor
