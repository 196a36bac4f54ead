import Derived.Test.YtmjlpfmacblcpaaDoorOpenBo
import Derived.Test.YtmjlpfmacblcpaaDoorOpenFl
import Derived.Deep.MidRow
namespace Go.Proofs.YtmjlpfmacblcpaaDoor
open Go.ChangeShapes Go.WideShapes Go.ChangeAt Go.RowKit Go.Deep
set_option linter.unusedVariables false
set_option maxRecDepth 100000
theorem weightsAll_mem25 {H : Type} {P : Program} {e : TypeId} {d : DataW H} {n : Nat} (hn : n ∈ d.weights P e) : ∀ {l : List (DataW H)}, d ∈ l → n ∈ DataW.weightsAll P e l
  | d0 :: r, h => by
    simp only [DataW.weightsAll, List.mem_append]
    rcases List.mem_cons.1 h with rfl | h
    · exact .inl hn
    · exact .inr (weightsAll_mem25 hn h)
/-- A row of structs of n cells each lies at a slice. -/
def Rw25 (n : Nat) (W : World) (a : Option Addr) (len : Nat) (C : Nat → List Value) : Prop := ∀ i, i < len → ∃ g off, a = some ⟨g, off, none⟩ ∧ g < W.heap.size ∧ W.rangeAt g (off + i * n) (C i)
theorem Rw25.old {n : Nat} {W W' : World} {a : Option Addr} {len : Nat} {C : Nat → List Value} (h : Rw25 n W a len C) (b : Below W.heap.size W W') : Rw25 n W' a len C := fun i hi => by
  obtain ⟨g, off, e, hg, hr⟩ := h i hi
  exact ⟨g, off, e, by have := b.size; omega, fun j v hv => (b.cell (p := ⟨g, off + i * n + j, none⟩) hg).trans (hr j v hv)⟩
theorem rng25_of {W : World} {g off : Nat} {n k : Nat} {cs : List Value} (h : W.cells? 0 ((⟨g, off, none⟩ : Addr).add k) n = some cs) : W.rangeAt g (off + k) cs ∧ cs.length = n := by
  obtain ⟨_, hlen, hcell⟩ := World.cells?_some h
  refine ⟨fun j v hv => ?_, hlen⟩
  have hj : j < n := by have := (List.getElem?_eq_some_iff.1 hv).1; omega
  have := hcell j hj
  rw [Addr.add_mid, Addr.add_mid] at this
  exact this.trans hv
theorem spot25 {W : World} {x : Addr} {n m : Nat} {cs : List Value} (h : W.cells? 0 (x.add (0 * m)) n = some cs) (hn : 0 < n) : ∃ g off, x = ⟨g, off, none⟩ := by
  obtain ⟨_, hlen, hcell⟩ := World.cells?_some h
  obtain ⟨g, off, spot⟩ := x
  have e0 := hcell 0 hn
  have e1 := World.cell?_spot (e0.trans (List.getElem?_eq_getElem (by omega)))
  refine ⟨g, off, ?_⟩
  have : spot = none := by simpa [Addr.add] using e1
  rw [this]
theorem one_img25 {H : Type} {enc : TypeId × Value → H} {W : World} {n : Nat} {cs : List Value} {x : DataW H × List MemPlace} (h : DataW.trod enc Tryd.prog W 0 (fun _ => true) true n 50 cs = some x) (hl : cs.length = 4) : ∃ i : Im25, cs = i.cs.toList ∧ i.wd := by
  obtain ⟨xs, kk, _, hd, _, hxl, hfl⟩ := DataW.trod_struct Tryd.underlying50 h
  match cs, hl with
  | [u0, u1, u2, u3], _ =>
    match xs, hxl with
    | [y0, y1, y2, y3], _ =>
      have g0 := hfl 0 _ rfl
      have g1 := hfl 1 _ rfl
      have g2 := hfl 2 _ rfl
      have g3 := hfl 3 _ rfl
      simp [cells_int25, cells_u3225] at g0 g1 g2 g3
      obtain ⟨V0, e0, _, w0⟩ := DataW.trod_int Tryd.underlying3 g0
      obtain ⟨V1, e1, _, w1⟩ := DataW.trod_int Tryd.underlying3 g1
      obtain ⟨V2, e2, _, w2⟩ := DataW.trod_int Tryd.underlying3 g2
      obtain ⟨V3, e3, _, w3⟩ := DataW.trod_int Tryd.underlying48 g3
      (try simp at e0)
      (try simp at e1)
      (try simp at e2)
      (try simp at e3)
      subst e0 e1 e2 e3
      have b3 := bounds_u32 w3
      exact ⟨⟨V0, V1, V2, V3⟩, rfl, b3.1, by show V3 ≤ 4294967295; omega⟩
theorem one_rec25 {H : Type} {enc : TypeId × Value → H} {W : World} {n : Nat} {cs : List Value} {x : DataW H × List MemPlace} (h : DataW.trod enc Tryd.prog W 0 (fun _ => true) true n 52 cs = some x) (hl : cs.length = 10) : ∃ r : Rc25, cs = r.cs.toList ∧ r.wd := by
  obtain ⟨xs, kk, _, hd, _, hxl, hfl⟩ := DataW.trod_struct Tryd.underlying52 h
  match cs, hl with
  | [u0, u1, u2, u3, u4, u5, u6, u7, u8, u9], _ =>
    match xs, hxl with
    | [y0, y1, y2, y3], _ =>
      have g0 := hfl 0 _ rfl
      have g1 := hfl 1 _ rfl
      have g2 := hfl 2 _ rfl
      have g3 := hfl 3 _ rfl
      simp [cells_int25, cells_im25] at g0 g1 g2 g3
      obtain ⟨V0, e0, _, w0⟩ := DataW.trod_int Tryd.underlying3 g0
      obtain ⟨V9, e9, _, w9⟩ := DataW.trod_int Tryd.underlying3 g3
      obtain ⟨A, ha, wa⟩ := one_img25 g1 rfl
      obtain ⟨C, hc, wc⟩ := one_img25 g2 rfl
      (try simp at e0)
      (try simp at e9)
      simp [Im25.cs] at ha hc
      obtain ⟨rfl, rfl, rfl, rfl⟩ := ha
      obtain ⟨rfl, rfl, rfl, rfl⟩ := hc
      subst e0 e9
      exact ⟨⟨V0, A, C, V9⟩, rfl, wa, wc⟩
theorem open_imgs25 {H : Type} {enc : TypeId × Value → H} {W : World} {a : Option Addr} {len cap : Nat} {d : DataW H} {pl : List MemPlace}
    (h : DataW.Trod enc Tryd.prog W 0 (fun _ => true) true 74 (.slice a len cap) d pl) :
    ∃ I : Nat → Im25, Rw25 4 W a len (fun i => (I i).cs.toList) ∧ (∀ i, i < len → (I i).wd) := by
  obtain ⟨fuel, hf⟩ := h
  rcases open_slice Tryd.underlying74 hf with ⟨hcs, hx⟩ | ⟨x, l, c, m, n, D, Pl, hcs, _, hl, hm, hmm, hx, hat⟩
  · simp [Value.cells] at hcs
    obtain ⟨rfl, rfl, rfl⟩ := hcs
    exact ⟨fun _ => no25, fun i hi => by omega, fun i hi => by omega⟩
  · simp [Value.cells] at hcs
    obtain ⟨rfl, rfl, rfl⟩ := hcs
    simp only [if_true] at hmm
    subst hmm
    rw [cells_im25] at hat
    have key : ∀ i, i < len → ∃ y : Im25, (∃ g off, x = ⟨g, off, none⟩ ∧ W.rangeAt g (off + i * 4) y.cs.toList) ∧ y.wd := by
      intro i hi
      obtain ⟨cs', h1, h2⟩ := hat i (by omega)
      obtain ⟨cs0, h10, _⟩ := hat 0 (by omega)
      obtain ⟨g, off, e⟩ := spot25 h10 (by omega)
      rw [e] at h1
      obtain ⟨hr, hlen⟩ := rng25_of h1
      obtain ⟨y, rfl, hy⟩ := one_img25 h2 hlen
      exact ⟨y, ⟨g, off, e, hr⟩, hy⟩
    haveI : Inhabited Im25 := ⟨no25⟩
    obtain ⟨q, hq⟩ := choose_lt key
    refine ⟨q, fun i hi => ?_, fun i hi => (hq i hi).2⟩
    obtain ⟨⟨g, off, e, hr⟩, _⟩ := hq i hi
    exact ⟨g, off, by rw [e], World.block_lt_of_cell? W _ (hr 0 _ rfl), hr⟩
/-- A call of BootWrites, BootTries. -/
structure Oq25 where
  c : Int
  r : Rc25
  n : Int
  ba : Option Addr
  b : List Int
  bc : Nat
  p : Int
def Oq25.cl (o : Oq25) : List Value := [.int .i64 o.c, .int .i64 o.r.q, .int .i64 o.r.g.s, .int .i64 o.r.g.v, .int .i64 o.r.g.z, .int .u32 o.r.g.m, .int .i64 o.r.n.s, .int .i64 o.r.n.v, .int .i64 o.r.n.z, .int .u32 o.r.n.m, .int .i64 o.r.t, .int .i64 o.n, .slice o.ba o.b.length o.bc, .int .i64 o.p]
structure Of25 (W : World) (o : Oq25) : Prop where
  sg : Seg W o.ba o.b
  cap : o.b.length ≤ o.bc
  nil : o.ba = none → o.bc = 0
  ln : o.b.length ≤ 140737488351232
  wd : o.r.wd
  c : In21 o.c
  n : In21 o.n
  p : In21 o.p
theorem cells_op25 : Tryd.prog.cellsOf 54 = 14 := by kernel_rfl
theorem bytes_u25 : Tryd.prog.bytesOf 5 = 1 := by kernel_rfl
theorem one_op25 {H : Type} {enc : TypeId × Value → H} {W : World} {n : Nat} {cs : List Value} {x : DataW H × List MemPlace} (h : DataW.trod enc Tryd.prog W 0 (fun _ => true) true n 54 cs = some x) (hl : cs.length = 14)
    (hw : ∀ m ∈ x.1.weights Tryd.prog 54, m ≤ reachBytes) : ∃ o : Oq25, cs = o.cl ∧ Of25 W o := by
  obtain ⟨xs, k, _, hx, _, hxl, hf⟩ := DataW.trod_struct Tryd.underlying54 h
  match cs, hl with
  | [v0, v1, v2, v3, v4, v5, v6, v7, v8, v9, v10, v11, v12, v13], _ =>
    match xs, hxl with
    | [y0, y1, y2, y3, y4], _ =>
      have g0 := hf 0 _ rfl
      have g1 := hf 1 _ rfl
      have g2 := hf 2 _ rfl
      have g3 := hf 3 _ rfl
      have g4 := hf 4 _ rfl
      simp [cells_in21, cells_sl21, cells_rc25] at g0 g1 g2 g3 g4
      obtain ⟨V0, e0, _, w0⟩ := DataW.trod_int Tryd.underlying3 g0
      obtain ⟨V2, e2, _, w2⟩ := DataW.trod_int Tryd.underlying3 g2
      obtain ⟨V4, e4, _, w4⟩ := DataW.trod_int Tryd.underlying3 g4
      obtain ⟨R, hR, wR⟩ := one_rec25 g1 rfl
      simp at e0 e2 e4
      subst e0 e2 e4
      simp [Rc25.cs] at hR
      obtain ⟨rfl, rfl, rfl, rfl, rfl, rfl, rfl, rfl, rfl, rfl⟩ := hR
      obtain ⟨ba, p, bc, rfl, hs, hc, hn, hd⟩ := slc21 g3
      refine ⟨⟨V0, R, V2, ba, p, bc, V4⟩, rfl, ⟨hs, hc, hn, ?_, wR, bounds_i64 w0, bounds_i64 w2, bounds_i64 w4⟩⟩
      rcases hd with ⟨_, h0⟩ | ⟨elems, spare, h1, h2⟩
      · show p.length ≤ _; omega
      · have hm : (elems.length + spare.length) * Tryd.prog.bytesOf 5 ∈ x.1.weights Tryd.prog 54 := by
          rw [hx]
          simp only [DataW.weights, Tryd.underlying54]
          refine DataW.weights_mem_each (j := 3) (t := 22) (d := y3.1) rfl rfl _ ?_
          rw [h1]
          simp [DataW.weights, Tryd.underlying22]
        have := hw _ hm
        rw [bytes_u25] at this
        simp only [reachBytes] at this
        show p.length ≤ _
        omega
theorem open_script25 {H : Type} {enc : TypeId × Value → H} {W : World} {a : Option Addr} {len cap : Nat} {d : DataW H} {pl : List MemPlace}
    (h : DataW.Trod enc Tryd.prog W 0 (fun _ => true) true 42 (.slice a len cap) d pl) (hw : (d.weights Tryd.prog 42).all (· ≤ reachBytes) = true) :
    ∃ O : Nat → Oq25, Rw25 14 W a len (fun i => (O i).cl) ∧ (∀ i, i < len → Of25 W (O i)) ∧ ((d = .nil ∧ len = 0) ∨ ∃ elems spare, d = .slice elems spare ∧ elems.length = len) := by
  obtain ⟨fuel, hf⟩ := h
  rcases open_slice Tryd.underlying42 hf with ⟨hcs, hx⟩ | ⟨x, l, c, m, n, D, Pl, hcs, _, hl, hm, hmm, hx, hat⟩
  · simp [Value.cells] at hcs
    obtain ⟨rfl, rfl, rfl⟩ := hcs
    simp only [Prod.mk.injEq] at hx
    exact ⟨fun _ => ⟨0, zr25, 0, none, [], 0, 0⟩, fun i hi => by omega, fun i hi => by omega, Or.inl ⟨hx.1, rfl⟩⟩
  · simp [Value.cells] at hcs
    obtain ⟨rfl, rfl, rfl⟩ := hcs
    simp only [Prod.mk.injEq] at hx
    simp only [if_true] at hmm
    subst hmm
    rw [cells_op25] at hat
    have hwi : ∀ i, i < len → ∀ y ∈ (D i).weights Tryd.prog 54, y ≤ reachBytes := fun i hi y hy => by
      rw [hx.1] at hw
      have hm : y ∈ DataW.weightsAll Tryd.prog 54 ((List.range len).map D) := weightsAll_mem25 hy (List.mem_map.2 ⟨i, List.mem_range.2 hi, rfl⟩)
      have := List.all_eq_true.1 hw y (by simp only [DataW.weights, Tryd.underlying42, List.mem_cons, List.mem_append]; exact .inr (.inl hm))
      simpa using this
    have key : ∀ i, i < len → ∃ y : Oq25, (∃ g off, x = ⟨g, off, none⟩ ∧ W.rangeAt g (off + i * 14) y.cl) ∧ Of25 W y := by
      intro i hi
      obtain ⟨cs', h1, h2⟩ := hat i (by omega)
      obtain ⟨cs0, h10, _⟩ := hat 0 (by omega)
      obtain ⟨g, off, e⟩ := spot25 h10 (by omega)
      rw [e] at h1
      obtain ⟨hr, hlen⟩ := rng25_of h1
      obtain ⟨y, rfl, hy⟩ := one_op25 h2 hlen (hwi i hi)
      exact ⟨y, ⟨g, off, e, hr⟩, hy⟩
    haveI : Inhabited Oq25 := ⟨⟨0, zr25, 0, none, [], 0, 0⟩⟩
    obtain ⟨q, hq⟩ := choose_lt key
    refine ⟨q, fun i hi => ?_, fun i hi => (hq i hi).2, Or.inr ⟨_, _, hx.1, by simp⟩⟩
    obtain ⟨⟨g, off, e, hr⟩, _⟩ := hq i hi
    exact ⟨g, off, by rw [e], World.block_lt_of_cell? W _ (hr 0 _ rfl), hr⟩
end Go.Proofs.YtmjlpfmacblcpaaDoor
