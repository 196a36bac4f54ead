import Derived.Test.YtmjlpfmacblcpaaDoorPw
import Derived.Test.YtmjlpfmacblcpaaDoorPc
import Derived.Test.YtmjlpfmacblcpaaDoorPs
import Derived.WalkKit
import Derived.ProofKit
import Derived.OpenShut
import Derived.SizedLaws
import Derived.Deep.Slices
import Derived.Lib.SmallJoins
import Derived.Deep.MidRow
namespace Go.Proofs.YtmjlpfmacblcpaaDoor
open Go.ChangeShapes Go.WideShapes Go.ChangeAt Go.RowKit Go.Deep
set_option linter.unusedVariables false
set_option maxRecDepth 100000
/-- A row of structs of n cells each lies at a slice. -/
def Rw25 (n : Nat) (W : World) (a : Option Addr) (len : Nat) (C : Nat → List Value) : Prop := ∀ i, i < len → ∃ g off, a = some ⟨g, off, none⟩ ∧ g < W.heap.size ∧ W.rangeAt g (off + i * n) (C i)
theorem Rw25.old {n : Nat} {W W' : World} {a : Option Addr} {len : Nat} {C : Nat → List Value} (h : Rw25 n W a len C) (b : Below W.heap.size W W') : Rw25 n W' a len C := fun i hi => by
  obtain ⟨g, off, e, hg, hr⟩ := h i hi
  exact ⟨g, off, e, by have := b.size; omega, fun j v hv => (b.cell (p := ⟨g, off + i * n + j, none⟩) hg).trans (hr j v hv)⟩
theorem rng25_of {W : World} {g off : Nat} {n k : Nat} {cs : List Value} (h : W.cells? 0 ((⟨g, off, none⟩ : Addr).add k) n = some cs) : W.rangeAt g (off + k) cs ∧ cs.length = n := by
  obtain ⟨_, hlen, hcell⟩ := World.cells?_some h
  refine ⟨fun j v hv => ?_, hlen⟩
  have hj : j < n := by have := (List.getElem?_eq_some_iff.1 hv).1; omega
  have := hcell j hj
  rw [Addr.add_mid, Addr.add_mid] at this
  exact this.trans hv
theorem spot25 {W : World} {x : Addr} {n m : Nat} {cs : List Value} (h : W.cells? 0 (x.add (0 * m)) n = some cs) (hn : 0 < n) : ∃ g off, x = ⟨g, off, none⟩ := by
  obtain ⟨_, hlen, hcell⟩ := World.cells?_some h
  obtain ⟨g, off, spot⟩ := x
  have e0 := hcell 0 hn
  have e1 := World.cell?_spot (e0.trans (List.getElem?_eq_getElem (by omega)))
  refine ⟨g, off, ?_⟩
  have : spot = none := by simpa [Addr.add] using e1
  rw [this]
theorem one_img25 {H : Type} {enc : TypeId × Value → H} {W : World} {n : Nat} {cs : List Value} {x : DataW H × List MemPlace} (h : DataW.trod enc Tryd.prog W 0 (fun _ => true) true n 50 cs = some x) (hl : cs.length = 4) : ∃ i : Im25, cs = i.cs.toList ∧ i.wd := by
  obtain ⟨xs, kk, _, hd, _, hxl, hfl⟩ := DataW.trod_struct Tryd.underlying50 h
  match cs, hl with
  | [u0, u1, u2, u3], _ =>
    match xs, hxl with
    | [y0, y1, y2, y3], _ =>
      have g0 := hfl 0 _ rfl
      have g1 := hfl 1 _ rfl
      have g2 := hfl 2 _ rfl
      have g3 := hfl 3 _ rfl
      simp [cells_int25, cells_u3225] at g0 g1 g2 g3
      obtain ⟨V0, e0, _, w0⟩ := DataW.trod_int Tryd.underlying3 g0
      obtain ⟨V1, e1, _, w1⟩ := DataW.trod_int Tryd.underlying3 g1
      obtain ⟨V2, e2, _, w2⟩ := DataW.trod_int Tryd.underlying3 g2
      obtain ⟨V3, e3, _, w3⟩ := DataW.trod_int Tryd.underlying48 g3
      (try simp at e0)
      (try simp at e1)
      (try simp at e2)
      (try simp at e3)
      subst e0 e1 e2 e3
      have b3 := bounds_u32 w3
      exact ⟨⟨V0, V1, V2, V3⟩, rfl, b3.1, by show V3 ≤ 4294967295; omega⟩
theorem one_rec25 {H : Type} {enc : TypeId × Value → H} {W : World} {n : Nat} {cs : List Value} {x : DataW H × List MemPlace} (h : DataW.trod enc Tryd.prog W 0 (fun _ => true) true n 52 cs = some x) (hl : cs.length = 10) : ∃ r : Rc25, cs = r.cs.toList ∧ r.wd := by
  obtain ⟨xs, kk, _, hd, _, hxl, hfl⟩ := DataW.trod_struct Tryd.underlying52 h
  match cs, hl with
  | [u0, u1, u2, u3, u4, u5, u6, u7, u8, u9], _ =>
    match xs, hxl with
    | [y0, y1, y2, y3], _ =>
      have g0 := hfl 0 _ rfl
      have g1 := hfl 1 _ rfl
      have g2 := hfl 2 _ rfl
      have g3 := hfl 3 _ rfl
      simp [cells_int25, cells_im25] at g0 g1 g2 g3
      obtain ⟨V0, e0, _, w0⟩ := DataW.trod_int Tryd.underlying3 g0
      obtain ⟨V9, e9, _, w9⟩ := DataW.trod_int Tryd.underlying3 g3
      obtain ⟨A, ha, wa⟩ := one_img25 g1 rfl
      obtain ⟨C, hc, wc⟩ := one_img25 g2 rfl
      (try simp at e0)
      (try simp at e9)
      simp [Im25.cs] at ha hc
      obtain ⟨rfl, rfl, rfl, rfl⟩ := ha
      obtain ⟨rfl, rfl, rfl, rfl⟩ := hc
      subst e0 e9
      exact ⟨⟨V0, A, C, V9⟩, rfl, wa, wc⟩
theorem open_recs25 {H : Type} {enc : TypeId × Value → H} {W : World} {a : Option Addr} {len cap : Nat} {d : DataW H} {pl : List MemPlace}
    (h : DataW.Trod enc Tryd.prog W 0 (fun _ => true) true 60 (.slice a len cap) d pl) :
    ∃ R : Nat → Rc25, Rw25 10 W a len (fun i => (R i).cs.toList) ∧ (∀ i, i < len → (R i).wd) ∧ ((d = .nil ∧ len = 0) ∨ ∃ elems spare, d = .slice elems spare ∧ elems.length = len) := by
  obtain ⟨fuel, hf⟩ := h
  rcases open_slice Tryd.underlying60 hf with ⟨hcs, hx⟩ | ⟨x, l, c, m, n, D, Pl, hcs, _, hl, hm, hmm, hx, hat⟩
  · simp [Value.cells] at hcs
    obtain ⟨rfl, rfl, rfl⟩ := hcs
    simp only [Prod.mk.injEq] at hx
    exact ⟨fun _ => zr25, fun i hi => by omega, fun i hi => by omega, Or.inl ⟨hx.1, rfl⟩⟩
  · simp [Value.cells] at hcs
    obtain ⟨rfl, rfl, rfl⟩ := hcs
    simp only [Prod.mk.injEq] at hx
    simp only [if_true] at hmm
    subst hmm
    rw [cells_rc25] at hat
    have key : ∀ i, i < len → ∃ y : Rc25, (∃ g off, x = ⟨g, off, none⟩ ∧ W.rangeAt g (off + i * 10) y.cs.toList) ∧ y.wd := by
      intro i hi
      obtain ⟨cs', h1, h2⟩ := hat i (by omega)
      obtain ⟨cs0, h10, _⟩ := hat 0 (by omega)
      obtain ⟨g, off, e⟩ := spot25 h10 (by omega)
      rw [e] at h1
      obtain ⟨hr, hlen⟩ := rng25_of h1
      obtain ⟨y, rfl, hy⟩ := one_rec25 h2 hlen
      exact ⟨y, ⟨g, off, e, hr⟩, hy⟩
    haveI : Inhabited Rc25 := ⟨zr25⟩
    obtain ⟨q, hq⟩ := choose_lt key
    refine ⟨q, fun i hi => ?_, fun i hi => (hq i hi).2, Or.inr ⟨_, _, hx.1, by simp⟩⟩
    obtain ⟨⟨g, off, e, hr⟩, _⟩ := hq i hi
    exact ⟨g, off, by rw [e], World.block_lt_of_cell? W _ (hr 0 _ rfl), hr⟩
/-- A call of BootWrites, BootTries. -/
structure Oq25 where
  c : Int
  r : Rc25
  n : Int
  ba : Option Addr
  b : List Int
  bc : Nat
  p : Int
def Oq25.cl (o : Oq25) : List Value := [.int .i64 o.c, .int .i64 o.r.q, .int .i64 o.r.g.s, .int .i64 o.r.g.v, .int .i64 o.r.g.z, .int .u32 o.r.g.m, .int .i64 o.r.n.s, .int .i64 o.r.n.v, .int .i64 o.r.n.z, .int .u32 o.r.n.m, .int .i64 o.r.t, .int .i64 o.n, .slice o.ba o.b.length o.bc, .int .i64 o.p]
end Go.Proofs.YtmjlpfmacblcpaaDoor
