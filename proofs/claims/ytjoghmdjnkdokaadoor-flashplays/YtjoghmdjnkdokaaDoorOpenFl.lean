
import Derived.Test.YtjoghmdjnkdokaaDoorFlB
import Derived.Test.YtjoghmdjnkdokaaDoorOpen
import Derived.WalkKit
import Derived.ProofKit
import Derived.OpenShut
import Derived.SizedLaws
import Derived.Deep.Slices
import Derived.Lib.SmallJoins
namespace Go.Proofs.YtjoghmdjnkdokaaDoor
open Go.ChangeShapes Go.WideShapes Go.ChangeAt Go.RowKit Go.Deep
set_option linter.unusedVariables false
set_option maxRecDepth 100000

/-! A call, a script, a set-up that came in. -/
structure Oq21 where
  c : Int
  a : Int
  p : Int
  n : Int
  ba : Option Addr
  b : List Int
  bc : Nat
theorem cells_op21 : Tryd.prog.cellsOf 40 = 5 := by kernel_rfl
theorem cells_in21 : Tryd.prog.cellsOf 3 = 1 := by kernel_rfl
theorem cells_sl21 : Tryd.prog.cellsOf 22 = 1 := by kernel_rfl
theorem cells_u821 : Tryd.prog.cellsOf 5 = 1 := by kernel_rfl
structure Of21 (W : World) (o : Oq21) : Prop where
  sg : Seg W o.ba o.b
  cap : o.b.length ≤ o.bc
  nil : o.ba = none → o.bc = 0
  c : In21 o.c
  a : In21 o.a
  p : In21 o.p
  n : In21 o.n
theorem slc21 {H : Type} {enc : TypeId × Value → H} {W : World} {k : Nat} {v : Value} {y : DataW H × List MemPlace} (g : DataW.trod enc Tryd.prog W 0 (fun _ => true) true k 22 [v] = some y) :
    ∃ (ba : Option Addr) (p : List Int) (bc : Nat), v = .slice ba p.length bc ∧ Seg W ba p ∧ p.length ≤ bc ∧ (ba = none → bc = 0) ∧ ((y.1 = .nil ∧ p.length = 0) ∨ ∃ elems spare, y.1 = .slice elems spare ∧ elems.length = p.length) := by
  obtain ⟨ba, bl, bc, rfl⟩ : ∃ ba bl bc, v = .slice ba bl bc := by
    rcases open_ints Tryd.underlying22 Tryd.underlying5 cells_u821 g with ⟨hcs, _⟩ | ⟨x, l, c, zs, hcs, _⟩
    · simp at hcs; exact ⟨_, _, _, hcs⟩
    · simp at hcs; exact ⟨_, _, _, hcs⟩
  have ht : DataW.Trod enc Tryd.prog W 0 (fun _ => true) true 22 (.slice ba bl bc) y.1 y.2 := ⟨k, by simpa [Value.cells] using g⟩
  obtain ⟨p, hp, hseg, hcap, hnil, hd⟩ := open_seg (k := .u8) (M := 255) Tryd.underlying22 Tryd.underlying5 cells_u821 (by decide) (fun n hn => bounds_u8 hn) ht
  subst hp
  exact ⟨ba, p, bc, rfl, hseg, hcap, hnil, hd⟩
theorem one_op21 {H : Type} {enc : TypeId × Value → H} {W : World} {n : Nat} {cs : List Value} {x : DataW H × List MemPlace} (h : DataW.trod enc Tryd.prog W 0 (fun _ => true) true n 40 cs = some x) (hl : cs.length = 5) :
    ∃ (o : Oq21), cs = [.int .i64 o.c, .int .i64 o.a, .int .i64 o.p, .int .i64 o.n, .slice o.ba o.b.length o.bc] ∧ Of21 W o := by
  obtain ⟨xs, k, _, hx, _, hxl, hf⟩ := DataW.trod_struct Tryd.underlying40 h
  match cs, hl with
  | [v0, v1, v2, v3, v4], _ =>
    match xs, hxl with
    | [y0, y1, y2, y3, y4], _ =>
      have g0 := hf 0 _ rfl
      have g1 := hf 1 _ rfl
      have g2 := hf 2 _ rfl
      have g3 := hf 3 _ rfl
      have g4 := hf 4 _ rfl
      simp [cells_in21, cells_sl21] at g0 g1 g2 g3 g4
      obtain ⟨V0, e0, _, w0⟩ := DataW.trod_int Tryd.underlying3 g0
      obtain ⟨V1, e1, _, w1⟩ := DataW.trod_int Tryd.underlying3 g1
      obtain ⟨V2, e2, _, w2⟩ := DataW.trod_int Tryd.underlying3 g2
      obtain ⟨V3, e3, _, w3⟩ := DataW.trod_int Tryd.underlying3 g3
      simp at e0 e1 e2 e3
      subst e0 e1 e2 e3
      obtain ⟨ba, p, bc, rfl, hs, hc, hn, _⟩ := slc21 g4
      exact ⟨⟨V0, V1, V2, V3, ba, p, bc⟩, rfl, ⟨hs, hc, hn, bounds_i64 w0, bounds_i64 w1, bounds_i64 w2, bounds_i64 w3⟩⟩
/-- A call by value that came in. -/
theorem open_opv21 {H : Type} {enc : TypeId × Value → H} {W : World} {r : Reach} {b0 : Nat} {v : Value} {d : DataW H} {pl : List MemPlace}
    (hv : Value.okWide Tryd.prog W r b0 40 v) (h : DataW.Trod enc Tryd.prog W 0 (fun _ => true) true 40 v d pl) :
    ∃ o : Oq21, v = .agg #[.int .i64 o.c, .int .i64 o.a, .int .i64 o.p, .int .i64 o.n, .slice o.ba o.b.length o.bc] ∧ Of21 W o := by
  obtain ⟨cs, rfl, hsz⟩ := okWide_struct Tryd.underlying40 hv
  rw [cells_op21] at hsz
  obtain ⟨fuel, hf⟩ := h
  obtain ⟨l⟩ := cs
  obtain ⟨o, ho, h2⟩ := one_op21 (cs := l) (by simpa [Value.cells] using hf) (by simpa using hsz)
  exact ⟨o, by rw [ho], h2⟩
/-- A script in memory. -/
structure Ss21 (W : World) (a : Option Addr) (len : Nat) (O : Nat → Oq21) : Prop where
  at_ : ∀ i, i < len → ∃ g off, a = some ⟨g, off, none⟩ ∧ W.cell? ⟨g, off + i * 5, none⟩ = some (.int .i64 (O i).c) ∧ W.cell? ⟨g, off + i * 5 + 1, none⟩ = some (.int .i64 (O i).a) ∧ W.cell? ⟨g, off + i * 5 + 2, none⟩ = some (.int .i64 (O i).p) ∧ W.cell? ⟨g, off + i * 5 + 3, none⟩ = some (.int .i64 (O i).n) ∧ W.cell? ⟨g, off + i * 5 + 4, none⟩ = some (.slice (O i).ba (O i).b.length (O i).bc)
  of : ∀ i, i < len → Of21 W (O i)
theorem open_script21 {H : Type} {enc : TypeId × Value → H} {W : World} {a : Option Addr} {len cap : Nat} {d : DataW H} {pl : List MemPlace}
    (h : DataW.Trod enc Tryd.prog W 0 (fun _ => true) true 25 (.slice a len cap) d pl) :
    ∃ O : Nat → Oq21, Ss21 W a len O ∧ ((d = .nil ∧ len = 0) ∨ ∃ elems spare, d = .slice elems spare ∧ elems.length = len) := by
  obtain ⟨fuel, hf⟩ := h
  rcases open_slice Tryd.underlying25 hf with ⟨hcs, hx⟩ | ⟨x, l, c, m, n, D, Pl, hcs, _, hl, hm, hmm, hx, hat⟩
  · simp [Value.cells] at hcs
    obtain ⟨rfl, rfl, rfl⟩ := hcs
    simp only [Prod.mk.injEq] at hx
    exact ⟨fun _ => ⟨0, 0, 0, 0, none, [], 0⟩, ⟨fun i hi => by omega, fun i hi => by omega⟩, Or.inl ⟨hx.1, rfl⟩⟩
  · simp [Value.cells] at hcs
    obtain ⟨rfl, rfl, rfl⟩ := hcs
    simp only [Prod.mk.injEq] at hx
    simp only [if_true] at hmm
    subst hmm
    rw [cells_op21] at hat
    have key : ∀ i, i < m → ∃ o : Oq21, W.cell? (x.add (i * 5)) = some (.int .i64 o.c) ∧ W.cell? (x.add (i * 5 + 1)) = some (.int .i64 o.a) ∧ W.cell? (x.add (i * 5 + 2)) = some (.int .i64 o.p) ∧ W.cell? (x.add (i * 5 + 3)) = some (.int .i64 o.n) ∧ W.cell? (x.add (i * 5 + 4)) = some (.slice o.ba o.b.length o.bc) ∧ Of21 W o := by
      intro i hi
      obtain ⟨cs', h1, h2⟩ := hat i hi
      obtain ⟨_, hlen, hcell⟩ := World.cells?_some h1
      obtain ⟨o, rfl, hO⟩ := one_op21 h2 hlen
      have e0 := hcell 0 (by omega)
      have e1 := hcell 1 (by omega)
      have e2 := hcell 2 (by omega)
      have e3 := hcell 3 (by omega)
      have e4 := hcell 4 (by omega)
      rw [add_add] at e0 e1 e2 e3 e4
      exact ⟨o, by simpa using e0, by simpa using e1, by simpa using e2, by simpa using e3, by simpa using e4, hO⟩
    haveI : Inhabited Oq21 := ⟨⟨0, 0, 0, 0, none, [], 0⟩⟩
    obtain ⟨q, hq⟩ := choose_lt key
    refine ⟨q, ⟨fun i hi => ?_, fun i hi => (hq i (by omega)).2.2.2.2.2⟩, Or.inr ⟨_, _, hx.1, by simp⟩⟩
    obtain ⟨h0, h1, h2, h3, h4, _⟩ := hq i (by omega)
    obtain ⟨b, off, spot⟩ := x
    have hs : spot = none := by
      obtain ⟨h5, _⟩ := hq 0 (by omega)
      simpa [Addr.add] using World.cell?_spot h5
    subst hs
    have hadd : ∀ j, (⟨b, off, none⟩ : Addr).add j = ⟨b, off + j, none⟩ := by intro j; unfold Addr.add; split <;> simp_all
    rw [hadd] at h0 h1 h2 h3 h4
    exact ⟨b, off, rfl, h0, by rw [Nat.add_assoc]; exact h1, by rw [Nat.add_assoc]; exact h2, by rw [Nat.add_assoc]; exact h3, by rw [Nat.add_assoc]; exact h4⟩
/-- A set-up that came in. -/
structure Su21 where
  p : Int
  q : Int
  ac : Int
  a0 : Option Addr
  l0 : List Int
  k0 : Nat
  a1 : Option Addr
  l1 : List Int
  k1 : Nat
structure Sf21 (W : World) (s : Su21) : Prop where
  s0 : Seg W s.a0 s.l0
  s1 : Seg W s.a1 s.l1
  z0 : s.l0.length ≤ s.k0
  z1 : s.l1.length ≤ s.k1
  p : In21 s.p
  q : In21 s.q
  ac : In21 s.ac
theorem cells_su21 : Tryd.prog.cellsOf 24 = 5 := by kernel_rfl
theorem open_setup21 {H : Type} {enc : TypeId × Value → H} {W : World} {r : Reach} {b0 : Nat} {v : Value} {d : DataW H} {pl : List MemPlace}
    (hv : Value.okWide Tryd.prog W r b0 24 v) (h : DataW.Trod enc Tryd.prog W 0 (fun _ => true) true 24 v d pl) :
    ∃ s : Su21, v = .agg #[.int .i64 s.p, .int .i64 s.q, .int .i64 s.ac, .slice s.a0 s.l0.length s.k0, .slice s.a1 s.l1.length s.k1] ∧ Sf21 W s := by
  obtain ⟨cs, rfl, hsz⟩ := okWide_struct Tryd.underlying24 hv
  rw [cells_su21] at hsz
  obtain ⟨l⟩ := cs
  match l, hsz with
  | [u0, u1, u2, u3, u4], _ =>
    obtain ⟨fuel, hf⟩ := h
    obtain ⟨xs, kk, _, hd, _, hxl, hfl⟩ := DataW.trod_struct Tryd.underlying24 hf
    match xs, hxl with
    | [y0, y1, y2, y3, y4], _ =>
      have g0 := hfl 0 _ rfl
      have g1 := hfl 1 _ rfl
      have g2 := hfl 2 _ rfl
      have g3 := hfl 3 _ rfl
      have g4 := hfl 4 _ rfl
      simp [cells_in21, cells_sl21, Value.cells] at g0 g1 g2 g3 g4
      obtain ⟨V0, e0, _, w0⟩ := DataW.trod_int Tryd.underlying3 g0
      obtain ⟨V1, e1, _, w1⟩ := DataW.trod_int Tryd.underlying3 g1
      obtain ⟨V2, e2, _, w2⟩ := DataW.trod_int Tryd.underlying3 g2
      simp at e0 e1 e2
      subst e0 e1 e2
      obtain ⟨ba, p, bc, rfl, hs, hc, hn, _⟩ := slc21 g3
      obtain ⟨ba', p', bc', rfl, hs', hc', hn', _⟩ := slc21 g4
      exact ⟨⟨V0, V1, V2, ba, p, bc, ba', p', bc'⟩, rfl, ⟨hs, hs', hc, hc', bounds_i64 w0, bounds_i64 w1, bounds_i64 w2⟩⟩
end Go.Proofs.YtjoghmdjnkdokaaDoor
