import Derived.Test.YtodioefbfchckaaPa
import Derived.WalkKit
import Derived.ProofKit
import Derived.OpenShut
import Derived.SizedLaws
import Derived.Test.YtodioefbfchckaaPu
import Derived.Deep.Slices
import Derived.Lib.SmallJoins
namespace Go.Proofs.Ytodioefbfchckaa
open Go.ChangeShapes Go.WideShapes Go.ChangeAt Go.RowKit
set_option linter.unusedVariables false

/-- A slice of whole numbers that came in: what lies there, and how it was read. -/
theorem open_seg {H : Type} {enc : TypeId × Value → H} {P : Program} {W : World} {T e : TypeId} {k : IntKind} {M : Int} {a : Option Addr} {len cap : Nat} {d : DataW H} {p : List MemPlace}
    (hT : P.underlying T = some (.slice e)) (he : P.underlying e = some (.int k)) (hc : P.cellsOf e = 1) (hM : 0 ≤ M) (hwf : ∀ n, (Lit.int k n).wf = true → 0 ≤ n ∧ n ≤ M)
    (h : DataW.Trod enc P W 0 (fun _ => true) true T (.slice a len cap) d p) :
    ∃ zs : List Int, zs.length = len ∧ SegK k M W a zs ∧ len ≤ cap ∧ (a = none → cap = 0) ∧ ((d = .nil ∧ len = 0) ∨ ∃ elems spare, d = .slice elems spare ∧ elems.length = len) := by
  obtain ⟨fuel, hf⟩ := h
  rcases open_ints hT he hc hf with ⟨hcs, hx⟩ | ⟨x, l, c, zs, hcs, _, hl, hm, hz, hx, hcell, hwz⟩
  · simp [Value.cells] at hcs
    obtain ⟨rfl, rfl, rfl⟩ := hcs
    simp only [Prod.mk.injEq] at hx
    exact ⟨[], rfl, SegK.nil hM _ _, Nat.le_refl _, fun _ => rfl, Or.inl ⟨hx.1, rfl⟩⟩
  · simp [Value.cells] at hcs
    obtain ⟨rfl, rfl, rfl⟩ := hcs
    simp only [Prod.mk.injEq] at hx
    simp only [if_true] at hz
    refine ⟨zs.take len, by simp; omega, ⟨fun i hi => ?_, hM, getD_bd hM ?_⟩, hl, (by intro h; cases h), Or.inr ⟨_, _, hx.1, by simp [ChangeShapes.lits]; omega⟩⟩
    · simp at hi
      have hi2 : i < len := by omega
      have h1 := hcell i (by omega)
      obtain ⟨b, off, spot⟩ := x
      have hs : spot = none := by
        have := hcell 0 (by omega)
        simpa [Addr.add] using World.cell?_spot this
      subst hs
      refine ⟨b, off, rfl, ?_⟩
      have hadd : (⟨b, off, none⟩ : Addr).add i = ⟨b, off + i, none⟩ := by unfold Addr.add; split <;> simp_all
      rw [hadd] at h1
      rw [h1]
      simp [List.getD, hi2]
    · intro z hz1
      exact hwf z (hwz z (List.mem_of_mem_take hz1))
end Go.Proofs.Ytodioefbfchckaa

namespace Go.Proofs.Ytodioefbfchckaa
open Go.ChangeShapes Go.WideShapes Go.ChangeAt Go.RowKit Go.Deep
set_option linter.unusedVariables false
set_option maxRecDepth 100000

theorem cells_st17 : Try.prog.cellsOf 77 = 3 := by kernel_rfl
theorem cells_int17 : Try.prog.cellsOf 3 = 1 := by kernel_rfl
theorem cells_u817 : Try.prog.cellsOf 5 = 1 := by kernel_rfl
theorem cells_sts17 : Try.prog.cellsOf 22 = 1 := by kernel_rfl
theorem cells_u8s17 : Try.prog.cellsOf 23 = 1 := by kernel_rfl
theorem cells_ed17 : Try.prog.cellsOf 25 = 3 := by kernel_rfl
theorem cells_wn17 : Try.prog.cellsOf 44 = 4 := by kernel_rfl
theorem bytes_st17 : Try.prog.bytesOf 77 = 24 := by kernel_rfl
theorem bytes_u817 : Try.prog.bytesOf 5 = 1 := by kernel_rfl
theorem one_st17 {H : Type} {enc : TypeId × Value → H} {W : World} {n : Nat} {cs : List Value} {x : DataW H × List MemPlace} (h : DataW.trod enc Try.prog W 0 (fun _ => true) true n 77 cs = some x) (hl : cs.length = 3) :
    ∃ t : St16, cs = [.int .i64 t.1, .int .i64 t.2.1, .int .i64 t.2.2] ∧ Fit16 t := by
  obtain ⟨xs, k, _, _, _, hxl, hf⟩ := DataW.trod_struct Try.underlying77 h
  match cs, hl with
  | [v0, v1, v2], _ =>
    match xs, hxl with
    | [y0, y1, y2], _ =>
      have g0 := hf 0 _ rfl
      have g1 := hf 1 _ rfl
      have g2 := hf 2 _ rfl
      simp [cells_int17] at g0 g1 g2
      obtain ⟨V, e0, _, w0⟩ := DataW.trod_int Try.underlying3 g0
      obtain ⟨N, e1, _, w1⟩ := DataW.trod_int Try.underlying3 g1
      obtain ⟨M, e2, _, w2⟩ := DataW.trod_int Try.underlying3 g2
      simp at e0 e1 e2
      subst e0 e1 e2
      exact ⟨(V, N, M), rfl, bounds_i64 w0, bounds_i64 w1, bounds_i64 w2⟩
/-- Steps that came in. -/
theorem open_steps17 {H : Type} {enc : TypeId × Value → H} {W : World} {v : Value} {fuel : Nat} {y : DataW H × List MemPlace}
    (hf : DataW.trod enc Try.prog W 0 (fun _ => true) true fuel 22 [v] = some y) :
    ∃ (a : Option Addr) (cap : Nat) (l : List St16), v = .slice a l.length cap ∧ SegS W a l ∧ l.length ≤ cap ∧ (a = none → cap = 0) ∧ (l.length = 0 ∨ ∃ elems spare, y.1 = .slice elems spare ∧ l.length = elems.length) := by
  haveI : Inhabited St16 := ⟨z16⟩
  rcases open_slice Try.underlying22 hf with ⟨hcs, hx⟩ | ⟨x, l, c, m, n, D, Pl, hcs, _, hl, hm, hmm, hx, hat⟩
  · simp at hcs
    subst hcs
    subst hx
    exact ⟨none, 0, [], rfl, SegS.nil _ _, Nat.le_refl _, fun _ => rfl, .inl rfl⟩
  · simp at hcs
    subst hcs
    simp only [if_true] at hmm
    subst hmm
    rw [cells_st17] at hat
    have key : ∀ i, i < m → ∃ q : St16, W.cell? (x.add (i * 3)) = some (.int .i64 q.1) ∧ W.cell? (x.add (i * 3 + 1)) = some (.int .i64 q.2.1) ∧ W.cell? (x.add (i * 3 + 2)) = some (.int .i64 q.2.2) ∧ Fit16 q := by
      intro i hi
      obtain ⟨cs', h1, h2⟩ := hat i hi
      obtain ⟨_, hlen, hcell⟩ := World.cells?_some h1
      obtain ⟨t, rfl, hfit⟩ := one_st17 h2 hlen
      have e0 := hcell 0 (by omega)
      have e1 := hcell 1 (by omega)
      have e2 := hcell 2 (by omega)
      rw [add_add] at e0 e1 e2
      exact ⟨t, by simpa using e0, by simpa using e1, by simpa using e2, hfit⟩
    obtain ⟨q, hq⟩ := choose_lt key
    refine ⟨some x, m, (List.range l).map q, by simp, ⟨fun i hi => ?_, fun t ht => ?_⟩, by simpa using hl, (by intro h; cases h), ?_⟩
    · have hi2 : i < l := by simpa using hi
      obtain ⟨h1, h2, h3, _⟩ := hq i (by omega)
      obtain ⟨b, off, spot⟩ := x
      have hs : spot = none := by
        obtain ⟨h5, _⟩ := hq 0 (by omega)
        simpa [Addr.add] using World.cell?_spot h5
      subst hs
      have hadd : ∀ j, (⟨b, off, none⟩ : Addr).add j = ⟨b, off + j, none⟩ := by intro j; unfold Addr.add; split <;> simp_all
      rw [hadd] at h1 h2 h3
      have hg : ((List.range l).map q).getD i z16 = q i := by simp [List.getD, hi2]
      rw [hg]
      exact ⟨b, off, rfl, h1, by rw [Nat.add_assoc]; exact h2, by rw [Nat.add_assoc]; exact h3⟩
    · obtain ⟨i, hi, rfl⟩ := List.mem_map.1 ht
      exact (hq i (by have := List.mem_range.1 hi; omega)).2.2.2
    · subst hx
      exact .inr ⟨_, _, rfl, by simp⟩
/-- Bytes that came in, in a struct. -/
theorem open_bytes17 {H : Type} {enc : TypeId × Value → H} {W : World} {v : Value} {fuel : Nat} {y : DataW H × List MemPlace}
    (hf : DataW.trod enc Try.prog W 0 (fun _ => true) true fuel 23 [v] = some y) :
    ∃ (a : Option Addr) (cap : Nat) (zs : List Int), v = .slice a zs.length cap ∧ Seg W a zs ∧ zs.length ≤ cap ∧ (a = none → cap = 0) ∧ (zs.length = 0 ∨ ∃ elems spare, y.1 = .slice elems spare ∧ zs.length = elems.length) := by
  obtain ⟨a, l, cap, rfl⟩ : ∃ a l cap, v = .slice a l cap := by
    rcases open_slice Try.underlying23 hf with ⟨hcs, hx⟩ | ⟨x, l, c, m, n, D, Pl, hcs, _⟩
    · simp at hcs; exact ⟨_, _, _, hcs⟩
    · simp at hcs; exact ⟨_, _, _, hcs⟩
  obtain ⟨y1, y2⟩ := y
  obtain ⟨zs, hz, h1, h2, h3, h4⟩ := open_seg (P := Try.prog) (k := .u8) (M := 255) Try.underlying23 Try.underlying5 cells_u817 (by decide) (fun n hn => bounds_u8 hn) (⟨fuel, hf⟩ : DataW.Trod enc Try.prog W 0 (fun _ => true) true 23 (.slice a l cap) y1 y2)
  subst hz
  refine ⟨a, cap, zs, rfl, h1, h2, h3, ?_⟩
  rcases h4 with ⟨hd, hl⟩ | ⟨elems, spare, hd, hl⟩
  · exact .inl hl
  · exact .inr ⟨elems, spare, hd, by omega⟩
/-- A window by value that came in. -/
theorem open_win17 {H : Type} {enc : TypeId × Value → H} {W : World} {r : Reach} {b0 : Nat} {v : Value} {d : DataW H} {pl : List MemPlace}
    (hv : Value.okWide Try.prog W r b0 44 v) (h : DataW.Trod enc Try.prog W 0 (fun _ => true) true 44 v d pl) (hw : (d.weights Try.prog 44).all (· ≤ reachBytes) = true) :
    ∃ (pos : Int) (sa : Option Addr) (n sc : Nat) (S : List St16) (da : Option Addr) (m dc : Nat) (D : List Int) (xa : Option Addr) (k xc : Nat) (X : List Int), v = wn17 pos sa n sc da m dc xa k xc ∧ Ed17 W sa n S da m D xa k X ∧ (da = none → dc = 0) ∧ (xa = none → xc = 0) ∧ m ≤ dc ∧ k ≤ xc := by
  obtain ⟨cs, rfl, hsz⟩ := okWide_struct Try.underlying44 hv
  rw [cells_wn17] at hsz
  obtain ⟨l⟩ := cs
  match l, hsz with
  | [u0, u1, u2, u3], _ =>
    obtain ⟨fuel, hf⟩ := h
    obtain ⟨xs, kk, _, hd, _, hxl, hfl⟩ := DataW.trod_struct Try.underlying44 hf
    match xs, hxl with
    | [y0, y1], _ =>
      have g0 := hfl 0 _ rfl
      have g1 := hfl 1 _ rfl
      simp [cells_int17, cells_ed17, Value.cells] at g0 g1
      obtain ⟨V, e0, _, w0⟩ := DataW.trod_int Try.underlying3 g0
      simp at e0
      subst e0
      obtain ⟨xs1, kk1, _, hd1, _, hxl1, hfl1⟩ := DataW.trod_struct Try.underlying25 g1
      match xs1, hxl1 with
      | [z0, z1, z2], _ =>
        have f0 := hfl1 0 _ rfl
        have f1 := hfl1 1 _ rfl
        have f2 := hfl1 2 _ rfl
        simp [cells_sts17, cells_u8s17] at f0 f1 f2
        obtain ⟨sa, sc, S, rfl, s0, c0, n0, l0⟩ := open_steps17 f0
        obtain ⟨da, dc, D, rfl, s1, c1, n1, l1⟩ := open_bytes17 f1
        obtain ⟨xa, xc, X, rfl, s2, c2, n2, l2⟩ := open_bytes17 f2
        have ed : d = .agg [y0.1, .agg [z0.1, z1.1, z2.1]] := by
          have := congrArg Prod.fst hd
          simp only at this
          rw [this, hd1]; rfl
        subst ed
        refine ⟨V, sa, S.length, sc, S, da, D.length, dc, D, xa, X.length, xc, X, rfl, ⟨s0, s1, s2, rfl, rfl, rfl, ?_, ?_, ?_⟩, n1, n2, c1, c2⟩
        · rcases l0 with l0 | ⟨elems, spare, e, l0⟩
          · omega
          · have := List.all_eq_true.1 hw ((elems.length + spare.length) * Try.prog.bytesOf 77) (by rw [e]; simp [DataW.weights, DataW.weightsEach, Try.underlying44, Try.underlying25, Try.underlying22])
            rw [bytes_st17] at this
            have t2 : (elems.length + spare.length) * 24 ≤ reachBytes := of_decide_eq_true this
            have t3 : reachBytes = 140737488351232 := rfl
            omega
        · rcases l1 with l1 | ⟨elems, spare, e, l1⟩
          · omega
          · have := List.all_eq_true.1 hw ((elems.length + spare.length) * Try.prog.bytesOf 5) (by rw [e]; simp [DataW.weights, DataW.weightsEach, Try.underlying44, Try.underlying25, Try.underlying23])
            rw [bytes_u817] at this
            simp [reachBytes] at this
            omega
        · rcases l2 with l2 | ⟨elems, spare, e, l2⟩
          · omega
          · have := List.all_eq_true.1 hw ((elems.length + spare.length) * Try.prog.bytesOf 5) (by rw [e]; simp [DataW.weights, DataW.weightsEach, Try.underlying44, Try.underlying25, Try.underlying23])
            rw [bytes_u817] at this
            simp [reachBytes] at this
            omega
end Go.Proofs.Ytodioefbfchckaa

namespace Go.Proofs.Ytodioefbfchckaa
open Go.ChangeShapes Go.WideShapes Go.ChangeAt Go.RowKit Go.Deep
set_option linter.unusedVariables false
set_option maxRecDepth 100000

/-- Steps that came in, in the second form. -/
theorem open_stepsU17 {H : Type} {enc : TypeId × Value → H} {W : World} {r : Reach} {b0 : Nat} {v : Value} {d : DataW H} {pl : List MemPlace}
    (hv : Value.okWide Try.prog W r b0 22 v) (h : DataW.Trod enc Try.prog W 0 (fun _ => true) true 22 v d pl) :
    ∃ (a : Option Addr) (cap : Nat) (l : List St16), v = .slice a l.length cap ∧ SegS W a l ∧ l.length ≤ cap ∧ (a = none → cap = 0) ∧ l.length + 1 ≤ Rows.uptoBulk d := by
  obtain ⟨a, n, c, rfl⟩ := okWide_slice Try.underlying22 hv
  obtain ⟨fuel, hf⟩ := h
  obtain ⟨a2, c2, l, hv2, s, hc, hn, hl⟩ := open_steps17 (v := .slice a n c) hf
  refine ⟨a2, c2, l, hv2, s, hc, hn, ?_⟩
  rcases hl with hl | ⟨elems, spare, e, hl⟩
  · have := UptoLemmas.bulk_pos d; omega
  · have := UptoLemmas.slice_le elems spare
    simp only at e
    rw [e]; omega
/-- A window by value that came in, in the second form. -/
theorem open_winU17 {H : Type} {enc : TypeId × Value → H} {W : World} {r : Reach} {b0 : Nat} {v : Value} {d : DataW H} {pl : List MemPlace}
    (hv : Value.okWide Try.prog W r b0 44 v) (h : DataW.Trod enc Try.prog W 0 (fun _ => true) true 44 v d pl) :
    ∃ (pos : Int) (sa : Option Addr) (n sc : Nat) (S : List St16) (da : Option Addr) (m dc : Nat) (D : List Int) (xa : Option Addr) (k xc : Nat) (X : List Int), v = wn17 pos sa n sc da m dc xa k xc ∧ (SegS W sa S ∧ Seg W da D ∧ Seg W xa X) ∧ (S.length = n ∧ D.length = m ∧ X.length = k) ∧ (da = none → dc = 0) ∧ (xa = none → xc = 0) ∧ m ≤ dc ∧ k ≤ xc ∧ n + m + k ≤ Rows.uptoBulk d := by
  obtain ⟨cs, rfl, hsz⟩ := okWide_struct Try.underlying44 hv
  rw [cells_wn17] at hsz
  obtain ⟨l⟩ := cs
  match l, hsz with
  | [u0, u1, u2, u3], _ =>
    obtain ⟨fuel, hf⟩ := h
    obtain ⟨xs, kk, _, hd, _, hxl, hfl⟩ := DataW.trod_struct Try.underlying44 hf
    match xs, hxl with
    | [y0, y1], _ =>
      have g0 := hfl 0 _ rfl
      have g1 := hfl 1 _ rfl
      simp [cells_int17, cells_ed17, Value.cells] at g0 g1
      obtain ⟨V, e0, _, w0⟩ := DataW.trod_int Try.underlying3 g0
      simp at e0
      subst e0
      obtain ⟨xs1, kk1, _, hd1, _, hxl1, hfl1⟩ := DataW.trod_struct Try.underlying25 g1
      match xs1, hxl1 with
      | [z0, z1, z2], _ =>
        have f0 := hfl1 0 _ rfl
        have f1 := hfl1 1 _ rfl
        have f2 := hfl1 2 _ rfl
        simp [cells_sts17, cells_u8s17] at f0 f1 f2
        obtain ⟨sa, sc, S, rfl, s0, c0, n0, l0⟩ := open_steps17 f0
        obtain ⟨da, dc, D, rfl, s1, c1, n1, l1⟩ := open_bytes17 f1
        obtain ⟨xa, xc, X, rfl, s2, c2, n2, l2⟩ := open_bytes17 f2
        have ed : d = .agg [y0.1, .agg [z0.1, z1.1, z2.1]] := by
          have := congrArg Prod.fst hd
          simp only at this
          rw [this, hd1]; rfl
        subst ed
        have e0 : S.length + 1 ≤ Rows.uptoBulk z0.1 := by
          rcases l0 with l0 | ⟨elems, spare, e, l0⟩
          · have := UptoLemmas.bulk_pos z0.1; omega
          · have := UptoLemmas.slice_le elems spare; rw [e]; omega
        have e1 : D.length + 1 ≤ Rows.uptoBulk z1.1 := by
          rcases l1 with l1 | ⟨elems, spare, e, l1⟩
          · have := UptoLemmas.bulk_pos z1.1; omega
          · have := UptoLemmas.slice_le elems spare; rw [e]; omega
        have e2 : X.length + 1 ≤ Rows.uptoBulk z2.1 := by
          rcases l2 with l2 | ⟨elems, spare, e, l2⟩
          · have := UptoLemmas.bulk_pos z2.1; omega
          · have := UptoLemmas.slice_le elems spare; rw [e]; omega
        refine ⟨V, sa, S.length, sc, S, da, D.length, dc, D, xa, X.length, xc, X, rfl, ⟨s0, s1, s2⟩, ⟨rfl, rfl, rfl⟩, n1, n2, c1, c2, ?_⟩
        simp only [Rows.uptoBulk, Rows.uptoBulkAll]
        omega
end Go.Proofs.Ytodioefbfchckaa
