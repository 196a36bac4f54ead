import Derived.Test.YtkjccbihdinlkaaPc
import Derived.WalkKit
import Derived.ProofKit
import Derived.OpenShut
import Derived.SizedLaws
import Derived.Test.YtkjccbihdinlkaaPd
import Derived.Test.YtkjccbihdinlkaaRows
import Derived.Test.YtkjccbihdinlkaaPu
import Derived.Deep.Slices
namespace Go.Proofs.Ytkjccbihdinlkaa
open Go.ChangeShapes Go.WideShapes Go.ChangeAt Go.RowKit
set_option linter.unusedVariables false

/-- A slice of whole numbers that came in: what lies there, and how it was read. -/
theorem open_seg {H : Type} {enc : TypeId × Value → H} {P : Program} {W : World} {T e : TypeId} {k : IntKind} {M : Int} {a : Option Addr} {len cap : Nat} {d : DataW H} {p : List MemPlace}
    (hT : P.underlying T = some (.slice e)) (he : P.underlying e = some (.int k)) (hc : P.cellsOf e = 1) (hM : 0 ≤ M) (hwf : ∀ n, (Lit.int k n).wf = true → 0 ≤ n ∧ n ≤ M)
    (h : DataW.Trod enc P W 0 (fun _ => true) true T (.slice a len cap) d p) :
    ∃ zs : List Int, zs.length = len ∧ SegK k M W a zs ∧ len ≤ cap ∧ (a = none → cap = 0) ∧ ((d = .nil ∧ len = 0) ∨ ∃ elems spare, d = .slice elems spare ∧ elems.length = len) := by
  obtain ⟨fuel, hf⟩ := h
  rcases open_ints hT he hc hf with ⟨hcs, hx⟩ | ⟨x, l, c, zs, hcs, _, hl, hm, hz, hx, hcell, hwz⟩
  · simp [Value.cells] at hcs
    obtain ⟨rfl, rfl, rfl⟩ := hcs
    simp only [Prod.mk.injEq] at hx
    exact ⟨[], rfl, SegK.nil hM _ _, Nat.le_refl _, fun _ => rfl, Or.inl ⟨hx.1, rfl⟩⟩
  · simp [Value.cells] at hcs
    obtain ⟨rfl, rfl, rfl⟩ := hcs
    simp only [Prod.mk.injEq] at hx
    simp only [if_true] at hz
    refine ⟨zs.take len, by simp; omega, ⟨fun i hi => ?_, hM, getD_bd hM ?_⟩, hl, (by intro h; cases h), Or.inr ⟨_, _, hx.1, by simp [ChangeShapes.lits]; omega⟩⟩
    · simp at hi
      have hi2 : i < len := by omega
      have h1 := hcell i (by omega)
      obtain ⟨b, off, spot⟩ := x
      have hs : spot = none := by
        have := hcell 0 (by omega)
        simpa [Addr.add] using World.cell?_spot this
      subst hs
      refine ⟨b, off, rfl, ?_⟩
      have hadd : (⟨b, off, none⟩ : Addr).add i = ⟨b, off + i, none⟩ := by unfold Addr.add; split <;> simp_all
      rw [hadd] at h1
      rw [h1]
      simp [List.getD, hi2]
    · intro z hz1
      exact hwf z (hwz z (List.mem_of_mem_take hz1))
end Go.Proofs.Ytkjccbihdinlkaa

namespace Go.Proofs.Ytkjccbihdinlkaa
open Go.ChangeShapes Go.WideShapes Go.ChangeAt Go.RowKit
set_option linter.unusedVariables false

/-- A slice of whole numbers with a sign that came in. -/
theorem open_segZ {H : Type} {enc : TypeId × Value → H} {P : Program} {W : World} {T e : TypeId} {a : Option Addr} {len cap : Nat} {d : DataW H} {p : List MemPlace}
    (hT : P.underlying T = some (.slice e)) (he : P.underlying e = some (.int .i64)) (hc : P.cellsOf e = 1)
    (h : DataW.Trod enc P W 0 (fun _ => true) true T (.slice a len cap) d p) :
    ∃ zs : List Int, zs.length = len ∧ SegZ W a zs ∧ len ≤ cap ∧ (a = none → cap = 0) ∧ ((d = .nil ∧ len = 0) ∨ ∃ elems spare, d = .slice elems spare ∧ elems.length = len) := by
  obtain ⟨fuel, hf⟩ := h
  rcases open_ints hT he hc hf with ⟨hcs, hx⟩ | ⟨x, l, c, zs, hcs, _, hl, hm, hz, hx, hcell, hwz⟩
  · simp [Value.cells] at hcs
    obtain ⟨rfl, rfl, rfl⟩ := hcs
    simp only [Prod.mk.injEq] at hx
    exact ⟨[], rfl, SegZ.nil _ _, Nat.le_refl _, fun _ => rfl, Or.inl ⟨hx.1, rfl⟩⟩
  · simp [Value.cells] at hcs
    obtain ⟨rfl, rfl, rfl⟩ := hcs
    simp only [Prod.mk.injEq] at hx
    simp only [if_true] at hz
    refine ⟨zs.take len, by simp; omega, ⟨fun i hi => ?_, getD_bdz ?_⟩, hl, (by intro h; cases h), Or.inr ⟨_, _, hx.1, by simp [ChangeShapes.lits]; omega⟩⟩
    · simp at hi
      have hi2 : i < len := by omega
      have h1 := hcell i (by omega)
      obtain ⟨b, off, spot⟩ := x
      have hs : spot = none := by
        have := hcell 0 (by omega)
        simpa [Addr.add] using World.cell?_spot this
      subst hs
      refine ⟨b, off, rfl, ?_⟩
      have hadd : (⟨b, off, none⟩ : Addr).add i = ⟨b, off + i, none⟩ := by unfold Addr.add; split <;> simp_all
      rw [hadd] at h1
      rw [h1]
      simp [List.getD, hi2]
    · intro z hz1
      exact bounds_i64 (hwz z (List.mem_of_mem_take hz1))
end Go.Proofs.Ytkjccbihdinlkaa

namespace Go.Proofs.Ytkjccbihdinlkaa.UptoLemmas
set_option linter.unusedVariables false
theorem bulk_pos {H : Type} (d : DataW H) : 1 ≤ Rows.uptoBulk d := by
  unfold Rows.uptoBulk
  split <;> omega
theorem all_len {H : Type} : ∀ l : List (DataW H), l.length ≤ Rows.uptoBulkAll l
  | [] => by simp
  | d :: r => by
    have h1 := bulk_pos d
    have h2 := all_len r
    simp only [Rows.uptoBulkAll, List.length_cons]
    omega
theorem slice_le {H : Type} (elems spare : List (DataW H)) : elems.length + spare.length + 1 ≤ Rows.uptoBulk (.slice elems spare) := by
  have h1 := all_len elems
  have h2 := all_len spare
  simp only [Rows.uptoBulk]
  omega
end Go.Proofs.Ytkjccbihdinlkaa.UptoLemmas

namespace Go.Proofs.Ytkjccbihdinlkaa
open Go.ChangeShapes Go.WideShapes Go.ChangeAt Go.RowKit Go.Deep
set_option linter.unusedVariables false

theorem cells_op5 : Try.prog.cellsOf 67 = 5 := by kernel_rfl
theorem cells_intD : Try.prog.cellsOf 3 = 1 := by kernel_rfl
theorem cells_boolD : Try.prog.cellsOf 4 = 1 := by kernel_rfl
theorem cells_slD : Try.prog.cellsOf 42 = 1 := by kernel_rfl
theorem cells_slID : Try.prog.cellsOf 23 = 1 := by kernel_rfl
theorem cells_u8D : Try.prog.cellsOf 5 = 1 := by kernel_rfl

/-- How the numbers of a call were read. -/
def ReadAs {H : Type} (d : DataW H) (p : List Int) : Prop := (d = .nil ∧ p.length = 0) ∨ ∃ elems spare, d = .slice elems spare ∧ elems.length = p.length
set_option maxRecDepth 100000 in
/-- One call, off its five cells. -/
theorem one_opD {H : Type} {enc : TypeId × Value → H} {W : World} {n : Nat} {cs : List Value} {x : DataW H × List MemPlace} (h : DataW.trod enc Try.prog W 0 (fun _ => true) true n 67 cs = some x) (hl : cs.length = 5) :
    ∃ (o : OpD) (d0 d1 d2 d3 d4 : DataW H), cs = [.int .i64 o.C, .slice o.ba o.p.length o.bc, .int .i64 o.N, .slice o.la o.ls.length o.lc, .bool o.oth] ∧ x.1 = .agg [d0, d1, d2, d3, d4] ∧ ReadAs d1 o.p ∧ ReadAs d3 o.ls ∧ Seg W o.ba o.p ∧ o.p.length ≤ o.bc ∧ SegZ W o.la o.ls ∧ (o.la = none → o.lc = 0) ∧
      (-9223372036854775808 ≤ o.C ∧ o.C ≤ 9223372036854775807 ∧ -9223372036854775808 ≤ o.N ∧ o.N ≤ 9223372036854775807) := by
  obtain ⟨xs, k, _, hx, _, hxl, hf⟩ := DataW.trod_struct Try.underlying67 h
  match cs, hl with
  | [v0, v1, v2, v3, v4], _ =>
    match xs, hxl with
    | [y0, y1, y2, y3, y4], _ =>
      have g0 := hf 0 _ rfl
      have g1 := hf 1 _ rfl
      have g2 := hf 2 _ rfl
      have g3 := hf 3 _ rfl
      have g4 := hf 4 _ rfl
      simp [cells_intD, cells_slD, cells_slID, cells_boolD] at g0 g1 g2 g3 g4
      obtain ⟨C, e0, _, w0⟩ := DataW.trod_int Try.underlying3 g0
      obtain ⟨N, e2, _, w2⟩ := DataW.trod_int Try.underlying3 g2
      obtain ⟨oth, e4, _⟩ := DataW.trod_bool Try.underlying4 g4
      simp at e0 e2 e4
      subst e0 e2 e4
      obtain ⟨ba, bl, bc, rfl⟩ : ∃ ba bl bc, v1 = .slice ba bl bc := by
        rcases open_ints Try.underlying42 Try.underlying5 cells_u8D g1 with ⟨hcs, _⟩ | ⟨x, l, c, zs, hcs, _⟩
        · simp at hcs; exact ⟨_, _, _, hcs⟩
        · simp at hcs; exact ⟨_, _, _, hcs⟩
      obtain ⟨la, ll, lc, rfl⟩ : ∃ la ll lc, v3 = .slice la ll lc := by
        rcases open_ints Try.underlying23 Try.underlying3 cells_intD g3 with ⟨hcs, _⟩ | ⟨x, l, c, zs, hcs, _⟩
        · simp at hcs; exact ⟨_, _, _, hcs⟩
        · simp at hcs; exact ⟨_, _, _, hcs⟩
      have ht : DataW.Trod enc Try.prog W 0 (fun _ => true) true 42 (.slice ba bl bc) y1.1 y1.2 := ⟨k, by simpa [Value.cells] using g1⟩
      obtain ⟨p, hp, hseg, hcap, hnil, hd⟩ := open_seg (k := .u8) (M := 255) Try.underlying42 Try.underlying5 cells_u8D (by decide) (fun n hn => bounds_u8 hn) ht
      subst hp
      have ht3 : DataW.Trod enc Try.prog W 0 (fun _ => true) true 23 (.slice la ll lc) y3.1 y3.2 := ⟨k, by simpa [Value.cells] using g3⟩
      obtain ⟨ls, hls, hsegL, hcapL, hnilL, hdL⟩ := open_segZ Try.underlying23 Try.underlying3 cells_intD ht3
      subst hls
      have b0 := bounds_i64 w0
      have b2 := bounds_i64 w2
      exact ⟨⟨C, ba, p, bc, N, la, ls, lc, oth⟩, y0.1, y1.1, y2.1, y3.1, y4.1, rfl, by rw [hx]; rfl, hd, hdL, hseg, hcap, hsegL, hnilL, b0.1, b0.2, b2.1, b2.2⟩

theorem open_opsD {H : Type} {enc : TypeId × Value → H} {W : World} {a : Option Addr} {len cap : Nat} {d : DataW H} {pl : List MemPlace}
    (h : DataW.Trod enc Try.prog W 0 (fun _ => true) true 58 (.slice a len cap) d pl) :
    ∃ (O : Nat → OpD) (D0 D1 D2 D3 D4 : Nat → DataW H), SegD W a len O ∧ (∀ i, i < len → ReadAs (D1 i) (O i).p ∧ ReadAs (D3 i) (O i).ls) ∧
      ((d = .nil ∧ len = 0) ∨ ∃ spare, d = .slice ((List.range len).map fun i => .agg [D0 i, D1 i, D2 i, D3 i, D4 i]) spare) := by
  haveI : Inhabited OpD := ⟨⟨0, none, [], 0, 0, none, [], 0, false⟩⟩
  obtain ⟨fuel, hf⟩ := h
  rcases open_slice Try.underlying58 hf with ⟨hcs, hx⟩ | ⟨x, l, c, m, n, D, Pl, hcs, _, hl, hm, hmm, hx, hat⟩
  · simp [Value.cells] at hcs
    obtain ⟨rfl, rfl, rfl⟩ := hcs
    simp only [Prod.mk.injEq] at hx
    exact ⟨fun _ => default, fun _ => .nil, fun _ => .nil, fun _ => .nil, fun _ => .nil, fun _ => .nil, ⟨fun i hi => by omega, fun i hi => by omega, fun i hi => by omega, fun i hi => by omega, fun i hi => by omega, fun i hi => by omega⟩, fun i hi => by omega, Or.inl ⟨hx.1, rfl⟩⟩
  · simp [Value.cells] at hcs
    obtain ⟨rfl, rfl, rfl⟩ := hcs
    simp only [Prod.mk.injEq] at hx
    simp only [if_true] at hmm
    subst hmm
    rw [cells_op5] at hat
    have key : ∀ i, i < m → ∃ q : OpD × DataW H × DataW H × DataW H × DataW H × DataW H, W.cell? (x.add (i * 5)) = some (.int .i64 q.1.C) ∧ W.cell? (x.add (i * 5 + 1)) = some (.slice q.1.ba q.1.p.length q.1.bc) ∧ W.cell? (x.add (i * 5 + 2)) = some (.int .i64 q.1.N) ∧ W.cell? (x.add (i * 5 + 3)) = some (.slice q.1.la q.1.ls.length q.1.lc) ∧ W.cell? (x.add (i * 5 + 4)) = some (.bool q.1.oth) ∧
        D i = .agg [q.2.1, q.2.2.1, q.2.2.2.1, q.2.2.2.2.1, q.2.2.2.2.2] ∧ (ReadAs q.2.2.1 q.1.p ∧ ReadAs q.2.2.2.2.1 q.1.ls) ∧ Seg W q.1.ba q.1.p ∧ q.1.p.length ≤ q.1.bc ∧ SegZ W q.1.la q.1.ls ∧ (q.1.la = none → q.1.lc = 0) ∧
        (-9223372036854775808 ≤ q.1.C ∧ q.1.C ≤ 9223372036854775807 ∧ -9223372036854775808 ≤ q.1.N ∧ q.1.N ≤ 9223372036854775807) := by
      intro i hi
      obtain ⟨cs', h1, h2⟩ := hat i hi
      obtain ⟨_, hlen, hcell⟩ := World.cells?_some h1
      obtain ⟨o, d0, d1, d2, d3, d4, rfl, hD, hR1, hR3, hS, hcp, hSL, hnl, hbd⟩ := one_opD h2 hlen
      have e0 := hcell 0 (by omega)
      have e1 := hcell 1 (by omega)
      have e2 := hcell 2 (by omega)
      have e3 := hcell 3 (by omega)
      have e4 := hcell 4 (by omega)
      rw [add_add] at e0 e1 e2 e3 e4
      exact ⟨(o, d0, d1, d2, d3, d4), by simpa using e0, by simpa using e1, by simpa using e2, by simpa using e3, by simpa using e4, hD, ⟨hR1, hR3⟩, hS, hcp, hSL, hnl, hbd⟩
    haveI : Inhabited (DataW H) := ⟨.nil⟩
    obtain ⟨q, hq⟩ := choose_lt key
    refine ⟨fun i => (q i).1, fun i => (q i).2.1, fun i => (q i).2.2.1, fun i => (q i).2.2.2.1, fun i => (q i).2.2.2.2.1, fun i => (q i).2.2.2.2.2, ⟨fun i hi => ?_, fun i hi => ?_, fun i hi => ?_, fun i hi => ?_, fun i hi => ?_, fun i hi => ?_⟩, fun i hi => ?_, Or.inr ⟨(List.range (m - len)).map fun j => D (len + j), ?_⟩⟩
    · obtain ⟨h0, h1, h2, h3, h4, _⟩ := hq i (by omega)
      obtain ⟨b, off, spot⟩ := x
      have hs : spot = none := by
        obtain ⟨h5, _⟩ := hq 0 (by omega)
        simpa [Addr.add] using World.cell?_spot h5
      subst hs
      have hadd : ∀ j, (⟨b, off, none⟩ : Addr).add j = ⟨b, off + j, none⟩ := by intro j; unfold Addr.add; split <;> simp_all
      rw [hadd] at h0 h1 h2 h3 h4
      exact ⟨b, off, rfl, h0, by rw [Nat.add_assoc]; exact h1, by rw [Nat.add_assoc]; exact h2, by rw [Nat.add_assoc]; exact h3, by rw [Nat.add_assoc]; exact h4⟩
    · exact (hq i (by omega)).2.2.2.2.2.2.2.1
    · exact (hq i (by omega)).2.2.2.2.2.2.2.2.1
    · exact (hq i (by omega)).2.2.2.2.2.2.2.2.2.1
    · exact (hq i (by omega)).2.2.2.2.2.2.2.2.2.2.1
    · exact (hq i (by omega)).2.2.2.2.2.2.2.2.2.2.2
    · exact (hq i (by omega)).2.2.2.2.2.2.1
    · rw [hx.1]
      congr 1
      exact List.map_congr_left (fun i hi => (hq i (by have := List.mem_range.1 hi; omega)).2.2.2.2.2.1)

theorem weightsAll_mem {H : Type} {P : Program} {e : TypeId} {d : DataW H} {n : Nat} (hn : n ∈ d.weights P e) : ∀ {l : List (DataW H)}, d ∈ l → n ∈ DataW.weightsAll P e l
  | d0 :: r, h => by
    simp only [DataW.weightsAll, List.mem_append]
    rcases List.mem_cons.1 h with rfl | h
    · exact .inl hn
    · exact .inr (weightsAll_mem hn h)
theorem bytes_op72 : Try.prog.bytesOf 67 = 72 := by kernel_rfl
theorem bytes_u8D : Try.prog.bytesOf 5 = 1 := by kernel_rfl
theorem bytes_intD : Try.prog.bytesOf 3 = 8 := by kernel_rfl
/-- What the first form gives of a script. -/
theorem open_opsD_said {H : Type} {enc : TypeId × Value → H} {W : World} {a : Option Addr} {len cap : Nat} {d : DataW H} {pl : List MemPlace}
    (h : DataW.Trod enc Try.prog W 0 (fun _ => true) true 58 (.slice a len cap) d pl) (hw : (d.weights Try.prog 58).all (· ≤ reachBytes) = true) :
    ∃ (O : Nat → OpD), SegD W a len O ∧ len * 72 ≤ 140737488351232 ∧ ∀ i, i < len → (O i).p.length ≤ 140737488351232 ∧ (O i).ls.length * 8 ≤ 140737488351232 := by
  obtain ⟨O, D0, D1, D2, D3, D4, hs, hr, hd⟩ := open_opsD h
  refine ⟨O, hs, ?_⟩
  rcases hd with ⟨rfl, rfl⟩ | ⟨spare, rfl⟩
  · exact ⟨by simp, fun i hi => by omega⟩
  · constructor
    · have hm := List.all_eq_true.1 hw _ (by simp only [DataW.weights, Try.underlying58, List.mem_cons]; exact .inl rfl)
      rw [bytes_op72] at hm
      simp [reachBytes] at hm
      omega
    · intro i hi
      have hall : ∀ m, m ∈ (DataW.agg [D0 i, D1 i, D2 i, D3 i, D4 i]).weights Try.prog 67 → m ≤ reachBytes := fun m hm1 => by
        have hm2 := weightsAll_mem hm1 (l := (List.range len).map fun i => DataW.agg [D0 i, D1 i, D2 i, D3 i, D4 i]) (List.mem_map.2 ⟨i, List.mem_range.2 hi, rfl⟩)
        have hm3 := List.all_eq_true.1 hw _ (by simp only [DataW.weights, Try.underlying58, List.mem_cons, List.mem_append]; exact .inr (.inl hm2))
        exact of_decide_eq_true hm3
      constructor
      · rcases (hr i hi).1 with ⟨hd, h0⟩ | ⟨elems, sp, hd, h0⟩
        · omega
        · have hm3 := hall ((elems.length + sp.length) * Try.prog.bytesOf 5) (by
            rw [hd]
            simp [DataW.weights, DataW.weightsEach, Try.underlying67, Try.underlying42])
          rw [bytes_u8D] at hm3
          simp [reachBytes] at hm3
          omega
      · rcases (hr i hi).2 with ⟨hd, h0⟩ | ⟨elems, sp, hd, h0⟩
        · omega
        · have hm3 := hall ((elems.length + sp.length) * Try.prog.bytesOf 3) (by
            rw [hd]
            simp [DataW.weights, DataW.weightsEach, Try.underlying67, Try.underlying23])
          rw [bytes_intD] at hm3
          simp [reachBytes] at hm3
          omega
end Go.Proofs.Ytkjccbihdinlkaa
