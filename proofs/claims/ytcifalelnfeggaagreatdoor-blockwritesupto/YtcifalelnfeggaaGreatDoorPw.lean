import Derived.Test.YtcifalelnfeggaaGreatDoorPa
import Derived.WalkKit
import Derived.ProofKit
import Derived.OpenShut
import Derived.SizedLaws
import Derived.Test.YtcifalelnfeggaaGreatDoorPf
import Derived.Deep.Slices
import Derived.Lib.SmallJoins
import Derived.Test.YtcifalelnfeggaaGreatDoorPu
import Derived.Test.YtcifalelnfeggaaGreatDoorRows
import Derived.Deep.DeepHandedRow
import Derived.Lib.LaidTab
import Derived.LaidSub
namespace Go.Proofs.YtcifalelnfeggaaGreatDoor
open Go.ChangeShapes Go.WideShapes Go.ChangeAt Go.RowKit
set_option linter.unusedVariables false

/-- A slice of whole numbers that came in: what lies there, and how it was read. -/
theorem open_seg {H : Type} {enc : TypeId × Value → H} {P : Program} {W : World} {T e : TypeId} {k : IntKind} {M : Int} {a : Option Addr} {len cap : Nat} {d : DataW H} {p : List MemPlace}
    (hT : P.underlying T = some (.slice e)) (he : P.underlying e = some (.int k)) (hc : P.cellsOf e = 1) (hM : 0 ≤ M) (hwf : ∀ n, (Lit.int k n).wf = true → 0 ≤ n ∧ n ≤ M)
    (h : DataW.Trod enc P W 0 (fun _ => true) true T (.slice a len cap) d p) :
    ∃ zs : List Int, zs.length = len ∧ SegK k M W a zs ∧ len ≤ cap ∧ (a = none → cap = 0) ∧ ((d = .nil ∧ len = 0) ∨ ∃ elems spare, d = .slice elems spare ∧ elems.length = len) := by
  obtain ⟨fuel, hf⟩ := h
  rcases open_ints hT he hc hf with ⟨hcs, hx⟩ | ⟨x, l, c, zs, hcs, _, hl, hm, hz, hx, hcell, hwz⟩
  · simp [Value.cells] at hcs
    obtain ⟨rfl, rfl, rfl⟩ := hcs
    simp only [Prod.mk.injEq] at hx
    exact ⟨[], rfl, SegK.nil hM _ _, Nat.le_refl _, fun _ => rfl, Or.inl ⟨hx.1, rfl⟩⟩
  · simp [Value.cells] at hcs
    obtain ⟨rfl, rfl, rfl⟩ := hcs
    simp only [Prod.mk.injEq] at hx
    simp only [if_true] at hz
    refine ⟨zs.take len, by simp; omega, ⟨fun i hi => ?_, hM, getD_bd hM ?_⟩, hl, (by intro h; cases h), Or.inr ⟨_, _, hx.1, by simp [ChangeShapes.lits]; omega⟩⟩
    · simp at hi
      have hi2 : i < len := by omega
      have h1 := hcell i (by omega)
      obtain ⟨b, off, spot⟩ := x
      have hs : spot = none := by
        have := hcell 0 (by omega)
        simpa [Addr.add] using World.cell?_spot this
      subst hs
      refine ⟨b, off, rfl, ?_⟩
      have hadd : (⟨b, off, none⟩ : Addr).add i = ⟨b, off + i, none⟩ := by unfold Addr.add; split <;> simp_all
      rw [hadd] at h1
      rw [h1]
      simp [List.getD, hi2]
    · intro z hz1
      exact hwf z (hwz z (List.mem_of_mem_take hz1))
end Go.Proofs.YtcifalelnfeggaaGreatDoor

namespace Go.Proofs.YtcifalelnfeggaaGreatDoor
open Go.ChangeShapes Go.WideShapes Go.ChangeAt Go.RowKit Go.Deep
set_option linter.unusedVariables false
set_option maxRecDepth 100000

theorem cells_tok7 : Tryz.prog.cellsOf 98 = 3 := by kernel_rfl
theorem cells_int7 : Tryz.prog.cellsOf 3 = 1 := by kernel_rfl
theorem cells_u87 : Tryz.prog.cellsOf 5 = 1 := by kernel_rfl
/-- One token, off its three cells. -/
theorem one_tok {H : Type} {enc : TypeId × Value → H} {W : World} {n : Nat} {cs : List Value} {x : DataW H × List MemPlace} (h : DataW.trod enc Tryz.prog W 0 (fun _ => true) true n 98 cs = some x) (hl : cs.length = 3) :
    ∃ t : Tok7, cs = [.int .u8 t.lit, .int .i64 t.len, .int .i64 t.dist] ∧ t.Fit := by
  obtain ⟨xs, k, _, _, _, hxl, hf⟩ := DataW.trod_struct Tryz.underlying98 h
  match cs, hl with
  | [v0, v1, v2], _ =>
    match xs, hxl with
    | [y0, y1, y2], _ =>
      have g0 := hf 0 _ rfl
      have g1 := hf 1 _ rfl
      have g2 := hf 2 _ rfl
      simp [cells_u87, cells_int7] at g0 g1 g2
      obtain ⟨V, e0, _, w0⟩ := DataW.trod_int Tryz.underlying5 g0
      obtain ⟨N, e1, _, w1⟩ := DataW.trod_int Tryz.underlying3 g1
      obtain ⟨M, e2, _, w2⟩ := DataW.trod_int Tryz.underlying3 g2
      simp at e0 e1 e2
      subst e0 e1 e2
      exact ⟨⟨V, N, M⟩, rfl, bounds_u8 w0, bounds_i64 w1, bounds_i64 w2⟩
theorem open_toks {H : Type} {enc : TypeId × Value → H} {W : World} {a : Option Addr} {len cap : Nat} {d : DataW H} {p : List MemPlace}
    (h : DataW.Trod enc Tryz.prog W 0 (fun _ => true) true 35 (.slice a len cap) d p) :
    ∃ l : List Tok7, l.length = len ∧ SegT W a l ∧ ((d = .nil ∧ len = 0) ∨ ∃ elems spare, d = .slice elems spare ∧ elems.length = len) := by
  haveI : Inhabited Tok7 := ⟨tk0⟩
  obtain ⟨fuel, hf⟩ := h
  rcases open_slice Tryz.underlying35 hf with ⟨hcs, hx⟩ | ⟨x, l, c, m, n, D, Pl, hcs, _, hl, hm, hmm, hx, hat⟩
  · simp [Value.cells] at hcs
    obtain ⟨rfl, rfl, rfl⟩ := hcs
    simp only [Prod.mk.injEq] at hx
    exact ⟨[], rfl, SegT.nil _ _, Or.inl ⟨hx.1, rfl⟩⟩
  · simp [Value.cells] at hcs
    obtain ⟨rfl, rfl, rfl⟩ := hcs
    simp only [Prod.mk.injEq] at hx
    simp only [if_true] at hmm
    subst hmm
    rw [cells_tok7] at hat
    have key : ∀ i, i < m → ∃ q : Tok7, W.cell? (x.add (i * 3)) = some (.int .u8 q.lit) ∧ W.cell? (x.add (i * 3 + 1)) = some (.int .i64 q.len) ∧ W.cell? (x.add (i * 3 + 2)) = some (.int .i64 q.dist) ∧ q.Fit := by
      intro i hi
      obtain ⟨cs', h1, h2⟩ := hat i hi
      obtain ⟨_, hlen, hcell⟩ := World.cells?_some h1
      obtain ⟨t, rfl, hfit⟩ := one_tok h2 hlen
      have e0 := hcell 0 (by omega)
      have e1 := hcell 1 (by omega)
      have e2 := hcell 2 (by omega)
      rw [add_add] at e0 e1 e2
      exact ⟨t, by simpa using e0, by simpa using e1, by simpa using e2, hfit⟩
    obtain ⟨q, hq⟩ := choose_lt key
    refine ⟨(List.range len).map q, by simp, ⟨fun i hi => ?_, fun t ht => ?_⟩, Or.inr ⟨_, _, hx.1, by simp⟩⟩
    · have hi2 : i < len := by simpa using hi
      obtain ⟨h1, h2, h3, _⟩ := hq i (by omega)
      obtain ⟨b, off, spot⟩ := x
      have hs : spot = none := by
        obtain ⟨h5, _⟩ := hq 0 (by omega)
        simpa [Addr.add] using World.cell?_spot h5
      subst hs
      have hadd : ∀ j, (⟨b, off, none⟩ : Addr).add j = ⟨b, off + j, none⟩ := by intro j; unfold Addr.add; split <;> simp_all
      rw [hadd] at h1 h2 h3
      have hg : ((List.range len).map q).getD i tk0 = q i := by simp [List.getD, hi2]
      rw [hg]
      exact ⟨b, off, rfl, h1, by rw [Nat.add_assoc]; exact h2, by rw [Nat.add_assoc]; exact h3⟩
    · obtain ⟨i, hi, rfl⟩ := List.mem_map.1 ht
      exact (hq i (by have := List.mem_range.1 hi; omega)).2.2.2
end Go.Proofs.YtcifalelnfeggaaGreatDoor

namespace Go.Proofs.YtcifalelnfeggaaGreatDoor
open Go.ChangeShapes Go.WideShapes Go.ChangeAt Go.RowKit Go.Deep
set_option linter.unusedVariables false
set_option maxRecDepth 100000

theorem cells_bl4 : Tryz.prog.cellsOf 71 = 4 := by kernel_rfl
theorem cells_intb : Tryz.prog.cellsOf 3 = 1 := by kernel_rfl
theorem cells_boolb : Tryz.prog.cellsOf 4 = 1 := by kernel_rfl
theorem cells_slb : Tryz.prog.cellsOf 35 = 1 := by kernel_rfl
/-- How the tokens of a block were read. -/
def ReadAt {H : Type} (d : DataW H) (p : List Tok7) : Prop := (d = .nil ∧ p.length = 0) ∨ ∃ elems spare, d = .slice elems spare ∧ elems.length = p.length
theorem open_sl9 {H : Type} {enc : TypeId × Value → H} {W : World} {k : Nat} {v : Value} {y : DataW H × List MemPlace} (h : DataW.trod enc Tryz.prog W 0 (fun _ => true) true k 35 [v] = some y) : ∃ ba bl bc, v = .slice ba bl bc := by
  rcases open_slice Tryz.underlying35 h with ⟨hcs, hx⟩ | ⟨x, l, c, m, n, D, Pl, hcs, _⟩
  · simp at hcs; exact ⟨_, _, _, hcs⟩
  · simp at hcs; exact ⟨_, _, _, hcs⟩
/-- One block, off its four cells. -/
theorem one_bl {H : Type} {enc : TypeId × Value → H} {W : World} {n : Nat} {cs : List Value} {x : DataW H × List MemPlace} (h : DataW.trod enc Tryz.prog W 0 (fun _ => true) true n 71 cs = some x) (hl : cs.length = 4) :
    ∃ (K G : Int) (b : Bool) (ba : Option Addr) (p : List Tok7) (bc : Nat) (d0 d1 d2 d3 : DataW H), cs = [.int .i64 K, .bool b, .int .i64 G, .slice ba p.length bc] ∧ x.1 = .agg [d0, d1, d2, d3] ∧ ReadAt d3 p ∧ SegT W ba p ∧
      (-9223372036854775808 ≤ K ∧ K ≤ 9223372036854775807 ∧ -9223372036854775808 ≤ G ∧ G ≤ 9223372036854775807) := by
  obtain ⟨xs, k, _, hx, _, hxl, hf⟩ := DataW.trod_struct Tryz.underlying71 h
  match cs, hl with
  | [v0, v1, v2, v3], _ =>
    match xs, hxl with
    | [y0, y1, y2, y3], _ =>
      have g0 := hf 0 _ rfl
      have g1 := hf 1 _ rfl
      have g2 := hf 2 _ rfl
      have g3 := hf 3 _ rfl
      simp [cells_intb, cells_boolb, cells_slb] at g0 g1 g2 g3
      obtain ⟨K, e0, _, w0⟩ := DataW.trod_int Tryz.underlying3 g0
      obtain ⟨b, e1, _⟩ := DataW.trod_bool Tryz.underlying4 g1
      obtain ⟨G, e2, _, w2⟩ := DataW.trod_int Tryz.underlying3 g2
      simp at e0 e1 e2
      subst e0 e1 e2
      obtain ⟨ba, bl, bc, rfl⟩ := open_sl9 g3
      have ht : DataW.Trod enc Tryz.prog W 0 (fun _ => true) true 35 (.slice ba bl bc) y3.1 y3.2 := ⟨k, by simpa [Value.cells] using g3⟩
      obtain ⟨p, hp, hseg, hd⟩ := open_toks ht
      subst hp
      have b0 := bounds_i64 w0
      have b2 := bounds_i64 w2
      exact ⟨K, G, b, ba, p, bc, y0.1, y1.1, y2.1, y3.1, rfl, by rw [hx]; rfl, hd, hseg, b0.1, b0.2, b2.1, b2.2⟩

theorem open_blocks {H : Type} {enc : TypeId × Value → H} {W : World} {a : Option Addr} {len cap : Nat} {d : DataW H} {pl : List MemPlace}
    (h : DataW.Trod enc Tryz.prog W 0 (fun _ => true) true 58 (.slice a len cap) d pl) :
    ∃ (K G : Nat → Int) (La : Nat → Bool) (Ta : Nat → Option Addr) (TL : Nat → List Tok7) (Tc : Nat → Nat) (D0 D1 D2 D3 : Nat → DataW H), SegBl W a len K G La Ta TL Tc ∧ (∀ i, i < len → ReadAt (D3 i) (TL i)) ∧
      ((d = .nil ∧ len = 0) ∨ ∃ spare, d = .slice ((List.range len).map fun i => .agg [D0 i, D1 i, D2 i, D3 i]) spare) := by
  obtain ⟨fuel, hf⟩ := h
  rcases open_slice Tryz.underlying58 hf with ⟨hcs, hx⟩ | ⟨x, l, c, m, n, D, Pl, hcs, _, hl, hm, hmm, hx, hat⟩
  · simp [Value.cells] at hcs
    obtain ⟨rfl, rfl, rfl⟩ := hcs
    simp only [Prod.mk.injEq] at hx
    exact ⟨fun _ => 0, fun _ => 0, fun _ => false, fun _ => none, fun _ => [], fun _ => 0, fun _ => .nil, fun _ => .nil, fun _ => .nil, fun _ => .nil, ⟨fun i hi => by omega, fun i hi => by omega, fun i hi => by omega⟩, fun i hi => by omega, Or.inl ⟨hx.1, rfl⟩⟩
  · simp [Value.cells] at hcs
    obtain ⟨rfl, rfl, rfl⟩ := hcs
    simp only [Prod.mk.injEq] at hx
    simp only [if_true] at hmm
    subst hmm
    rw [cells_bl4] at hat
    have key : ∀ i, i < m → ∃ q : Int × Int × Bool × Option Addr × List Tok7 × Nat × DataW H × DataW H × DataW H × DataW H, W.cell? (x.add (i * 4)) = some (.int .i64 q.1) ∧ W.cell? (x.add (i * 4 + 1)) = some (.bool q.2.2.1) ∧ W.cell? (x.add (i * 4 + 2)) = some (.int .i64 q.2.1) ∧ W.cell? (x.add (i * 4 + 3)) = some (.slice q.2.2.2.1 q.2.2.2.2.1.length q.2.2.2.2.2.1) ∧
        D i = .agg [q.2.2.2.2.2.2.1, q.2.2.2.2.2.2.2.1, q.2.2.2.2.2.2.2.2.1, q.2.2.2.2.2.2.2.2.2] ∧ ReadAt q.2.2.2.2.2.2.2.2.2 q.2.2.2.2.1 ∧ SegT W q.2.2.2.1 q.2.2.2.2.1 ∧
        (-9223372036854775808 ≤ q.1 ∧ q.1 ≤ 9223372036854775807 ∧ -9223372036854775808 ≤ q.2.1 ∧ q.2.1 ≤ 9223372036854775807) := by
      intro i hi
      obtain ⟨cs', h1, h2⟩ := hat i hi
      obtain ⟨_, hlen, hcell⟩ := World.cells?_some h1
      obtain ⟨K, G, b, ba, p, bc, d0, d1, d2, d3, rfl, hD, hR, hS, hbd⟩ := one_bl h2 hlen
      have e0 := hcell 0 (by omega)
      have e1 := hcell 1 (by omega)
      have e2 := hcell 2 (by omega)
      have e3 := hcell 3 (by omega)
      rw [add_add] at e0 e1 e2 e3
      exact ⟨(K, G, b, ba, p, bc, d0, d1, d2, d3), by simpa using e0, by simpa using e1, by simpa using e2, by simpa using e3, hD, hR, hS, hbd⟩
    haveI : Inhabited (DataW H) := ⟨.nil⟩
    obtain ⟨q, hq⟩ := choose_lt key
    refine ⟨fun i => (q i).1, fun i => (q i).2.1, fun i => (q i).2.2.1, fun i => (q i).2.2.2.1, fun i => (q i).2.2.2.2.1, fun i => (q i).2.2.2.2.2.1, fun i => (q i).2.2.2.2.2.2.1, fun i => (q i).2.2.2.2.2.2.2.1, fun i => (q i).2.2.2.2.2.2.2.2.1, fun i => (q i).2.2.2.2.2.2.2.2.2, ⟨fun i hi => ?_, fun i hi => ?_, fun i hi => ?_⟩, fun i hi => ?_, Or.inr ⟨(List.range (m - len)).map fun j => D (len + j), ?_⟩⟩
    · obtain ⟨h0, h1, h2, h3, _⟩ := hq i (by omega)
      obtain ⟨b, off, spot⟩ := x
      have hs : spot = none := by
        obtain ⟨h5, _⟩ := hq 0 (by omega)
        simpa [Addr.add] using World.cell?_spot h5
      subst hs
      have hadd : ∀ j, (⟨b, off, none⟩ : Addr).add j = ⟨b, off + j, none⟩ := by intro j; unfold Addr.add; split <;> simp_all
      rw [hadd] at h0 h1 h2 h3
      exact ⟨b, off, rfl, h0, by rw [Nat.add_assoc]; exact h1, by rw [Nat.add_assoc]; exact h2, by rw [Nat.add_assoc]; exact h3⟩
    · exact (hq i (by omega)).2.2.2.2.2.2.1
    · exact (hq i (by omega)).2.2.2.2.2.2.2
    · exact (hq i (by omega)).2.2.2.2.2.1
    · rw [hx.1]
      congr 1
      exact List.map_congr_left (fun i hi => (hq i (by have := List.mem_range.1 hi; omega)).2.2.2.2.1)

theorem bulk_append9 {H : Type} : ∀ l m : List (DataW H), Rows.uptoBulkAll (l ++ m) = Rows.uptoBulkAll l + Rows.uptoBulkAll m
  | [], m => by simp [Rows.uptoBulkAll]
  | d :: r, m => by
    have := bulk_append9 r m
    simp only [List.cons_append, Rows.uptoBulkAll, this]
    omega
theorem bulk_read9 {H : Type} {d : DataW H} {p : List Tok7} (h : ReadAt d p) : p.length + 1 ≤ Rows.uptoBulk d := by
  rcases h with ⟨rfl, h⟩ | ⟨elems, spare, rfl, h⟩
  · rw [h]; simp [Rows.uptoBulk]
  · have := UptoLemmas.slice_le elems spare
    omega
theorem tb9_bulk {H : Type} (TL : Nat → List Tok7) (f : Nat → DataW H) (n : Nat) (h : ∀ i, i < n → (TL i).length + 5 ≤ Rows.uptoBulk (f i)) : tb9 TL n ≤ 7 + 2100 * Rows.uptoBulkAll ((List.range n).map f) ∧ ∀ i, i < n → (TL i).length ≤ Rows.uptoBulkAll ((List.range n).map f) := by
  induction n with
  | zero => exact ⟨by simp [tb9], fun i hi => by omega⟩
  | succ n ih =>
    obtain ⟨h1, h3⟩ := ih (fun i hi => h i (by omega))
    have h2 := h n (by omega)
    rw [List.range_succ, List.map_append, bulk_append9]
    simp only [List.map_cons, List.map_nil, Rows.uptoBulkAll, tb9]
    refine ⟨by omega, fun i hi => ?_⟩
    rcases Nat.lt_or_eq_of_le (Nat.le_of_lt_succ hi) with q | q
    · have := h3 i q; omega
    · rw [q]; omega
/-- What the second form asks of blocks. -/
theorem open_blocks_upto {H : Type} {enc : TypeId × Value → H} {W : World} {a : Option Addr} {len cap : Nat} {d : DataW H} {pl : List MemPlace}
    (h : DataW.Trod enc Tryz.prog W 0 (fun _ => true) true 58 (.slice a len cap) d pl) :
    ∃ (K G : Nat → Int) (La : Nat → Bool) (Ta : Nat → Option Addr) (TL : Nat → List Tok7) (Tc : Nat → Nat), SegBl W a len K G La Ta TL Tc ∧ len ≤ Rows.uptoBulk d ∧ tb9 TL len ≤ 7 + 2100 * Rows.uptoBulk d ∧ ∀ i, i < len → (TL i).length ≤ Rows.uptoBulk d := by
  obtain ⟨K, G, La, Ta, TL, Tc, D0, D1, D2, D3, hs, hr, hd⟩ := open_blocks h
  refine ⟨K, G, La, Ta, TL, Tc, hs, ?_⟩
  rcases hd with ⟨rfl, rfl⟩ | ⟨spare, rfl⟩
  · exact ⟨by omega, by simp [tb9], fun i hi => by omega⟩
  · obtain ⟨h1, h3⟩ := tb9_bulk TL (fun i => DataW.agg [D0 i, D1 i, D2 i, D3 i]) len (fun i hi => by
      have h3 := bulk_read9 (hr i hi)
      have h0 := UptoLemmas.bulk_pos (D0 i)
      have h1 := UptoLemmas.bulk_pos (D1 i)
      have h2 := UptoLemmas.bulk_pos (D2 i)
      simp only [Rows.uptoBulk, Rows.uptoBulkAll]
      omega)
    have h2 := UptoLemmas.slice_le ((List.range len).map fun i => DataW.agg [D0 i, D1 i, D2 i, D3 i]) spare
    rw [List.length_map, List.length_range] at h2
    refine ⟨by omega, ?_, fun i hi => ?_⟩
    · simp only [Rows.uptoBulk]
      omega
    · have := h3 i hi
      simp only [Rows.uptoBulk]
      omega
end Go.Proofs.YtcifalelnfeggaaGreatDoor

namespace Go.Proofs.YtcifalelnfeggaaGreatDoor
open Go.ChangeShapes Go.WideShapes Go.ChangeAt Go.RowKit
set_option linter.unusedVariables false

theorem gSns : Tryz.prog.globalNamed "sapper/head.senses" = some 0 := by kernel_rfl
theorem gSnsType : (Tryz.prog.globals[0]?).map (·.type) = some 214 := by kernel_rfl
theorem gOrd : Tryz.prog.globalNamed "sapper/head.order" = some 1 := by kernel_rfl
theorem gOrdType : (Tryz.prog.globals[1]?).map (·.type) = some 215 := by kernel_rfl
theorem cellsSns : Tryz.prog.cellsOf 214 = 57 := by kernel_rfl
theorem cellsSense : Tryz.prog.cellsOf 213 = 3 := by kernel_rfl
theorem cellsOrd : Tryz.prog.cellsOf 215 = 19 := by kernel_rfl
theorem cellsInt8 : Tryz.prog.cellsOf 3 = 1 := by kernel_rfl

/-- A table of rows of three numbers as a row of the statements lists it. -/
def rowsData {H : Type} (l : List (Int × Int × Int)) : DataW H := .agg (l.map fun r => .agg [.lit (.int .i64 r.1), .lit (.int .i64 r.2.1), .lit (.int .i64 r.2.2)])
def flat3 (l : List (Int × Int × Int)) : List Value := l.flatMap fun r => [.int .i64 r.1, .int .i64 r.2.1, .int .i64 r.2.2]
theorem flat3_get : ∀ (l : List (Int × Int × Int)) (k j : Nat) (x : Int × Int × Int), l[k]? = some x → j < 3 → (flat3 l)[k * 3 + j]? = ([.int .i64 x.1, .int .i64 x.2.1, .int .i64 x.2.2] : List Value)[j]?
  | [], k, j, x, h, _ => by simp at h
  | t :: r, 0, j, x, h, hj => by
    simp at h
    subst h
    have e : flat3 (t :: r) = [.int .i64 t.1, .int .i64 t.2.1, .int .i64 t.2.2] ++ flat3 r := rfl
    rw [e, Nat.zero_mul, Nat.zero_add, List.getElem?_append_left (by simpa using hj)]
  | t :: r, k + 1, j, x, h, hj => by
    have := flat3_get r k j x (by simpa using h) hj
    have e : flat3 (t :: r) = [.int .i64 t.1, .int .i64 t.2.1, .int .i64 t.2.2] ++ flat3 r := rfl
    rw [e, List.getElem?_append_right (by simp; omega), show (k + 1) * 3 + j - ([.int .i64 t.1, .int .i64 t.2.1, .int .i64 t.2.2] : List Value).length = k * 3 + j by simp; omega]
    exact this
theorem flat3_len : ∀ l : List (Int × Int × Int), (flat3 l).length = l.length * 3
  | [] => rfl
  | t :: r => by
    have e : flat3 (t :: r) = [.int .i64 t.1, .int .i64 t.2.1, .int .i64 t.2.2] ++ flat3 r := rfl
    rw [e, List.length_append, flat3_len r, List.length_cons]
    simp
    omega
/-- Three numbers that read as a row of the table. -/
theorem cells_of_three {H : Type} {enc : TypeId × Value → H} {P : Program} {w : World} {base : Nat} {sp : Nat → Bool} {held : Bool} {fuel : Nat} {t e : TypeId} {fs : Array Field} {cs : List Value} {a b c : Int} {p : List MemPlace}
    (ht : P.underlying t = some (.struct fs)) (hf : fs.toList.map (fun f => (f.type, f.offset)) = [(e, 0), (e, 1), (e, 2)]) (he : P.underlying e = some (.int .i64)) (hce : P.cellsOf e = 1) (hct : P.cellsOf t = 3)
    (h : DataW.trod enc P w base sp held fuel t cs = some (.agg [.lit (.int .i64 a), .lit (.int .i64 b), .lit (.int .i64 c)], p)) : cs = [.int .i64 a, .int .i64 b, .int .i64 c] := by
  cases fuel with
  | zero => simp [DataW.trod] at h
  | succ fuel =>
    simp only [DataW.trod, ht, hct] at h
    split at h
    · rename_i hl
      obtain ⟨xs, hm, hx⟩ := Option.map_eq_some_iff.1 h
      have hxs : xs.map (·.1) = [.lit (.int .i64 a), .lit (.int .i64 b), .lit (.int .i64 c)] := by
        have := congrArg Prod.fst hx
        simpa using this
      have key : ∀ (i : Nat) (z : Int), i < 3 → ([a, b, c] : List Int)[i]? = some z → cs[i]? = some (.int .i64 z) := by
        intro i z hi hz
        have hfi : ∃ f, fs.toList[i]? = some f ∧ f.type = e ∧ f.offset = i := by
          have h1 := congrArg (·[i]?) hf
          simp only [List.getElem?_map] at h1
          rcases i with _ | _ | _ | i
          · obtain ⟨f, e1, e2⟩ := Option.map_eq_some_iff.1 h1
            simp only [Prod.mk.injEq] at e2
            exact ⟨f, e1, e2.1, e2.2⟩
          · obtain ⟨f, e1, e2⟩ := Option.map_eq_some_iff.1 h1
            simp only [Prod.mk.injEq] at e2
            exact ⟨f, e1, e2.1, e2.2⟩
          · obtain ⟨f, e1, e2⟩ := Option.map_eq_some_iff.1 h1
            simp only [Prod.mk.injEq] at e2
            exact ⟨f, e1, e2.1, e2.2⟩
          · omega
        obtain ⟨f, hf1, hf2, hf3⟩ := hfi
        obtain ⟨y, hy, hfy⟩ := Lib.mapM_at hm i f hf1
        rw [hf2, hf3, hce] at hfy
        obtain ⟨z', hc, hyz, _⟩ := DataW.trod_int he hfy
        have h1 : cs[i]? = some (.int .i64 z') := by
          have := congrArg (·[0]?) hc
          simpa [List.getElem?_take, List.getElem?_drop] using this
        have h2 : (xs.map (·.1))[i]? = some (DataW.lit (.int .i64 z') : DataW H) := by simp [hy, hyz]
        rw [hxs] at h2
        rw [h1]
        rcases i with _ | _ | _ | i
        · simp at h2 hz; rw [← h2, hz]
        · simp at h2 hz; rw [← h2, hz]
        · simp at h2 hz; rw [← h2, hz]
        · omega
      apply List.ext_getElem?
      intro i
      rcases i with _ | _ | _ | i
      · rw [key 0 a (by omega) rfl]; rfl
      · rw [key 1 b (by omega) rfl]; rfl
      · rw [key 2 c (by omega) rfl]; rfl
      · rw [List.getElem?_eq_none (by omega), List.getElem?_eq_none (by simp)]
    · cases h
theorem cells_of_rows {H : Type} {enc : TypeId × Value → H} {P : Program} {w : World} {base : Nat} {sp : Nat → Bool} {held : Bool} {fuel : Nat} {t u e : TypeId} {n : Nat} {fs : Array Field} {cs : List Value} {l : List (Int × Int × Int)} {p : List MemPlace}
    (ht : P.underlying t = some (.array n u)) (hu : P.underlying u = some (.struct fs)) (hf : fs.toList.map (fun f => (f.type, f.offset)) = [(e, 0), (e, 1), (e, 2)]) (he : P.underlying e = some (.int .i64)) (hce : P.cellsOf e = 1) (hcu : P.cellsOf u = 3) (hct : P.cellsOf t = n * 3)
    (h : DataW.trod enc P w base sp held fuel t cs = some (rowsData l, p)) : cs = flat3 l := by
  cases fuel with
  | zero => simp [DataW.trod] at h
  | succ fuel =>
    simp only [DataW.trod, ht, hct, hcu] at h
    split at h
    · rename_i hl
      obtain ⟨xs, hm, hx⟩ := Option.map_eq_some_iff.1 h
      have hxs : xs.map (·.1) = l.map fun r => (.agg [.lit (.int .i64 r.1), .lit (.int .i64 r.2.1), .lit (.int .i64 r.2.2)] : DataW H) := by
        have := congrArg Prod.fst hx
        simpa [rowsData] using this
      have hxl : xs.length = n := by simpa using Lib.mapM_length hm
      have hzl : l.length = n := by
        have := congrArg List.length hxs
        simp at this
        omega
      apply List.ext_getElem?
      intro q
      by_cases hq : q < n * 3
      · obtain ⟨i, j, hj, rfl⟩ : ∃ i j, j < 3 ∧ q = i * 3 + j := ⟨q / 3, q % 3, by omega, by omega⟩
        have hi : i < n := by omega
        obtain ⟨y, hy, hfy⟩ := Lib.mapM_at hm i i (by simp [hi])
        obtain ⟨r, hr⟩ : ∃ r, l[i]? = some r := ⟨l[i]'(by omega), by simp [show i < l.length by omega]⟩
        have hy1 : y.1 = .agg [.lit (.int .i64 r.1), .lit (.int .i64 r.2.1), .lit (.int .i64 r.2.2)] := by
          have h2 : (xs.map (·.1))[i]? = some y.1 := by simp [hy]
          rw [hxs] at h2
          simp [hr] at h2
          exact h2.symm
        obtain ⟨y1, y2⟩ := y
        simp only at hy1
        subst hy1
        have hc := cells_of_three hu hf he hce hcu hfy
        rw [flat3_get l i j r hr hj, ← hc, List.getElem?_take, if_pos hj, List.getElem?_drop]
      · rw [List.getElem?_eq_none (by omega), List.getElem?_eq_none (by rw [flat3_len]; omega)]
    · cases h
def snsR : List (Int × Int × Int) := [(0, 1, 0), (1, 1, 0), (2, 1, 0), (3, 1, 0), (4, 1, 0), (5, 1, 0), (6, 1, 0), (7, 1, 0), (8, 1, 0), (9, 1, 0), (10, 1, 0), (11, 1, 0), (12, 1, 0), (13, 1, 0), (14, 1, 0), (15, 1, 0), (-1, 3, 2), (0, 3, 3), (0, 11, 7)]
theorem flat3_sns : flat3 snsR = snsL.map (Value.int .i64) := rfl
theorem sense_struct : ∃ fs, Tryz.prog.underlying 213 = some (.struct fs) ∧ fs.toList.map (fun f => (f.type, f.offset)) = [(3, 0), (3, 1), (3, 2)] := ⟨_, Tryz.underlying213, rfl⟩
theorem tabS_of {W : World} {rest : List (String × DataW Unit)} (h : laidMet Tryz.prog (("sapper/head.senses", Rows.laid_sapper_head_senses) :: rest) W) : TabS W := by
  obtain ⟨ps, ⟨g', t', cs, fuel, p, q, hg', ht', hvar, hd, _, _⟩, _⟩ := h
  obtain rfl := Option.some.inj (gSns.symm.trans hg')
  obtain rfl := Option.some.inj (gSnsType.symm.trans ht')
  obtain ⟨fs, hs, hf⟩ := sense_struct
  have hd' : DataW.trod _ Tryz.prog W _ _ _ fuel 214 cs.toList = some (rowsData snsR, p) := hd
  have hc := cells_of_rows (n := 19) Tryz.underlying214 hs hf Tryz.underlying3 cellsInt8 cellsSense cellsSns hd'
  rw [flat3_sns] at hc
  have hcs : cs = (snsL.map (Value.int .i64)).toArray := by rw [← hc]
  rw [hcs] at hvar
  refine ⟨fun i hi => ⟨0, 0, rfl, ?_⟩, getD_bdz (by decide)⟩
  have := World.var?_cell gSns hvar i
  rw [Nat.zero_add]
  simpa [List.getD, hi] using this
theorem tabO_of {W : World} {rest : List (String × DataW Unit)} (h : laidMet Tryz.prog (("sapper/head.order", Rows.laid_sapper_head_order) :: rest) W) : TabO W := by
  have ht : Lib.TabIs Tryz.prog W "sapper/head.order" .i64 ordL :=
    Lib.tabIs_of_head (rest := rest) gOrd gOrdType Tryz.underlying215 Tryz.underlying3 cellsInt8 cellsOrd h
  refine ⟨fun i hi => ⟨1, 0, rfl, ?_⟩, getD_bdz (by decide)⟩
  rw [Nat.zero_add]
  exact ht.cell gOrd i hi
theorem tabB_of {W : World} (h : laidMetH Tryz.prog [("sapper/head.senses", Rows.laid_sapper_head_senses), ("sapper/head.order", Rows.laid_sapper_head_order)] W) : TabS W ∧ TabO W := by
  have h' : laidMet Tryz.prog [("sapper/head.senses", Rows.laid_sapper_head_senses), ("sapper/head.order", Rows.laid_sapper_head_order)] W := h
  have h2 : laidMet Tryz.prog [("sapper/head.order", Rows.laid_sapper_head_order)] W := laidMet.filter (fun x => x.1 == "sapper/head.order") h'
  exact ⟨tabS_of h', tabO_of h2⟩
end Go.Proofs.YtcifalelnfeggaaGreatDoor
