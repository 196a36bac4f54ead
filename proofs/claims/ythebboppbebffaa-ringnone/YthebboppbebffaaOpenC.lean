
import Derived.Test.YthebboppbebffaaRgCall
import Derived.Test.YthebboppbebffaaOpen
import Derived.Test.YthebboppbebffaaUpto
import Derived.WalkKit
import Derived.ProofKit
import Derived.OpenShut
import Derived.SizedLaws
import Derived.Deep.Slices
namespace Go.Proofs.Ythebboppbebffaa
open Go.ChangeShapes Go.WideShapes Go.ChangeAt Go.RowKit Go.Deep
set_option linter.unusedVariables false

theorem cells_call4 : Try.prog.cellsOf 36 = 4 := by kernel_rfl
theorem cells_intC : Try.prog.cellsOf 3 = 1 := by kernel_rfl
theorem cells_slC : Try.prog.cellsOf 34 = 1 := by kernel_rfl
theorem cells_u8C : Try.prog.cellsOf 5 = 1 := by kernel_rfl

/-- How the bytes of a call were read. -/
def ReadAs {H : Type} (d : DataW H) (p : List Int) : Prop := (d = .nil ∧ p.length = 0) ∨ ∃ elems spare, d = .slice elems spare ∧ elems.length = p.length
set_option maxRecDepth 100000 in
/-- One call, off its four cells. -/
theorem one_call {H : Type} {enc : TypeId × Value → H} {W : World} {n : Nat} {cs : List Value} {x : DataW H × List MemPlace} (h : DataW.trod enc Try.prog W 0 (fun _ => true) true n 36 cs = some x) (hl : cs.length = 4) :
    ∃ (o : CallD) (d0 d1 d2 d3 : DataW H), cs = [.int .i64 o.K, .slice o.ba o.p.length o.bc, .int .i64 o.D, .int .i64 o.N] ∧ x.1 = .agg [d0, d1, d2, d3] ∧ ReadAs d1 o.p ∧ Seg W o.ba o.p ∧ o.p.length ≤ o.bc ∧ (o.ba = none → o.bc = 0) ∧
      (-9223372036854775808 ≤ o.K ∧ o.K ≤ 9223372036854775807 ∧ -9223372036854775808 ≤ o.D ∧ o.D ≤ 9223372036854775807 ∧ -9223372036854775808 ≤ o.N ∧ o.N ≤ 9223372036854775807) := by
  obtain ⟨xs, k, _, hx, _, hxl, hf⟩ := DataW.trod_struct Try.underlying36 h
  match cs, hl with
  | [v0, v1, v2, v3], _ =>
    match xs, hxl with
    | [y0, y1, y2, y3], _ =>
      have g0 := hf 0 _ rfl
      have g1 := hf 1 _ rfl
      have g2 := hf 2 _ rfl
      have g3 := hf 3 _ rfl
      simp [cells_intC, cells_slC] at g0 g1 g2 g3
      obtain ⟨K, e0, _, w0⟩ := DataW.trod_int Try.underlying3 g0
      obtain ⟨D, e2, _, w2⟩ := DataW.trod_int Try.underlying3 g2
      obtain ⟨N, e3, _, w3⟩ := DataW.trod_int Try.underlying3 g3
      simp at e0 e2 e3
      subst e0 e2 e3
      obtain ⟨ba, bl, bc, rfl⟩ : ∃ ba bl bc, v1 = .slice ba bl bc := by
        rcases open_ints Try.underlying34 Try.underlying5 cells_u8C g1 with ⟨hcs, _⟩ | ⟨x, l, c, zs, hcs, _⟩
        · simp at hcs; exact ⟨_, _, _, hcs⟩
        · simp at hcs; exact ⟨_, _, _, hcs⟩
      have ht : DataW.Trod enc Try.prog W 0 (fun _ => true) true 34 (.slice ba bl bc) y1.1 y1.2 := ⟨k, by simpa [Value.cells] using g1⟩
      obtain ⟨p, hp, hseg, hcap, hnil, hd⟩ := open_seg (k := .u8) (M := 255) Try.underlying34 Try.underlying5 cells_u8C (by decide) (fun n hn => bounds_u8 hn) ht
      subst hp
      have b0 := bounds_i64 w0
      have b2 := bounds_i64 w2
      have b3 := bounds_i64 w3
      exact ⟨⟨K, ba, p, bc, D, N⟩, y0.1, y1.1, y2.1, y3.1, rfl, by rw [hx]; rfl, hd, hseg, hcap, hnil, b0.1, b0.2, b2.1, b2.2, b3.1, b3.2⟩

theorem open_calls {H : Type} {enc : TypeId × Value → H} {W : World} {a : Option Addr} {len cap : Nat} {d : DataW H} {pl : List MemPlace}
    (h : DataW.Trod enc Try.prog W 0 (fun _ => true) true 25 (.slice a len cap) d pl) :
    ∃ (O : Nat → CallD) (D0 D1 D2 D3 : Nat → DataW H), SegC W a len O ∧ (∀ i, i < len → ReadAs (D1 i) (O i).p) ∧
      ((d = .nil ∧ len = 0) ∨ ∃ spare, d = .slice ((List.range len).map fun i => .agg [D0 i, D1 i, D2 i, D3 i]) spare) := by
  haveI : Inhabited CallD := ⟨⟨0, none, [], 0, 0, 0⟩⟩
  obtain ⟨fuel, hf⟩ := h
  rcases open_slice Try.underlying25 hf with ⟨hcs, hx⟩ | ⟨x, l, c, m, n, D, Pl, hcs, _, hl, hm, hmm, hx, hat⟩
  · simp [Value.cells] at hcs
    obtain ⟨rfl, rfl, rfl⟩ := hcs
    simp only [Prod.mk.injEq] at hx
    exact ⟨fun _ => default, fun _ => .nil, fun _ => .nil, fun _ => .nil, fun _ => .nil, ⟨fun i hi => by omega, fun i hi => by omega, fun i hi => by omega, fun i hi => by omega, fun i hi => by omega⟩, fun i hi => by omega, Or.inl ⟨hx.1, rfl⟩⟩
  · simp [Value.cells] at hcs
    obtain ⟨rfl, rfl, rfl⟩ := hcs
    simp only [Prod.mk.injEq] at hx
    simp only [if_true] at hmm
    subst hmm
    rw [cells_call4] at hat
    have key : ∀ i, i < m → ∃ q : CallD × DataW H × DataW H × DataW H × DataW H, W.cell? (x.add (i * 4)) = some (.int .i64 q.1.K) ∧ W.cell? (x.add (i * 4 + 1)) = some (.slice q.1.ba q.1.p.length q.1.bc) ∧ W.cell? (x.add (i * 4 + 2)) = some (.int .i64 q.1.D) ∧ W.cell? (x.add (i * 4 + 3)) = some (.int .i64 q.1.N) ∧
        D i = .agg [q.2.1, q.2.2.1, q.2.2.2.1, q.2.2.2.2] ∧ ReadAs q.2.2.1 q.1.p ∧ Seg W q.1.ba q.1.p ∧ q.1.p.length ≤ q.1.bc ∧ (q.1.ba = none → q.1.bc = 0) ∧
        (-9223372036854775808 ≤ q.1.K ∧ q.1.K ≤ 9223372036854775807 ∧ -9223372036854775808 ≤ q.1.D ∧ q.1.D ≤ 9223372036854775807 ∧ -9223372036854775808 ≤ q.1.N ∧ q.1.N ≤ 9223372036854775807) := by
      intro i hi
      obtain ⟨cs', h1, h2⟩ := hat i hi
      obtain ⟨_, hlen, hcell⟩ := World.cells?_some h1
      obtain ⟨o, d0, d1, d2, d3, rfl, hD, hR1, hS, hcp, hnl, hbd⟩ := one_call h2 hlen
      have e0 := hcell 0 (by omega)
      have e1 := hcell 1 (by omega)
      have e2 := hcell 2 (by omega)
      have e3 := hcell 3 (by omega)
      rw [add_add] at e0 e1 e2 e3
      exact ⟨(o, d0, d1, d2, d3), by simpa using e0, by simpa using e1, by simpa using e2, by simpa using e3, hD, hR1, hS, hcp, hnl, hbd⟩
    haveI : Inhabited (DataW H) := ⟨.nil⟩
    obtain ⟨q, hq⟩ := choose_lt key
    refine ⟨fun i => (q i).1, fun i => (q i).2.1, fun i => (q i).2.2.1, fun i => (q i).2.2.2.1, fun i => (q i).2.2.2.2, ⟨fun i hi => ?_, fun i hi => ?_, fun i hi => ?_, fun i hi => ?_, fun i hi => ?_⟩, fun i hi => ?_, Or.inr ⟨(List.range (m - len)).map fun j => D (len + j), ?_⟩⟩
    · obtain ⟨h0, h1, h2, h3, _⟩ := hq i (by omega)
      obtain ⟨b, off, spot⟩ := x
      have hs : spot = none := by
        obtain ⟨h5, _⟩ := hq 0 (by omega)
        simpa [Addr.add] using World.cell?_spot h5
      subst hs
      have hadd : ∀ j, (⟨b, off, none⟩ : Addr).add j = ⟨b, off + j, none⟩ := by intro j; unfold Addr.add; split <;> simp_all
      rw [hadd] at h0 h1 h2 h3
      exact ⟨b, off, rfl, h0, by rw [Nat.add_assoc]; exact h1, by rw [Nat.add_assoc]; exact h2, by rw [Nat.add_assoc]; exact h3⟩
    · exact (hq i (by omega)).2.2.2.2.2.2.1
    · exact (hq i (by omega)).2.2.2.2.2.2.2.2.1
    · exact (hq i (by omega)).2.2.2.2.2.2.2.1
    · exact (hq i (by omega)).2.2.2.2.2.2.2.2.2
    · exact (hq i (by omega)).2.2.2.2.2.1
    · rw [hx.1]
      congr 1
      exact List.map_congr_left (fun i hi => (hq i (by have := List.mem_range.1 hi; omega)).2.2.2.2.1)

theorem bulk_append {H : Type} : ∀ l m : List (DataW H), Rows.uptoBulkAll (l ++ m) = Rows.uptoBulkAll l + Rows.uptoBulkAll m
  | [], m => by simp [Rows.uptoBulkAll]
  | d :: r, m => by
    have := bulk_append r m
    simp only [List.cons_append, Rows.uptoBulkAll, this]
    omega
theorem bulk_read {H : Type} {d : DataW H} {p : List Int} (h : ReadAs d p) : p.length + 1 ≤ Rows.uptoBulk d := by
  rcases h with ⟨rfl, h⟩ | ⟨elems, spare, rfl, h⟩
  · rw [h]; simp [Rows.uptoBulk]
  · have := UptoLemmas.slice_le elems spare
    omega
theorem totC_bulk {H : Type} (O : Nat → CallD) (f : Nat → DataW H) (n : Nat) (h : ∀ i, i < n → (O i).p.length ≤ Rows.uptoBulk (f i)) : totC O n ≤ Rows.uptoBulkAll ((List.range n).map f) := by
  induction n with
  | zero => simp [totC]
  | succ n ih =>
    have h1 := ih (fun i hi => h i (by omega))
    have h2 := h n (by omega)
    rw [List.range_succ, List.map_append, bulk_append]
    simp only [List.map_cons, List.map_nil, Rows.uptoBulkAll, totC]
    omega
/-- What the second form asks of a script. -/
theorem open_calls_upto {H : Type} {enc : TypeId × Value → H} {W : World} {a : Option Addr} {len cap : Nat} {d : DataW H} {pl : List MemPlace}
    (h : DataW.Trod enc Try.prog W 0 (fun _ => true) true 25 (.slice a len cap) d pl) :
    ∃ (O : Nat → CallD), SegC W a len O ∧ len ≤ Rows.uptoBulk d ∧ totC O len ≤ Rows.uptoBulk d := by
  obtain ⟨O, D0, D1, D2, D3, hs, hr, hd⟩ := open_calls h
  refine ⟨O, hs, ?_⟩
  rcases hd with ⟨rfl, rfl⟩ | ⟨spare, rfl⟩
  · simp [totC]
  · have h1 := totC_bulk O (fun i => DataW.agg [D0 i, D1 i, D2 i, D3 i]) len (fun i hi => by
      have h3 := bulk_read (hr i hi)
      simp only [Rows.uptoBulk, Rows.uptoBulkAll]
      omega)
    have h2 := UptoLemmas.slice_le ((List.range len).map fun i => DataW.agg [D0 i, D1 i, D2 i, D3 i]) spare
    rw [List.length_map, List.length_range] at h2
    refine ⟨by omega, ?_⟩
    simp only [Rows.uptoBulk]
    omega
theorem weightsAll_mem {H : Type} {P : Program} {e : TypeId} {d : DataW H} {n : Nat} (hn : n ∈ d.weights P e) : ∀ {l : List (DataW H)}, d ∈ l → n ∈ DataW.weightsAll P e l
  | d0 :: r, h => by
    simp only [DataW.weightsAll, List.mem_append]
    rcases List.mem_cons.1 h with rfl | h
    · exact .inl hn
    · exact .inr (weightsAll_mem hn h)
theorem bytes_call48 : Try.prog.bytesOf 36 = 48 := by kernel_rfl
theorem bytes_u8C : Try.prog.bytesOf 5 = 1 := by kernel_rfl
/-- What the first form gives of a script. -/
theorem open_calls_said {H : Type} {enc : TypeId × Value → H} {W : World} {a : Option Addr} {len cap : Nat} {d : DataW H} {pl : List MemPlace}
    (h : DataW.Trod enc Try.prog W 0 (fun _ => true) true 25 (.slice a len cap) d pl) (hw : (d.weights Try.prog 25).all (· ≤ reachBytes) = true) :
    ∃ (O : Nat → CallD), SegC W a len O ∧ len * 48 ≤ 140737488351232 ∧ ∀ i, i < len → (O i).p.length ≤ 140737488351232 := by
  obtain ⟨O, D0, D1, D2, D3, hs, hr, hd⟩ := open_calls h
  refine ⟨O, hs, ?_⟩
  rcases hd with ⟨rfl, rfl⟩ | ⟨spare, rfl⟩
  · exact ⟨by simp, fun i hi => by omega⟩
  · constructor
    · have hm := List.all_eq_true.1 hw _ (by simp only [DataW.weights, Try.underlying25, List.mem_cons]; exact .inl rfl)
      rw [bytes_call48] at hm
      simp [reachBytes] at hm
      omega
    · intro i hi
      rcases hr i hi with ⟨hd, h0⟩ | ⟨elems, sp, hd, h0⟩
      · omega
      · have hm1 : (elems.length + sp.length) * Try.prog.bytesOf 5 ∈ (DataW.agg [D0 i, D1 i, D2 i, D3 i]).weights Try.prog 36 := by
          rw [hd]
          simp [DataW.weights, DataW.weightsEach, Try.underlying36, Try.underlying34]
        have hm2 := weightsAll_mem hm1 (l := (List.range len).map fun i => DataW.agg [D0 i, D1 i, D2 i, D3 i]) (List.mem_map.2 ⟨i, List.mem_range.2 hi, rfl⟩)
        have hm3 := List.all_eq_true.1 hw _ (by simp only [DataW.weights, Try.underlying25, List.mem_cons, List.mem_append]; exact .inr (.inl hm2))
        rw [bytes_u8C] at hm3
        simp [reachBytes] at hm3
        omega
end Go.Proofs.Ythebboppbebffaa
