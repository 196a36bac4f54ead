
import Derived.Test.YthebboppbebffaaOpen
import Derived.Test.YthebboppbebffaaUpto
import Derived.Test.YthebboppbebffaaRgCall
import Derived.SizedLaws
import Derived.OpenShut
import Derived.Deep.Matrix
namespace Go.Proofs.Ythebboppbebffaa
open Go.ChangeShapes Go.WideShapes Go.ChangeAt Go.RowKit Go.Deep
set_option linter.unusedVariables false

/-- A part: where its bytes lie, the bytes, the capacity. -/
structure Part where
  a : Option Addr
  zs : List Int
  cap : Nat
def Part.val (p : Part) : Value := .slice p.a p.zs.length p.cap
def noPart : Part := ⟨none, [], 0⟩
/-- Parts lie where a slice's address leads, and the bytes of each where it leads. -/
structure Parts (w : World) (a : Option Addr) (ps : List Part) : Prop where
  at_ : ∀ i, i < ps.length → ∃ b off, a = some ⟨b, off, none⟩ ∧ w.cell? ⟨b, off + i, none⟩ = some (ps.getD i noPart).val
  seg : ∀ i, i < ps.length → Seg w (ps.getD i noPart).a (ps.getD i noPart).zs
  len : ∀ i, i < ps.length → (ps.getD i noPart).zs.length ≤ 9223372036854775807
def flat (ps : List Part) : List Int := (ps.map (·.zs)).flatten
theorem flat_snoc {ps : List Part} {k : Nat} (hk : k < ps.length) : flat (ps.take (k + 1)) = flat (ps.take k) ++ (ps.getD k noPart).zs := by
  unfold flat
  rw [List.take_add_one, List.map_append, List.flatten_append, List.getElem?_eq_getElem hk]
  simp only [Option.toList, List.map_cons, List.map_nil, List.flatten_cons, List.flatten_nil, List.append_nil]
  rw [List.getD, List.getElem?_eq_getElem hk]
  rfl

theorem Parts.old {w w' : World} {a : Option Addr} {ps : List Part} (h : Parts w a ps) (hb : Below w.heap.size w w') : Parts w' a ps :=
  ⟨fun i hi => by
    obtain ⟨b, off, ha, hc⟩ := h.at_ i hi
    exact ⟨b, off, ha, (hb.cell (p := ⟨b, off + i, none⟩) (World.block_lt_of_cell? w _ hc)).trans hc⟩, fun i hi => (h.seg i hi).old hb, h.len⟩
theorem flat_take_le (ps : List Part) (k : Nat) : (flat (ps.take k)).length ≤ (flat ps).length := by
  have : flat ps = flat (ps.take k) ++ flat (ps.drop k) := by
    unfold flat
    rw [← List.flatten_append, ← List.map_append, List.take_append_drop]
  rw [this, List.length_append]
  omega
theorem flat_bd {w : World} {a : Option Addr} {ps : List Part} (h : Parts w a ps) (k : Nat) : ∀ z ∈ flat (ps.take k), 0 ≤ z ∧ z ≤ 255 := by
  intro z hz
  unfold flat at hz
  rw [List.mem_flatten] at hz
  obtain ⟨l, hl, hz⟩ := hz
  rw [List.mem_map] at hl
  obtain ⟨p, hp, rfl⟩ := hl
  have hp' := List.mem_of_mem_take hp
  obtain ⟨i, hi, rfl⟩ := List.mem_iff_getElem.1 hp'
  have := h.seg i hi
  rw [show ps.getD i noPart = ps[i] by simp [List.getD, hi]] at this
  exact this.mem z hz
/-- No part without a place has a capacity; none is longer than its capacity. -/
def NilOk (ps : List Part) : Prop := ∀ i, ((ps.getD i noPart).a = none → (ps.getD i noPart).cap = 0) ∧ (ps.getD i noPart).zs.length ≤ (ps.getD i noPart).cap
theorem bulk_sum {H : Type} (f : Nat → DataW H) (g : Nat → Nat) : ∀ l : List Nat, (∀ r ∈ l, g r ≤ Rows.uptoBulk (f r)) → (l.map g).sum ≤ Rows.uptoBulkAll (l.map f)
  | [], _ => by simp
  | r :: l, h => by
    have h1 := h r (by simp)
    have h2 := bulk_sum f g l (fun x hx => h x (by simp [hx]))
    simp only [List.map_cons, List.sum_cons, Rows.uptoBulkAll]
    omega
theorem sum_add (g : Nat → Nat) : ∀ l : List Nat, (l.map fun r => g r + 1).sum = (l.map g).sum + l.length
  | [] => rfl
  | r :: l => by
    have := sum_add g l
    simp only [List.map_cons, List.sum_cons, List.length_cons, this]
    omega

/-- Parts that came in: what lies there, and how much is read. -/
theorem open_parts {H : Type} {enc : TypeId × Value → H} {P : Program} {W : World} {T e q : TypeId} {a : Option Addr} {len cap : Nat} {d : DataW H} {p : List MemPlace}
    (hT : P.underlying T = some (.slice e)) (he : P.underlying e = some (.slice q)) (hq : P.underlying q = some (.int .u8)) (ce : P.cellsOf e = 1) (cq : P.cellsOf q = 1)
    (h : DataW.Trod enc P W 0 (fun _ => true) true T (.slice a len cap) d p) :
    ∃ ps : List Part, ps.length = len ∧ Parts W a ps ∧ NilOk ps ∧ len ≤ cap ∧ (a = none → cap = 0) ∧ (flat ps).length + ps.length + 1 ≤ Rows.uptoBulk d := by
  obtain ⟨fuel, hf⟩ := h
  rcases open_int_rows hT he hq ce cq hf with ⟨hcs, hx⟩ | ⟨x, l, c, A, L, C, Z, hcs, _, hl, hm, hx, hr⟩
  · simp [Value.cells] at hcs
    obtain ⟨rfl, rfl, rfl⟩ := hcs
    simp only [Prod.mk.injEq] at hx
    obtain ⟨rfl, _⟩ := hx
    exact ⟨[], rfl, ⟨fun i h => by simp at h, fun i h => by simp at h, fun i h => by simp at h⟩, fun i => by simp [noPart], Nat.le_refl _, fun _ => rfl, by simp [flat, Rows.uptoBulk]⟩
  · simp [Value.cells] at hcs
    obtain ⟨rfl, rfl, rfl⟩ := hcs
    simp only [Prod.mk.injEq] at hx
    obtain ⟨rfl, _⟩ := hx
    obtain ⟨b, off, spot⟩ := x
    have hadd : ∀ (y : Addr) (v : Value) (i : Nat), W.cell? (y.add i) = some v → y.spot = none → y.add i = ⟨y.block, y.off + i, none⟩ := by
      intro y v i _ hs
      obtain ⟨b, off, spot⟩ := y
      simp only at hs
      subst hs
      unfold Addr.add
      split <;> simp_all
    have hsp : ∀ (y : Addr) (v : Value), W.cell? (y.add 0) = some v → y.spot = none := by
      intro y v hv
      have := World.cell?_spot hv
      simpa [Addr.add] using this
    have eg : ∀ i, i < len → ((List.range len).map fun r => (⟨A r, (Z r).take (L r), C r⟩ : Part)).getD i noPart = ⟨A i, (Z i).take (L i), C i⟩ := by
      intro i hi
      simp [List.getD, hi]
    have hpos : ∀ i, i < len → spot = none := by
      intro i hi
      exact hsp ⟨b, off, spot⟩ _ (hr 0 (by omega)).1
    refine ⟨(List.range len).map fun r => ⟨A r, (Z r).take (L r), C r⟩, by simp, ⟨fun i hi => ?_, fun i hi => ?_, fun i hi => ?_⟩, fun i => ?_, hl, (by intro h; cases h), ?_⟩
    · simp at hi
      obtain rfl := hpos i hi
      have h1 := (hr i (by omega)).1
      rw [hadd _ _ _ h1 rfl] at h1
      refine ⟨b, off, rfl, ?_⟩
      have h2 := hr i (by omega)
      rw [h1, eg i hi]
      have : ((Z i).take (L i)).length = L i := by simp; omega
      simp only [Part.val, this]
    · simp at hi
      rw [eg i hi]
      have h2 := hr i (by omega)
      have hlen : ((Z i).take (L i)).length = L i := by simp; omega
      have hbd : ∀ z ∈ (Z i).take (L i), 0 ≤ z ∧ z ≤ 255 := fun z hz => bounds_u8 (h2.2.2.2.2.1 z (List.mem_of_mem_take hz))
      refine ⟨fun j hj => ?_, by decide, getD_bd (by decide) hbd⟩
      rw [hlen] at hj
      cases hA : A i with
      | none => have := h2.2.2.2.2.2.1 hA; omega
      | some y =>
        have h3 := (h2.2.2.2.2.2.2 y hA).2
        have hs := hsp y _ (h3 0 (by omega))
        have h4 := h3 j (by omega)
        rw [hadd _ _ _ h4 hs] at h4
        obtain ⟨yb, yo, ys⟩ := y
        simp only at hs
        subst hs
        refine ⟨yb, yo, rfl, ?_⟩
        rw [h4]
        simp [List.getD, hj]
    · simp at hi
      rw [eg i hi]
      have h2 := hr i (by omega)
      have := h2.2.2.1
      unfold maxLen at this
      simp
      omega
    · by_cases hi : i < len
      · rw [eg i hi]
        have h2 := hr i (by omega)
        exact ⟨h2.2.2.2.2.2.1, by simp; omega⟩
      · have : ((List.range len).map fun r => (⟨A r, (Z r).take (L r), C r⟩ : Part)).getD i noPart = noPart := by simp [List.getD, hi]
        rw [this]
        simp [noPart]
    · have hb : ((List.range len).map fun r => L r + 1).sum ≤ Rows.uptoBulkAll ((List.range len).map fun r => intRow (H := H) .u8 (A r) (L r) (Z r)) := by
        refine bulk_sum _ _ _ (fun r hr' => ?_)
        have hr2 := hr r (by have := List.mem_range.1 hr'; omega)
        cases hA : A r with
        | none =>
          have := hr2.2.2.2.2.2.1 hA
          have h0 : L r = 0 := by omega
          rw [h0]
          exact UptoLemmas.bulk_pos _
        | some y =>
          have := UptoLemmas.slice_le (H := H) (lits .u8 ((Z r).take (L r))) (lits .u8 ((Z r).drop (L r)))
          have hlen : (lits (H := H) .u8 ((Z r).take (L r))).length = L r := by simp [lits]; omega
          show _ ≤ Rows.uptoBulk (.slice _ _)
          omega
      have e1 : (flat ((List.range len).map fun r => (⟨A r, (Z r).take (L r), C r⟩ : Part))).length = ((List.range len).map L).sum := by
        unfold flat
        rw [List.length_flatten, List.map_map, List.map_map]
        congr 1
        apply List.map_congr_left
        intro r hr'
        have hr2 := hr r (by have := List.mem_range.1 hr'; omega)
        simp
        omega
      rw [e1]
      rw [sum_add] at hb
      simp only [List.length_range] at hb
      simp only [Rows.uptoBulk, List.length_map, List.length_range]
      omega
end Go.Proofs.Ythebboppbebffaa
