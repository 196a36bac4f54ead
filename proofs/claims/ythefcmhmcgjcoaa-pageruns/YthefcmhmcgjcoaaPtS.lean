
import Derived.Test.YthefcmhmcgjcoaaOpen
import Derived.Test.YthefcmhmcgjcoaaRows
import Derived.SizedLaws
import Derived.Test.YthefcmhmcgjcoaaPtA
import Derived.Deep.Matrix
namespace Go.Proofs.Ythefcmhmcgjcoaa
open Go.ChangeShapes Go.WideShapes Go.ChangeAt Go.RowKit Go.Deep
set_option linter.unusedVariables false

theorem weightsAll_mem {H : Type} {P : Program} {e : TypeId} {d : DataW H} {n : Nat} (hn : n ∈ d.weights P e) : ∀ {l : List (DataW H)}, d ∈ l → n ∈ DataW.weightsAll P e l
  | d0 :: r, h => by
    simp only [DataW.weightsAll, List.mem_append]
    rcases List.mem_cons.1 h with rfl | h
    · exact .inl hn
    · exact .inr (weightsAll_mem hn h)

/-- Parts that came in: what lies there, and how much is read. -/
theorem open_parts22 {H : Type} {enc : TypeId × Value → H} {P : Program} {W : World} {T e q : TypeId} {a : Option Addr} {len cap : Nat} {d : DataW H} {p : List MemPlace}
    (hT : P.underlying T = some (.slice e)) (he : P.underlying e = some (.slice q)) (hq : P.underlying q = some (.int .u8)) (ce : P.cellsOf e = 1) (cq : P.cellsOf q = 1) (be : P.bytesOf e = 24) (bq : P.bytesOf q = 1)
    (h : DataW.Trod enc P W 0 (fun _ => true) true T (.slice a len cap) d p) (hw : (d.weights P T).all (· ≤ reachBytes) = true) :
    ∃ ps : List Part, ps.length = len ∧ Parts W a ps ∧ (∀ i, (ps.getD i noPart).a = none → (ps.getD i noPart).cap = 0) ∧ len ≤ cap ∧ (a = none → cap = 0) ∧ (∀ i, (ps.getD i noPart).zs.length ≤ 140737488351232) ∧ ps.length * 24 ≤ 140737488351232 ∧ (∀ i, (ps.getD i noPart).zs.length ≤ (ps.getD i noPart).cap) := by
  obtain ⟨fuel, hf⟩ := h
  rcases open_int_rows hT he hq ce cq hf with ⟨hcs, hx⟩ | ⟨x, l, c, A, L, C, Z, hcs, _, hl, hm, hx, hr⟩
  · simp [Value.cells] at hcs
    obtain ⟨rfl, rfl, rfl⟩ := hcs
    simp only [Prod.mk.injEq] at hx
    obtain ⟨rfl, _⟩ := hx
    exact ⟨[], rfl, ⟨fun i h => by simp at h, fun i h => by simp at h, fun i h => by simp at h⟩, fun i _ => by simp [noPart], Nat.le_refl _, fun _ => rfl, fun i => by simp [noPart], by simp, fun i => by simp [noPart]⟩
  · simp [Value.cells] at hcs
    obtain ⟨rfl, rfl, rfl⟩ := hcs
    simp only [Prod.mk.injEq] at hx
    obtain ⟨rfl, _⟩ := hx
    obtain ⟨b, off, spot⟩ := x
    have hadd : ∀ (y : Addr) (v : Value) (i : Nat), W.cell? (y.add i) = some v → y.spot = none → y.add i = ⟨y.block, y.off + i, none⟩ := by
      intro y v i _ hs
      obtain ⟨b, off, spot⟩ := y
      simp only at hs
      subst hs
      unfold Addr.add
      split <;> simp_all
    have hsp : ∀ (y : Addr) (v : Value), W.cell? (y.add 0) = some v → y.spot = none := by
      intro y v hv
      have := World.cell?_spot hv
      simpa [Addr.add] using this
    have eg : ∀ i, i < len → ((List.range len).map fun r => (⟨A r, (Z r).take (L r), C r⟩ : Part)).getD i noPart = ⟨A i, (Z i).take (L i), C i⟩ := by
      intro i hi
      simp [List.getD, hi]
    have hpos : ∀ i, i < len → spot = none := by
      intro i hi
      exact hsp ⟨b, off, spot⟩ _ (hr 0 (by omega)).1
    refine ⟨(List.range len).map fun r => ⟨A r, (Z r).take (L r), C r⟩, by simp, ⟨fun i hi => ?_, fun i hi => ?_, fun i hi => ?_⟩, fun i => ?_, hl, (by intro h; cases h), fun i => ?_, ?_, fun i => ?_⟩
    · simp at hi
      obtain rfl := hpos i hi
      have h1 := (hr i (by omega)).1
      rw [hadd _ _ _ h1 rfl] at h1
      refine ⟨b, off, rfl, ?_⟩
      have h2 := hr i (by omega)
      rw [h1, eg i hi]
      have : ((Z i).take (L i)).length = L i := by simp; omega
      simp only [Part.val, this]
    · simp at hi
      rw [eg i hi]
      have h2 := hr i (by omega)
      have hlen : ((Z i).take (L i)).length = L i := by simp; omega
      have hbd : ∀ z ∈ (Z i).take (L i), 0 ≤ z ∧ z ≤ 255 := fun z hz => bounds_u8 (h2.2.2.2.2.1 z (List.mem_of_mem_take hz))
      refine ⟨fun j hj => ?_, by decide, getD_bd (by decide) hbd⟩
      rw [hlen] at hj
      cases hA : A i with
      | none => have := h2.2.2.2.2.2.1 hA; omega
      | some y =>
        have h3 := (h2.2.2.2.2.2.2 y hA).2
        have hs := hsp y _ (h3 0 (by omega))
        have h4 := h3 j (by omega)
        rw [hadd _ _ _ h4 hs] at h4
        obtain ⟨yb, yo, ys⟩ := y
        simp only at hs
        subst hs
        refine ⟨yb, yo, rfl, ?_⟩
        rw [h4]
        simp [List.getD, hj]
    · simp at hi
      rw [eg i hi]
      have h2 := hr i (by omega)
      have := h2.2.2.1
      unfold maxLen at this
      simp
      omega
    · by_cases hi : i < len
      · rw [eg i hi]
        exact (hr i (by omega)).2.2.2.2.2.1
      · have : ((List.range len).map fun r => (⟨A r, (Z r).take (L r), C r⟩ : Part)).getD i noPart = noPart := by simp [List.getD, hi]
        rw [this]
        simp [noPart]
    · by_cases hi : i < len
      · rw [eg i hi]
        have h2 := hr i (by omega)
        cases hA : A i with
        | none =>
          have := h2.2.2.2.2.2.1 hA
          simp
          omega
        | some y =>
          have hm1 : ((lits (H := H) .u8 ((Z i).take (L i))).length + (lits (H := H) .u8 ((Z i).drop (L i))).length) * P.bytesOf q ∈ (intRow (H := H) .u8 (A i) (L i) (Z i)).weights P e := by
            rw [hA]
            simp [intRow, DataW.weights, he]
          have hm2 := weightsAll_mem hm1 (l := (List.range len).map fun r => intRow (H := H) .u8 (A r) (L r) (Z r)) (List.mem_map.2 ⟨i, List.mem_range.2 hi, rfl⟩)
          have hm3 := List.all_eq_true.1 hw _ (by simp only [DataW.weights, hT, List.mem_cons, List.mem_append]; exact .inr (.inl hm2))
          rw [bq] at hm3
          simp [lits, reachBytes] at hm3
          simp
          omega
      · have : ((List.range len).map fun r => (⟨A r, (Z r).take (L r), C r⟩ : Part)).getD i noPart = noPart := by simp [List.getD, hi]
        rw [this]
        simp [noPart]
    · have hm3 := List.all_eq_true.1 hw _ (by simp only [DataW.weights, hT, List.mem_cons]; exact .inl rfl)
      rw [be] at hm3
      simp [reachBytes] at hm3
      simp
      omega
    · by_cases hi : i < len
      · rw [eg i hi]
        have h2 := hr i (by omega)
        show ((Z i).take (L i)).length ≤ C i
        rw [List.length_take]
        have := h2.2.1
        omega
      · have : ((List.range len).map fun r => (⟨A r, (Z r).take (L r), C r⟩ : Part)).getD i noPart = noPart := by simp [List.getD, hi]
        rw [this]
        simp [noPart]
end Go.Proofs.Ythefcmhmcgjcoaa
