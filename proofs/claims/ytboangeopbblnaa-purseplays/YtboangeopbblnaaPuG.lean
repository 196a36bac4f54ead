
import Derived.Test.YtboangeopbblnaaPuE
import Derived.Test.YtboangeopbblnaaSoP
import Derived.OwnWalk
namespace Go.Proofs.Ytboangeopbblnaa
open Go.RowKit Go.Maps Go.WideMaps Go.MuLone Go.Shelf
set_option linter.unusedVariables false
set_option linter.unusedSimpArgs false
set_option maxRecDepth 100000

/-! The ledger's names, by way of slices.Sort. -/
def st23 (l : List UInt8) : ByteArray := ⟨l.toArray⟩
theorem st_kb23 (s : ByteArray) : st23 (kb23 s) = s := by
  obtain ⟨⟨l⟩⟩ := s
  rfl
theorem kb_st23 (l : List UInt8) : kb23 (st23 l) = l := rfl
/-- Names, sorted. -/
def srt23 (L : List ByteArray) : List ByteArray := ((L.map kb23).mergeSort fun x y => decide (x ≤ y)).map st23
theorem srt23_len (L : List ByteArray) : (srt23 L).length = L.length := by simp [srt23, List.length_mergeSort]
theorem srt23_is {L : List Ho23} (hs : So23 L) {acc : List ByteArray} (hp : acc.Perm (L.map Ho23.nm)) : srt23 acc = L.map Ho23.nm := by
  have h1 : (acc.map kb23).mergeSort (fun x y => decide (x ≤ y)) = (L.map Ho23.nm).map kb23 := by
    refine List.Perm.eq_of_pairwise (le := fun a b : List UInt8 => decide (a ≤ b) = true) (fun a b _ _ h1 h2 => ?_) (List.pairwise_mergeSort (fun a b c h1 h2 => ?_) (fun a b => ?_) _) ?_ ((List.mergeSort_perm _ _).trans (hp.map _))
    · rw [decide_eq_true_eq] at h1 h2; exact List.le_antisymm h1 h2
    · rw [decide_eq_true_eq] at h1 h2 ⊢; exact List.le_trans h1 h2
    · simp only [Bool.or_eq_true, decide_eq_true_eq]; exact List.le_total a b
    · rw [List.pairwise_map, List.pairwise_map]
      exact hs.imp fun {a b} h => by rw [decide_eq_true_eq]; exact List.le_of_lt h
  unfold srt23
  rw [h1, List.map_map]
  have : (st23 ∘ kb23) = id := by funext s; exact st_kb23 s
  rw [this, List.map_id]
theorem put_cells23 {cur : Array Value} {n cap : Nat} {S : List (List UInt8)} (hS : S.length = n) (hc : cur.size = cap) (hn : n ≤ cap) :
    (Sort.putCells encStr 0 S.toArray cur).size = cap ∧ (Sort.putCells encStr 0 S.toArray cur).toList.take n = S.map encStr := by
  refine ⟨by simp [Sort.putCells, hc], ?_⟩
  refine List.ext_getElem (by simp [Sort.putCells, hS]; omega) fun i h1 h2 => ?_
  have h3 : i < S.length := by simpa using h2
  simp [Sort.putCells, h3]
set_option maxHeartbeats 1000000 in
theorem psort23 {w : World} {base n rc : Nat} {ra : Option Addr} {L : List ByteArray} (h : w.ownsRow base 9 1 (.slice ra n rc) n (L.map Value.string)) (hn : L.length = n) (hl : n ≤ 16777216) :
    Calls Try.prog 46 #[.slice ra n rc] w fun e w' => e = .returned (.tuple #[]) ∧ w'.ownsRow base 9 1 (.slice ra n rc) n ((srt23 L).map Value.string) ∧ Kp (fun k => (Value.slice ra n rc).ownBlock = some k) w w' := by
  by_cases h0 : n = 0
  · subst h0
    have : L = [] := List.eq_nil_of_length_eq_zero hn
    subst this
    refine (AnyM.slices_Sort_string_none Try.lsort ra rc w).mono ?_
    rintro e w' ⟨rfl, rfl⟩
    exact ⟨rfl, by simpa [srt23] using h, Kp.refl _ _⟩
  · rcases h.2 with ⟨_, h1⟩ | ⟨g, cp, cur, h1, h2, h3, h4, h5, h6, h7⟩
    · omega
    · simp only [Value.slice.injEq] at h1
      obtain ⟨rfl, -, rfl⟩ := h1
      have hlt : g < w.heap.size := (Array.getElem?_eq_some_iff.1 h3).1
      have hH : Sort.Holds encStr w g 0 (L.map kb23).toArray := fun j hj => by
        have hj2 : j < L.length := by simpa using hj
        have hc : cur.toList[j]? = some (.string L[j]) := by
          have e1 : (cur.toList.take (n * 1))[j]? = some (.string L[j]) := by rw [h7]; simp [hj2]
          rw [List.getElem?_take] at e1
          split at e1
          · exact e1
          · cases e1
        refine ⟨?_, by simp [World.frozen?, h3]⟩
        have e2 : (L.map kb23).toArray[j]! = kb23 L[j] := by simp [hj2]
        rw [e2]
        have e3 : encStr (kb23 L[j]) = .string L[j] := congrArg Value.string (st_kb23 L[j])
        rw [e3]
        simp only [World.cell?, Nat.zero_add, h3]
        simpa using hc
      have hlen : (L.map kb23).length = n := by simpa using hn
      have hC := AnyM.slices_Sort_string Try.lsort g 0 rc (L.map kb23) w hH hlt (by rw [hlen]; omega)
      rw [hlen] at hC
      refine hC.mono ?_
      rintro e w' ⟨rfl, k, os, rfl⟩
      have hput := put_cells23 (cur := cur) (n := n) (cap := rc) (S := (L.map kb23).mergeSort fun x y => decide (x ≤ y)) (by rw [List.length_mergeSort, hlen]) (by omega) h4
      refine ⟨rfl, ⟨by simp [srt23_len, hn], .inr ⟨g, rc, _, rfl, h2, ?_, h4, h5, by rw [hput.1]; omega, ?_⟩⟩, ?_⟩
      · have e1 : (Sort.grow (Sort.putRow encStr (Sort.ahead w k) g 0 ((L.map kb23).mergeSort fun x y => decide (x ≤ y)).toArray) os).heap[g]? = (w.heap.modify g (Sort.onCells (Sort.putCells encStr 0 ((L.map kb23).mergeSort fun x y => decide (x ≤ y)).toArray)))[g]? := by
          unfold Sort.grow Sort.putRow Sort.mapBlock Sort.ahead
          exact Array.getElem?_append_left (by simpa using hlt)
        rw [e1, Array.getElem?_modify, if_pos rfl, h3]
        rfl
      · rw [Nat.mul_one, hput.2]
        unfold srt23
        rw [List.map_map]
        rfl
      · refine ⟨rfl, rfl, rfl, ?_, fun i hi hne => ?_⟩
        · simp [Sort.grow, Sort.putRow, Sort.mapBlock, Sort.ahead]
        · have e1 : (Sort.grow (Sort.putRow encStr (Sort.ahead w k) g 0 ((L.map kb23).mergeSort fun x y => decide (x ≤ y)).toArray) os).heap[i]? = (w.heap.modify g (Sort.onCells (Sort.putCells encStr 0 ((L.map kb23).mergeSort fun x y => decide (x ≤ y)).toArray)))[i]? := by
            unfold Sort.grow Sort.putRow Sort.mapBlock Sort.ahead
            exact Array.getElem?_append_left (by simpa using hi)
          rw [e1, Array.getElem?_modify, if_neg (fun e => hne (by simp [Value.ownBlock, e]))]
theorem info_s23 : (Try.prog.info? 9).map (fun i => (i.zero, i.size, i.bytes)) = some (some (.string ByteArray.empty), 1, 16) := by kernel_rfl
/-- What Names leaves: a row of its own. -/
def NmQ23 (w : World) (l m : Nat) (S : Pu23) (e : Ending) (w' : World) : Prop := ∃ ra n rc, e = .returned (.slice ra n rc) ∧ n = S.L.length ∧ w'.ownsRow w.heap.size 9 1 (.slice ra n rc) n ((S.L.map Ho23.nm).map Value.string) ∧ Lg23 w' l m 0 S ∧ Kp (fun k => k = l) w w'
end Go.Proofs.Ytboangeopbblnaa
