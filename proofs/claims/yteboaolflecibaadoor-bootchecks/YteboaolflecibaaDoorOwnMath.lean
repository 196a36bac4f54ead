import Derived.WalkKit
import Derived.Test.YteboaolflecibaaDoorOwnSt
namespace Go.Proofs.YteboaolflecibaaDoor
open Go.RowKit
set_option linter.unusedVariables false
def markL (i : Nat) (m : Nat) : List Int := (List.range m).map fun (k : Nat) => ((i : Int) + 7 * (k : Int)) % 256
def tailL (i : Nat) (m : Nat) : List Int := (List.range m).map fun (k : Nat) => ((i : Int) + 131 + 3 * (k : Int)) % 256
theorem markL_len (i m : Nat) : (markL i m).length = m := by simp [markL]
theorem tailL_len (i m : Nat) : (tailL i m).length = m := by simp [tailL]
theorem markL_succ (i m : Nat) : markL i (m + 1) = markL i m ++ [((i : Int) + 7 * (m : Int)) % 256] := by simp [markL, List.range_succ]
theorem tailL_succ (i m : Nat) : tailL i (m + 1) = tailL i m ++ [((i : Int) + 131 + 3 * (m : Int)) % 256] := by simp [tailL, List.range_succ]
theorem markL_get (i m k : Nat) (h : k < m) : (markL i m).getD k 0 = ((i : Int) + 7 * (k : Int)) % 256 := by simp [markL, List.getD, h]
theorem tailL_get (i m k : Nat) (h : k < m) : (tailL i m).getD k 0 = ((i : Int) + 131 + 3 * (k : Int)) % 256 := by simp [tailL, List.getD, h]

def markF (k : Nat) (ys : Nat → List Int) : Nat → List Int := fun i => if i < k then markL i (ys i).length else ys i
def pmF (k j : Nat) (ys : Nat → List Int) : Nat → List Int := updO (markF k ys) k (markL k j ++ (ys k).drop j)
theorem markF_zero (ys : Nat → List Int) : markF 0 ys = ys := by funext i; simp [markF]
theorem markF_at (n i : Nat) (ys : Nat → List Int) (h : i < n) : markF n ys i = markL i (ys i).length := by simp [markF, h]
theorem markF_len (n i : Nat) (ys : Nat → List Int) : (markF n ys i).length = (ys i).length := by
  simp only [markF]; split
  · exact markL_len _ _
  · rfl
theorem pmF_zero (k : Nat) (ys : Nat → List Int) : pmF k 0 ys = markF k ys := by
  have : markL k 0 ++ (ys k).drop 0 = markF k ys k := by simp [markF, markL]
  unfold pmF; rw [this, upd_same]
theorem pmF_end (k : Nat) (ys : Nat → List Int) : pmF k (ys k).length ys = markF (k + 1) ys := by
  funext i
  by_cases e : i = k
  · subst e; rw [pmF, upd_at]; simp [markF]
  · rw [pmF, upd_ne _ _ _ _ e]; simp only [markF]
    by_cases h : i < k
    · rw [if_pos h, if_pos (by omega)]
    · rw [if_neg h, if_neg (by omega)]
theorem pmF_at (k j : Nat) (ys : Nat → List Int) : pmF k j ys k = markL k j ++ (ys k).drop j := upd_at _ _ _
theorem pmF_step (k j : Nat) (ys : Nat → List Int) (h : j < (ys k).length) : updO (pmF k j ys) k ((pmF k j ys k).set j (((k : Int) + 7 * (j : Int)) % 256)) = pmF k (j + 1) ys := by
  rw [pmF_at]
  unfold pmF
  rw [upd_upd]
  congr 1
  rw [List.set_append, if_neg (by rw [markL_len]; omega), markL_len, Nat.sub_self, List.drop_eq_getElem_cons h, List.set_cons_zero, markL_succ]
  simp

/-- A made list of slices, as slots. -/
theorem slots_made {sT : TypeId} {w : World} {base G n : Nat} {z : Value} (h : w.ownsRow base sT 1 (.slice (some ⟨G, 0, none⟩) n n) n (List.replicate n z)) (hn : 0 < n) : Slots sT w G n (fun _ => z) := by
  rcases h.2 with ⟨h0, _⟩ | ⟨g, cap, cur, h0, _, hh, _, _, hs, ht⟩
  · cases h0
  · cases h0
    refine ⟨cur, hh, by omega, fun i hi => ?_⟩
    have : cur.toList = List.replicate n z := by rw [← ht]; exact (List.take_of_length_le (by simp; omega)).symm
    have h2 : cur.toList[i]? = some z := by rw [this]; simp [hi]
    simpa using h2

theorem row_shape {eT : TypeId} {w : World} {base : Nat} {v : Value} {ys : List Int} (h : Row eT w base v ys) : ∃ a cap, v = .slice a ys.length cap ∧ ys.length ≤ cap ∧ (∀ k, k < ys.length → ∃ g, a = some ⟨g, 0, none⟩ ∧ w.cell? ⟨g, k, none⟩ = some (.int .u8 (ys.getD k 0)) ∧ w.frozen? ⟨g, k, none⟩ = false) := by
  rcases h.2 with ⟨rfl, h0⟩ | ⟨g, cap, cur, rfl, hb, hh, hc, _, _, ht⟩
  · exact ⟨none, 0, by rw [h0], by omega, fun k hk => by omega⟩
  · refine ⟨_, cap, rfl, hc, fun k hk => ⟨g, rfl, ?_, ?_⟩⟩
    · rw [h.cellAt k (by omega)]; simp [List.getD, hk]
    · exact h.frozenAt k
theorem row_at {eT : TypeId} {w : World} {base : Nat} {a : Option Addr} {m cp : Nat} {ys : List Int} (h : Row eT w base (.slice a m cp) ys) (k : Nat) (hk : k < ys.length) : ∃ g, a = some ⟨g, 0, none⟩ ∧ w.cell? ⟨g, k, none⟩ = some (.int .u8 (ys.getD k 0)) ∧ w.frozen? ⟨g, k, none⟩ = false := by
  obtain ⟨a', cap', hv, _, hat⟩ := row_shape h
  cases hv
  exact hat k hk
theorem pmF_len (k j : Nat) (ys : Nat → List Int) (h : j ≤ (ys k).length) : (pmF k j ys k).length = (ys k).length := by rw [pmF_at]; simp [markL_len]; omega
end Go.Proofs.YteboaolflecibaaDoor
