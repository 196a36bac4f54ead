
import Derived.Test.YtkpfailmmcelcaaSa16
namespace Go.Proofs.Ytkpfailmmcelcaa
open Go.RowKit
set_option linter.unusedVariables false

/-! The law's helpers: Same, lend, num, awake. -/
theorem take_all12 {xs ys : List Int} (h : xs.length = ys.length) {k : Nat} (hk : k = xs.length ∨ k = ys.length) (he : xs.take k = ys.take k) : xs = ys := by
  have : k = xs.length := by omega
  rw [List.take_of_length_le (by omega), List.take_of_length_le (by omega)] at he
  exact he

def lent12 (zs : List Int) : List Int := zs ++ [71, 72, 73, 74]
theorem lent12_bd {zs : List Int} (h : ∀ z ∈ zs, -9223372036854775808 ≤ z ∧ z ≤ 9223372036854775807) : ∀ z ∈ lent12 zs, -9223372036854775808 ≤ z ∧ z ≤ 9223372036854775807 := by
  intro z hz
  unfold lent12 at hz
  rw [List.mem_append] at hz
  rcases hz with hz | hz
  · exact h z hz
  · simp at hz; omega
theorem seg_four12 (w : World) : SegZ (w.alloc (.cells #[.int .i64 71, .int .i64 72, .int .i64 73, .int .i64 74] 3)) (some ⟨w.heap.size, 0, none⟩) [71, 72, 73, 74] := by
  refine ⟨fun i hi => ⟨w.heap.size, 0, rfl, ?_⟩, getD_bdz (by intro z hz; simp at hz; omega)⟩
  simp only [List.length_cons, List.length_nil] at hi
  match i, hi with
  | 0, _ => simp
  | 1, _ => simp
  | 2, _ => simp
  | 3, _ => simp

def lsb12 (n : Nat) (S : Nat → Int) : Nat → Nat → Nat → Bool
  | 0, _, _ => false
  | f + 1, i, j => decide (j < n) && (!decide (i < n) || (decide (S i < S j) || (decide (S i = S j) && lsb12 n S f (i + 1) (j + 1))))
theorem lsb12_ok {n : Nat} {S : Nat → Int} : ∀ {f i j : Nat}, lsb12 n S f i j = true → Ls12 n S i j
  | 0, _, _, h => by cases h
  | f + 1, i, j, h => by
    unfold lsb12 at h
    simp only [Bool.and_eq_true, decide_eq_true_eq, Bool.or_eq_true, Bool.not_eq_true', decide_eq_false_iff_not] at h
    obtain ⟨hj, h⟩ := h
    rcases h with h | h | ⟨h1, h2⟩
    · exact .fin h hj
    · by_cases hi : i < n
      · exact .lt hi hj h
      · exact .fin hi hj
    · by_cases hi : i < n
      · exact .eq hi hj h1 (lsb12_ok h2)
      · exact .fin hi hj
def prs12 (n : Nat) (S : Nat → Int) : List Nat → Bool
  | [] => true
  | x :: r => r.all (fun y => lsb12 n S (n + 1) x y) && prs12 n S r
theorem prs12_ok {n : Nat} {S : Nat → Int} : ∀ {A : List Nat}, prs12 n S A = true → A.Pairwise (Ls12 n S)
  | [], _ => List.Pairwise.nil
  | x :: r, h => by
    unfold prs12 at h
    rw [Bool.and_eq_true, List.all_eq_true] at h
    exact List.pairwise_cons.2 ⟨fun y hy => lsb12_ok (h.1 y hy), prs12_ok h.2⟩
def chk12 (n : Nat) (s : List Int) (A : List Nat) : Bool := decide (A.length = n) && A.all (fun j => decide (j < n)) && (List.range n).all (fun j => A.contains j) && prs12 n (S12 s) A
theorem chk12_ok {n : Nat} {s : List Int} {A : List Nat} (h : chk12 n s A = true) : Ar12 n (S12 s) A := by
  unfold chk12 at h
  rw [Bool.and_eq_true, Bool.and_eq_true, Bool.and_eq_true, decide_eq_true_eq, List.all_eq_true, List.all_eq_true] at h
  exact ⟨h.1.1.1, fun j hj => by simpa using h.1.1.2 j hj, fun j hj => by simpa using h.1.2 j (List.mem_range.2 hj), prs12_ok h.2⟩
theorem lit12 (w : World) (A : List Int) : Rz12 (w.alloc (.cells (vi12 A) 3)) w.heap.size A := Rz12.new w A
theorem lit12_bd {A : List Int} (h : A.all (fun z => decide (-100 ≤ z) && decide (z ≤ 100)) = true) : ∀ z ∈ A, -9223372036854775808 ≤ z ∧ z ≤ 9223372036854775807 := by
  intro z hz
  rw [List.all_eq_true] at h
  have := h z hz
  simp only [Bool.and_eq_true, decide_eq_true_eq] at this
  omega
/-- Array of a list that was written out. -/
theorem parl12 (k : Int) (s : List Int) (A : List Nat) (n : Nat) (w : World) (hk : 0 ≤ k ∧ k ≤ 100) (hb : s.all (fun z => decide (-100 ≤ z) && decide (z ≤ 100)) = true) (hn : s.length = n) (hr : ref12 k s = 0) (hA : chk12 n s A = true) :
    Calls Try.prog 32 #[.int .i64 k, .slice (some ⟨w.heap.size, 0, none⟩) n n] (w.alloc (.cells (vi12 s) 3)) fun e w' => ∃ g, e = .returned (.tuple #[.slice (some ⟨g, 0, none⟩) n n, .int .i64 0]) ∧ Rz12 w' g (nz12 A) ∧ w.heap.size ≤ g ∧ Below w.heap.size w w' := by
  have hb1 : Below w.heap.size w (w.alloc (.cells (vi12 s) 3)) := (Below.refl _ _).alloc (Nat.le_refl _) _
  refine (parr12 k _ s n n _ ((lit12 w s).seg (lit12_bd hb)) hn (by omega) hr).mono ?_
  rintro e w' ⟨g, A', rfl, RA, hg, hA', B⟩
  rw [hA'.unique (chk12_ok hA)] at RA
  exact ⟨g, rfl, RA, Nat.le_trans hb1.size hg, hb1.trans (B.mono hb1.size)⟩
end Go.Proofs.Ytkpfailmmcelcaa
