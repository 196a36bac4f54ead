
import Derived.Test.YtbgnlbgoeogbaaaSaR2
import Derived.Test.YtbgnlbgoeogbaaaSaL2
import Derived.Laws.CopyOwn
namespace Go.Proofs.Ytbgnlbgoeogbaaa
open Go.RowKit
set_option linter.unusedVariables false

/-! The landed Buckets, where it may be. -/
theorem size_b12 : (Try.prog.info? 3).map (·.size) = some 1 := by kernel_rfl
def fr12 (K : Nat) (s : List Int) : List Int := (List.range K).map (fun u : Nat => ((cnt12 s (u : Int) : Nat) : Int))
def to12 (K : Nat) (s : List Int) : List Int := (List.range K).map (fun u : Nat => ((cnt12 s ((u : Int) + 1) : Nat) : Int))
theorem fr12_len (K : Nat) (s : List Int) : (fr12 K s).length = K := by simp [fr12]
theorem to12_len (K : Nat) (s : List Int) : (to12 K s).length = K := by simp [to12]
theorem fr12_get {K : Nat} {s : List Int} {u : Nat} (h : u < K) : (fr12 K s).getD u 0 = ((cnt12 s (u : Int) : Nat) : Int) := by simp [fr12, List.getD, h]
theorem to12_get {K : Nat} {s : List Int} {u : Nat} (h : u < K) : (to12 K s).getD u 0 = ((cnt12 s ((u : Int) + 1) : Nat) : Int) := by simp [to12, List.getD, h]
theorem bnd12_take (K : Nat) (s : List Int) : (bnd12 K s).take K = fr12 K s := by
  refine ext12 (d := 0) (by simp [bnd12, fr12]) fun i hi => ?_
  have hk : i < K := by simp [bnd12] at hi; omega
  rw [fr12_get hk]
  simp [bnd12, List.getD, hk]
theorem bnd12_drop (K : Nat) (s : List Int) : (bnd12 K s).drop 1 = to12 K s := by
  refine List.ext_getElem (by simp [bnd12, to12]) fun i h1 h2 => ?_
  simp only [bnd12, to12, List.getElem_drop, List.getElem_map, List.getElem_range]
  rw [show ((1 + i : Nat) : Int) = (i : Int) + 1 by omega]
theorem fr12_bd {K : Nat} {s : List Int} (h : s.length ≤ 16777216) : ∀ z ∈ fr12 K s, -9223372036854775808 ≤ z ∧ z ≤ 9223372036854775807 := by
  intro z hz
  unfold fr12 at hz
  rw [List.mem_map] at hz
  obtain ⟨u, _, rfl⟩ := hz
  have := cnt12_le s (u : Int)
  omega
theorem to12_bd {K : Nat} {s : List Int} (h : s.length ≤ 16777216) : ∀ z ∈ to12 K s, -9223372036854775808 ≤ z ∧ z ≤ 9223372036854775807 := by
  intro z hz
  unfold to12 at hz
  rw [List.mem_map] at hz
  obtain ⟨u, _, rfl⟩ := hz
  have := cnt12_le s ((u : Int) + 1)
  omega
theorem bnd13_bd {K : Nat} {s : List Int} (h : s.length ≤ 16777216) : ∀ z ∈ bnd12 K s, -9223372036854775808 ≤ z ∧ z ≤ 9223372036854775807 := by
  intro z hz
  unfold bnd12 at hz
  rw [List.mem_map] at hz
  obtain ⟨u, _, rfl⟩ := hz
  have := cnt12_le s (u : Int)
  omega
/-- A made row, of which the first numbers are handed out. -/
theorem Rz12.own_take {w : World} {g base : Nat} {A : List Int} {n : Nat} (h : Rz12 w g A) (hb : base ≤ g) (hn : n ≤ A.length) (hl : A.length ≤ 140737488355328) : w.ownsRow base 3 1 (.slice (some ⟨g, 0, none⟩) n A.length) n ((A.take n).map (Value.int .i64)) :=
  ⟨by simp; omega, .inr ⟨g, A.length, _, rfl, hb, h.hp, hn, by unfold maxLen; omega, by simp [vi12], by simp [vi12, List.map_take]⟩⟩
def BkQ12 (w : World) (K : Nat) (s : List Int) (e : Ending) (w' : World) : Prop := ∃ gf gt, e = .returned (.tuple #[.slice (some ⟨gf, 0, none⟩) K (K + 1), .slice (some ⟨gt, 0, none⟩) K K, .int .i64 0]) ∧ Rz12 w' gf (bnd12 K s) ∧ Rz12 w' gt (to12 K s) ∧ w.heap.size ≤ gf ∧ gf < gt ∧ Below w.heap.size w w'
set_option maxRecDepth 100000 in
set_option maxHeartbeats 2000000 in
theorem pbks12 (K : Nat) (a : Option Addr) (s : List Int) (n cap : Nat) (w : World) (hs : SegZ w a s) (hn : Hid (s.length = n)) (hr : Hid (ref12 (K : Int) s = 0)) :
    Calls Try.prog 11 #[.int .i64 (K : Int), .slice a n cap] w (BkQ12 w K s) := by
  have hW := ref12_ok hn.out hr.out
  have hK : K ≤ 33554432 := by
    have := hr.out
    unfold ref12 at this
    split at this
    · omega
    · omega
  have hn24 : n ≤ 16777216 := hW.n24
  have HR := pref12 (K : Int) a s n cap w hs hn (by omega) (by omega)
  rw [hr.out] at HR
  have HB : Hid (∀ w1, Below w.heap.size w w1 → Calls Try.prog 34 #[.int .i64 (K : Int), .slice a n cap] w1 fun e w' => e = .returned (.slice (some ⟨w1.heap.size, 0, none⟩) (K + 1) (K + 1)) ∧ Rz12 w' w1.heap.size (bnd12 K s) ∧ Below w1.heap.size w1 w') := fun w1 b1 => pbnd12 K a s n cap w1 (hs.old b1) hn hn24 hK (fun i hi => by have := hW.val i hi; simpa using this)
  have HM := fun w' => run_make_i12 K (by omega) w'
  have hsl : s.length ≤ 16777216 := by rw [hn.out]; exact hn24
  have HDR : Hid ((bnd12 K s).drop 1 = to12 K s) := bnd12_drop K s
  have HTL : Hid ((to12 K s).length = K) := to12_len K s
  have HBL : Hid ((bnd12 K s).length = K + 1) := bnd12_len K s
  have HBD : Hid (∀ z ∈ bnd12 K s, -9223372036854775808 ≤ z ∧ z ≤ 9223372036854775807) := bnd13_bd hsl
  clear hs hW hr hsl
  have HCO : Hid (∀ (w2 : World) gf, Rz12 w2 gf (bnd12 K s) → (w2.alloc (.cells (vi12 (List.replicate K 0)) 3)).heap[w2.heap.size]? = some (.cells (List.replicate K (Value.int .i64 0)).toArray 3 (0, 0)) ∧ (∀ j v, ((to12 K s).map (Value.int .i64))[j]? = some v → (w2.alloc (.cells (vi12 (List.replicate K 0)) 3)).cell? ((⟨gf, 1, none⟩ : Addr).add j) = some v)) := by
    intro w2 gf R
    refine ⟨?_, fun j v hv => ?_⟩
    · have := heap_alloc_new w2 (.cells (vi12 (List.replicate K 0)) 3)
      rw [this]
      simp [vi12]
    · have hb : Below w2.heap.size w2 (w2.alloc (.cells (vi12 (List.replicate K 0)) 3)) := (Below.refl _ _).alloc (Nat.le_refl _) _
      have hj : j < K := by
        rcases Nat.lt_or_ge j K with h | h
        · exact h
        · rw [List.getElem?_eq_none (by rw [List.length_map, HTL.out]; exact h)] at hv; cases hv
      have hadd : (⟨gf, 1, none⟩ : Addr).add j = ⟨gf, 1 + j, none⟩ := by unfold Addr.add; split <;> simp_all
      rw [hadd, (R.old hb).cell (by rw [HBL.out]; omega)]
      have hj2 : j < (to12 K s).length := by rw [HTL.out]; exact hj
      rw [← hv, List.getElem?_map, ← HDR.out]
      simp only [List.getElem?_drop]
      have hj3 : 1 + j < (bnd12 K s).length := by rw [HBL.out]; omega
      simp [List.getD, hj3]
  have HSPL : Hid (∀ (L : List Value), L.length = K → splice (List.replicate K (Value.int .i64 0)) 0 L = L) := by
    intro L hL
    unfold splice
    rw [List.take_zero, List.nil_append, List.drop_eq_nil_of_le (by simp; omega), List.append_nil]
  have HFIN : Hid (∀ (W : World) gt, W.heap[gt]? = some (.cells (splice (List.replicate K (Value.int .i64 0)) 0 ((to12 K s).map (Value.int .i64))).toArray 3 (0, 0)) → Rz12 W gt (to12 K s)) := by
    intro W gt h
    rw [HSPL.out _ (by rw [List.length_map, HTL.out])] at h
    exact ⟨h⟩
  by_cases hK0 : K = 0
  · subst hK0
    have HT0 : Hid (to12 0 s = []) := rfl
    have HM0 : ∀ w' : World, (Instr.makeSlice 22 (.int .i64 0) (.int .i64 0)).run Try.prog w' = .ok (.slice (some ⟨w'.heap.size, 0, none⟩) 0 0) (w'.alloc (.cells (vi12 (List.replicate 0 0)) 3)) := fun w' => run_make_i12 0 (by omega) w'
    go_enter Try.func11, Try.ntmps11
    go_wp2_with (first
      | (go_at_call 33; refine HR.mono ?_; rintro e1 w1 ⟨rfl, B1⟩; clear HR)
      | (go_at_call 34; refine (HB.out w1 B1).mono ?_; rintro e2 w2 ⟨rfl, R2, B2⟩; clear HB)
      | (refine wpList_copy_nothing rfl (.tmp 21) (.tmp 23) 22 22 rfl 3 Try.underlying22 size_b12 _ _ 0 0 0 0 rfl rfl (by simp) ?_))
    trace_state
    refine bodyPost_ret (results_tmp3 rfl _ _ _) rfl ?_
    have S1 := B1.size
    have S2 := B2.size
    have hlt := R2.lt
    have b3 : Below w2.heap.size w2 (w2.alloc (.cells (vi12 (List.replicate 0 0)) 3)) := (Below.refl _ _).alloc (Nat.le_refl _) _
    refine ⟨w1.heap.size, w2.heap.size, rfl, R2.old b3, ?_, by omega, by omega, (B1.trans (B2.mono S1)).trans (b3.mono (by omega))⟩
    rw [HT0.out]
    exact Rz12.new w2 []
  · have k1 : (1 : Int) ≤ (K : Int) + 1 := by omega
    have k2 : ¬ K + 1 = 1 := by omega
    have k3 : ¬ K = 0 := hK0
    have k4 : (K : Int) ≤ (K : Int) + 1 := by omega
    go_enter Try.func11, Try.ntmps11
    go_wp2_with (first
      | (go_at_call 33; refine HR.mono ?_; rintro e1 w1 ⟨rfl, B1⟩; clear HR)
      | (go_at_call 34; refine (HB.out w1 B1).mono ?_; rintro e2 w2 ⟨rfl, R2, B2⟩; clear HB; have hlt := R2.lt)
      | (refine wpList_copy_splice rfl (.tmp 21) (.tmp 23) 22 22 rfl 3 Try.underlying22 size_b12 (some ⟨w2.heap.size, 0, none⟩) (some ⟨w1.heap.size, 1, none⟩) K K K K rfl rfl w2.heap.size 0 (List.replicate K (Value.int .i64 0)) 3 (HCO.out w2 _ R2).1 ((to12 K s).map (Value.int .i64)) (by rw [List.length_map, HTL.out]; simp) (fun _ => ⟨rfl, _, rfl, (HCO.out w2 _ R2).2⟩) (by rw [List.length_map, HTL.out]; simp) (ints_oneCell _ _) w2.heap.size w2 ((Below.refl _ _).alloc (Nat.le_refl _) _) (Nat.le_refl _) ?_; intro w4 H4 B4))
    refine bodyPost_ret (results_tmp3 rfl _ _ _) rfl ?_
    have S1 := B1.size
    have S2 := B2.size
    exact ⟨w1.heap.size, w2.heap.size, rfl, R2.old B4, HFIN.out w4 _ H4.out, by omega, by omega, (B1.trans (B2.mono S1)).trans (B4.mono (by omega))⟩
end Go.Proofs.Ytbgnlbgoeogbaaa
