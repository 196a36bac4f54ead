import Derived.Test.YtmjlpfmacblcpaaDoorPn
import Derived.Test.YtmjlpfmacblcpaaDoorPl
namespace Go.Proofs.YtmjlpfmacblcpaaDoor
open Go.RowKit Go.Shelf
set_option linter.unusedVariables false
set_option linter.unusedSimpArgs false
abbrev Ps24 := Rs24 × (Int → Int → Option Sh21)
def fp24 (pg : Nat) (x : Int) : Nat → Ps24 → Ps24
  | 0, s => s
  | n + 1, s => (st24 pg (fp24 pg x n s).1, up21 (fp24 pg x n s).2 x (n : Int) (stv24 pg (fp24 pg x n s).1))
def fa24 (pg ps : Nat) : Nat → Ps24 → Ps24
  | 0, s => s
  | n + 1, s => fp24 pg (n : Int) (pn21 ps (n : Int)).toNat (fa24 pg ps n s)
theorem fp24_len (pg : Nat) (x : Int) (n : Nat) (s : Ps24) : (fp24 pg x n s).1.1.length ≤ s.1.1.length := by
  induction n with
  | zero => exact Nat.le_refl _
  | succ n ih => exact Nat.le_trans (st24_len _ _) ih
theorem fa24_len (pg ps : Nat) (n : Nat) (s : Ps24) : (fa24 pg ps n s).1.1.length ≤ s.1.1.length := by
  induction n with
  | zero => exact Nat.le_refl _
  | succ n ih => exact Nat.le_trans (fp24_len _ _ _ _) ih
/-- What is said of the bytes ahead of the sum. -/
def lf24 (B : List Int) : Ps24 := fa24 (bs24 (B, false)).pg (bs24 (B, false)).ps 3 (bd24 (B, false), fun _ _ => none)
def lo24 (B : List Int) : Bool := !(lf24 B).1.2 && decide ((lf24 B).1.1 = [])
def ls24 (B : List Int) : Fs21 := { bs24 (B, false) with pa := (lf24 B).2 }
def hd24 (B : List Int) : List Int := B.take (B.length - 4)
def su24 (B : List Int) : Bool := decide (4 ≤ B.length) && decide (sm21 (hd24 B) = B.drop (B.length - 4))
def ld24 (B : List Int) : Bool := su24 B && lo24 (hd24 B)
def LdQ24 (w : World) (B : List Int) (e : Ending) (w' : World) : Prop := Below w.heap.size w w' ∧ ((ld24 B = false ∧ e = .returned (.tuple #[.pointer none, .int .i64 215])) ∨ (ld24 B = true ∧ ∃ b F, e = .returned (.tuple #[.pointer (some ⟨b, 0, none⟩), .int .i64 0]) ∧ Fl21 w' b F (ls24 (hd24 B)) ∧ ∀ k, F k → w.heap.size ≤ k))
/-- What holds of Load's loops. -/
structure Lj24 (w W : World) (p b m c : Nat) (S0 : Fs21) (s : Ps24) : Prop where
  rm : Rm24 w W p s.1.1 s.1.2
  fi : ∃ f V, Fi21 W b m c f none 0 none 0 V { S0 with pa := s.2 } ∧ (∀ k, V k → w.heap.size ≤ k) ∧ ¬ V p
  pb : p ≠ b
  pm : p ≠ m
  wb : w.heap.size ≤ b
  wm : w.heap.size ≤ m
section
variable {w : World}
set_option maxRecDepth 100000 in
set_option maxHeartbeats 16000000 in
theorem pload24 (a : Option Addr) (n k : Nat) (B : List Int) (hs : Seg w a B) (hn : Hid (B.length = n)) (hk : n ≤ k) (hz : a = none → k = 0) (hl : n ≤ 140737488351232) (ht : Tab w) :
    Calls Tryd.prog 8 #[.slice a n k] w fun e w' => LdQ24 w B e w' := by
  obtain ⟨d, hd⟩ : ∃ d : Int, d = (n : Int) - 4 := ⟨_, rfl⟩
  have hdw : IntKind.i64.wrap ((n : Int) - 4) = d := by rw [IntWalk.i64_in _ (by omega)]; exact hd.symm
  by_cases h4 : n < 4
  · have hneg : d < 0 := by omega
    have hQ : ld24 B = false := by
      have : su24 B = false := by unfold su24; rw [decide_eq_false (by have := hn.out; omega)]; rfl
      unfold ld24; rw [this]; rfl
    have HQ : Hid (ld24 B = false) := hQ
    clear hd hs hk hz ht hQ h4
    go_enter Tryd.func8, Tryd.ntmps8
    go_wp2_with fail
    refine plain_region16 (fun _ => True) 13 (by kernel_rfl) trivial (fun hHeld => ?_)
    refine wpAnyK_take (i := 0) (v := .int .i64 d) rfl (by kernel_rfl) (by kernel_rfl) (by kernel_rfl) (by kernel_rfl) (fun _ _ _ h => h) (Or.inl ⟨by rfl, fun w hSw => by go_simp⟩) hHeld ?_
    simp only [List.getElem_toArray, List.getElem_cons_zero, List.getElem_cons_succ, Act.put, List.setIfInBounds_toArray, List.set_cons_zero, List.set_cons_succ]
    refine wpAnyK_take (i := 1) (v := .bool true) rfl (by kernel_rfl) (by kernel_rfl) (by kernel_rfl) (by kernel_rfl) (fun _ _ _ h => h) (Or.inl ⟨by rfl, fun w hSw => by go_simp⟩) hHeld ?_
    simp only [List.getElem_toArray, List.getElem_cons_zero, List.getElem_cons_succ, Act.put, List.setIfInBounds_toArray, List.set_cons_zero, List.set_cons_succ]
    refine wpAnyK_take (i := 2) (v := .bool true) rfl (by kernel_rfl) (by kernel_rfl) (by kernel_rfl) (by kernel_rfl) (fun _ _ _ h => h) (Or.inl ⟨by rfl, fun w hSw => by go_simp⟩) hHeld ?_
    simp only [List.getElem_toArray, List.getElem_cons_zero, List.getElem_cons_succ, Act.put, List.setIfInBounds_toArray, List.set_cons_zero, List.set_cons_succ]
    refine wpAnyK_take (i := 3) (v := undef) rfl (by kernel_rfl) (by kernel_rfl) (by kernel_rfl) (by kernel_rfl) (fun _ _ _ h => h) (Or.inr ⟨by rfl, rfl⟩) hHeld ?_
    simp only [List.getElem_toArray, List.getElem_cons_zero, List.getElem_cons_succ, Act.put, List.setIfInBounds_toArray, List.set_cons_zero, List.set_cons_succ]
    refine wpAnyK_take (i := 4) (v := undef) rfl (by kernel_rfl) (by kernel_rfl) (by kernel_rfl) (by kernel_rfl) (fun _ _ _ h => h) (Or.inr ⟨by rfl, rfl⟩) hHeld ?_
    simp only [List.getElem_toArray, List.getElem_cons_zero, List.getElem_cons_succ, Act.put, List.setIfInBounds_toArray, List.set_cons_zero, List.set_cons_succ]
    refine wpAnyK_take (i := 5) (v := undef) rfl (by kernel_rfl) (by kernel_rfl) (by kernel_rfl) (by kernel_rfl) (fun _ _ _ h => h) (Or.inr ⟨by rfl, rfl⟩) hHeld ?_
    simp only [List.getElem_toArray, List.getElem_cons_zero, List.getElem_cons_succ, Act.put, List.setIfInBounds_toArray, List.set_cons_zero, List.set_cons_succ]
    refine wpAnyK_take (i := 6) (v := undef) rfl (by kernel_rfl) (by kernel_rfl) (by kernel_rfl) (by kernel_rfl) (fun _ _ _ h => h) (Or.inr ⟨by rfl, rfl⟩) hHeld ?_
    simp only [List.getElem_toArray, List.getElem_cons_zero, List.getElem_cons_succ, Act.put, List.setIfInBounds_toArray, List.set_cons_zero, List.set_cons_succ]
    refine wpAnyK_take (i := 7) (v := undef) rfl (by kernel_rfl) (by kernel_rfl) (by kernel_rfl) (by kernel_rfl) (fun _ _ _ h => h) (Or.inr ⟨by rfl, rfl⟩) hHeld ?_
    simp only [List.getElem_toArray, List.getElem_cons_zero, List.getElem_cons_succ, Act.put, List.setIfInBounds_toArray, List.set_cons_zero, List.set_cons_succ]
    refine wpAnyK_take (i := 8) (v := undef) rfl (by kernel_rfl) (by kernel_rfl) (by kernel_rfl) (by kernel_rfl) (fun _ _ _ h => h) (Or.inr ⟨by rfl, rfl⟩) hHeld ?_
    simp only [List.getElem_toArray, List.getElem_cons_zero, List.getElem_cons_succ, Act.put, List.setIfInBounds_toArray, List.set_cons_zero, List.set_cons_succ]
    refine wpAnyK_take (i := 9) (v := undef) rfl (by kernel_rfl) (by kernel_rfl) (by kernel_rfl) (by kernel_rfl) (fun _ _ _ h => h) (Or.inr ⟨by rfl, rfl⟩) hHeld ?_
    simp only [List.getElem_toArray, List.getElem_cons_zero, List.getElem_cons_succ, Act.put, List.setIfInBounds_toArray, List.set_cons_zero, List.set_cons_succ]
    refine wpAnyK_take (i := 10) (v := undef) rfl (by kernel_rfl) (by kernel_rfl) (by kernel_rfl) (by kernel_rfl) (fun _ _ _ h => h) (Or.inr ⟨by rfl, rfl⟩) hHeld ?_
    simp only [List.getElem_toArray, List.getElem_cons_zero, List.getElem_cons_succ, Act.put, List.setIfInBounds_toArray, List.set_cons_zero, List.set_cons_succ]
    refine wpAnyK_take (i := 11) (v := undef) rfl (by kernel_rfl) (by kernel_rfl) (by kernel_rfl) (by kernel_rfl) (fun _ _ _ h => h) (Or.inr ⟨by rfl, rfl⟩) hHeld ?_
    simp only [List.getElem_toArray, List.getElem_cons_zero, List.getElem_cons_succ, Act.put, List.setIfInBounds_toArray, List.set_cons_zero, List.set_cons_succ]
    refine wpAnyK_take (i := 12) (v := .bool true) rfl (by kernel_rfl) (by kernel_rfl) (by kernel_rfl) (by kernel_rfl) (fun _ _ _ h => h) (Or.inl ⟨by rfl, fun w hSw => by go_simp⟩) hHeld ?_
    simp only [List.getElem_toArray, List.getElem_cons_zero, List.getElem_cons_succ, Act.put, List.setIfInBounds_toArray, List.set_cons_zero, List.set_cons_succ]
    refine wpAnyK_done (by kernel_rfl) ?_ _
    go_wp2_with fail
    go_ret2
    exact ⟨by first | exact (Below.refl _ _).drew | exact Below.refl _ _, .inl ⟨HQ.out, rfl⟩⟩
  · have hneg : ¬ d < 0 := by omega
    obtain ⟨e, he⟩ : ∃ e, e = n - 4 := ⟨_, rfl⟩
    obtain rfl : d = (e : Int) := by omega
    have hne : n = e + 4 := by omega
    obtain ⟨B1, hB1⟩ : ∃ B1, B1 = hd24 B := ⟨_, rfl⟩
    obtain ⟨B2, hB2⟩ : ∃ B2, B2 = B.drop e := ⟨_, rfl⟩
    have hl1 : B1.length = e := by rw [hB1]; unfold hd24; rw [List.length_take, hn.out]; omega
    have hl2 : B2.length = 4 := by rw [hB2, List.length_drop, hn.out]; omega
    have hs1 : Seg w a B1 := by rw [hB1]; exact hs.take _
    have hs2 : Seg w (rs24 a k e) B2 := by rw [hB2]; exact seg_rs24 hs (by rw [hn.out]; omega) (by rw [hn.out]; omega)
    have hSU : su24 B = decide (sm21 B1 = B2) := by
      unfold su24
      rw [decide_eq_true (show 4 ≤ B.length by rw [hn.out]; omega), Bool.true_and, hB1, hB2, he, hn.out]
    have X1 := slice_hi22 a n k e hk (by omega) hz
    have X2 := slice_lo24 a n k e hk (by omega) hz
    rw [show n - e = 4 by omega] at X2
    obtain ⟨y0, hy0⟩ : ∃ y0, y0 = w.drew := ⟨_, rfl⟩
    have HY0 : Hid (w.drew = y0) := hy0.symm
    have by0 : Below w.heap.size w y0 := by rw [hy0]; exact (Below.refl _ _).drew
    have hyz : y0.heap.size = w.heap.size := by rw [hy0]; rfl
    have HS := psumof21 a B1 e k y0 (ht.old by0) (hs1.old by0) hl1 (by omega)
    have HC : Hid (Seg w a B1 ∧ Seg w (rs24 a k e) B2 ∧ B1.length = e ∧ B2.length = 4 ∧ Below w.heap.size w y0 ∧ y0.heap.size = w.heap.size ∧ e + 4 ≤ k ∧ e + 4 ≤ 140737488351232 ∧ (a = none → k = 0)) := ⟨hs1, hs2, hl1, hl2, by0, hyz, by omega, by omega, hz⟩
    have HLD : Hid (ld24 B = (decide (sm21 B1 = B2) && lo24 B1) ∧ hd24 B = B1) := ⟨by unfold ld24; rw [hSU, hB1], hB1.symm⟩
    clear he hd hs hk hz ht h4 hne hB1 hB2 hl1 hl2 hs1 hs2 hSU hy0 by0 hyz hl
    obtain ⟨T, hT⟩ : ∃ T, T = decide (sm21 B1 = B2) := ⟨_, rfl⟩
    have HT : Hid (T = decide (sm21 B1 = B2)) := hT
    clear hT
    cases T
    · go_enter Tryd.func8, Tryd.ntmps8
      go_wp2_with fail
      refine plain_region16 (fun _ => True) 13 (by kernel_rfl) trivial (fun hHeld => ?_)
      rw [HY0.out]
      refine wpAnyK_take (i := 0) (v := .int .i64 (e : Int)) rfl (by kernel_rfl) (by kernel_rfl) (by kernel_rfl) (by kernel_rfl) (fun _ _ _ h => h) (Or.inl ⟨by rfl, fun w hSw => by go_simp⟩) hHeld ?_
      simp only [List.getElem_toArray, List.getElem_cons_zero, List.getElem_cons_succ, Act.put, List.setIfInBounds_toArray, List.set_cons_zero, List.set_cons_succ]
      refine wpAnyK_take (i := 1) (v := .bool false) rfl (by kernel_rfl) (by kernel_rfl) (by kernel_rfl) (by kernel_rfl) (fun _ _ _ h => h) (Or.inl ⟨by rfl, fun w hSw => by go_simp⟩) hHeld ?_
      simp only [List.getElem_toArray, List.getElem_cons_zero, List.getElem_cons_succ, Act.put, List.setIfInBounds_toArray, List.set_cons_zero, List.set_cons_succ]
      refine wpAnyK_take (i := 2) (v := .bool false) rfl (by kernel_rfl) (by kernel_rfl) (by kernel_rfl) (by kernel_rfl) (fun _ _ _ h => h) (Or.inl ⟨by rfl, fun w hSw => by go_simp⟩) hHeld ?_
      simp only [List.getElem_toArray, List.getElem_cons_zero, List.getElem_cons_succ, Act.put, List.setIfInBounds_toArray, List.set_cons_zero, List.set_cons_succ]
      refine wpAnyK_take (i := 3) (v := .slice a n k) rfl (by kernel_rfl) (by kernel_rfl) (by kernel_rfl) (by kernel_rfl) (fun _ _ _ h => h) (Or.inl ⟨by rfl, fun w hSw => by go_simp⟩) hHeld ?_
      simp only [List.getElem_toArray, List.getElem_cons_zero, List.getElem_cons_succ, Act.put, List.setIfInBounds_toArray, List.set_cons_zero, List.set_cons_succ]
      refine wpAnyK_take (i := 4) (v := .int .i64 (e : Int)) rfl (by kernel_rfl) (by kernel_rfl) (by kernel_rfl) (by kernel_rfl) (fun _ _ _ h => h) (Or.inl ⟨by rfl, fun w hSw => by go_simp⟩) hHeld ?_
      simp only [List.getElem_toArray, List.getElem_cons_zero, List.getElem_cons_succ, Act.put, List.setIfInBounds_toArray, List.set_cons_zero, List.set_cons_succ]
      refine wpAnyK_take (i := 5) (v := .slice a e k) rfl (by kernel_rfl) (by kernel_rfl) (by kernel_rfl) (by kernel_rfl) (fun _ _ _ h => h) (Or.inl ⟨by rfl, fun w hSw => by go_simp⟩) hHeld ?_
      simp only [List.getElem_toArray, List.getElem_cons_zero, List.getElem_cons_succ, Act.put, List.setIfInBounds_toArray, List.set_cons_zero, List.set_cons_succ]
      refine wpAnyK_take (i := 7) (v := .slice a n k) rfl (by kernel_rfl) (by kernel_rfl) (by kernel_rfl) (by kernel_rfl) (fun _ _ _ h => h) (Or.inl ⟨by rfl, fun w hSw => by go_simp⟩) hHeld ?_
      simp only [List.getElem_toArray, List.getElem_cons_zero, List.getElem_cons_succ, Act.put, List.setIfInBounds_toArray, List.set_cons_zero, List.set_cons_succ]
      refine wpAnyK_take (i := 8) (v := .int .i64 (e : Int)) rfl (by kernel_rfl) (by kernel_rfl) (by kernel_rfl) (by kernel_rfl) (fun _ _ _ h => h) (Or.inl ⟨by rfl, fun w hSw => by go_simp⟩) hHeld ?_
      simp only [List.getElem_toArray, List.getElem_cons_zero, List.getElem_cons_succ, Act.put, List.setIfInBounds_toArray, List.set_cons_zero, List.set_cons_succ]
      refine wpAnyK_take (i := 9) (v := .slice (rs24 a k e) 4 (k - e)) rfl (by kernel_rfl) (by kernel_rfl) (by kernel_rfl) (by kernel_rfl) (fun _ _ _ h => h) (Or.inl ⟨by rfl, fun w hSw => by go_simp⟩) hHeld ?_
      simp only [List.getElem_toArray, List.getElem_cons_zero, List.getElem_cons_succ, Act.put, List.setIfInBounds_toArray, List.set_cons_zero, List.set_cons_succ]
      refine wpAnyK_one (i := 6) (by kernel_rfl) rfl (fun K hK => ?_)
      (try simp only [List.getElem_toArray, List.getElem_cons_zero, List.getElem_cons_succ, Act.put, List.setIfInBounds_toArray, List.set_cons_zero, List.set_cons_succ])
      go_simp
      refine HS.mono ?_
      rintro e' W1 ⟨g, rfl, -, sg, b1⟩
      refine hK.out _ _ (fun _ => trivial) (fun hHeld0 => ?_)
      have hHeld := hHeld0 (by decide)
      clear hHeld0 hK K
      (try simp only [List.getElem_toArray, List.getElem_cons_zero, List.getElem_cons_succ, Act.put, List.setIfInBounds_toArray, List.set_cons_zero, List.set_cons_succ])
      have HE := peqs24 (some ⟨g, 0, none⟩) (rs24 a k e) 4 (k - e) (sm21 B1) B2 4 W1 sg ((HC.out.2.1.old HC.out.2.2.2.2.1).old (b1.mono (Nat.le_of_eq HC.out.2.2.2.2.2.1.symm) |> fun h => by first | exact b1 | exact h)) (sm21_len B1) HC.out.2.2.2.1 (by decide)
      rw [← HT.out] at HE
      have HB1 : Hid (Below w.heap.size w W1) := HC.out.2.2.2.2.1.trans (by first | exact b1.mono (Nat.le_of_eq HC.out.2.2.2.2.2.1.symm) | exact b1.mono (Nat.le_of_eq HC.out.2.2.2.2.2.1) | (rw [← HC.out.2.2.2.2.2.1]; exact b1))
      clear sg b1 HS
      refine wpAnyK_one (i := 10) (by kernel_rfl) rfl (fun K hK => ?_)
      (try simp only [List.getElem_toArray, List.getElem_cons_zero, List.getElem_cons_succ, Act.put, List.setIfInBounds_toArray, List.set_cons_zero, List.set_cons_succ])
      go_simp
      refine HE.mono ?_
      rintro e' W2 ⟨rfl, b2⟩
      refine hK.out _ _ (fun _ => trivial) (fun hHeld0 => ?_)
      have hHeld := hHeld0 (by decide)
      clear hHeld0 hK K
      (try simp only [List.getElem_toArray, List.getElem_cons_zero, List.getElem_cons_succ, Act.put, List.setIfInBounds_toArray, List.set_cons_zero, List.set_cons_succ])
      have HB2 : Hid (Below w.heap.size w W2) := HB1.out.trans (b2.mono HB1.out.size)
      clear b2 HE
      refine wpAnyK_take (i := 11) (v := .bool true) rfl (by kernel_rfl) (by kernel_rfl) (by kernel_rfl) (by kernel_rfl) (fun _ _ _ h => h) (Or.inl ⟨by rfl, fun w hSw => by go_simp⟩) hHeld ?_
      simp only [List.getElem_toArray, List.getElem_cons_zero, List.getElem_cons_succ, Act.put, List.setIfInBounds_toArray, List.set_cons_zero, List.set_cons_succ]
      refine wpAnyK_take (i := 12) (v := .bool true) rfl (by kernel_rfl) (by kernel_rfl) (by kernel_rfl) (by kernel_rfl) (fun _ _ _ h => h) (Or.inl ⟨by rfl, fun w hSw => by go_simp⟩) hHeld ?_
      simp only [List.getElem_toArray, List.getElem_cons_zero, List.getElem_cons_succ, Act.put, List.setIfInBounds_toArray, List.set_cons_zero, List.set_cons_succ]
      refine wpAnyK_done (by kernel_rfl) ?_ _
      go_wp2_with fail
      go_ret2
      exact ⟨HB2.out, .inl ⟨by rw [HLD.out.1, ← HT.out]; rfl, rfl⟩⟩
    · go_enter Tryd.func8, Tryd.ntmps8
      go_wp2_with fail
      refine plain_region16 (fun _ => True) 13 (by kernel_rfl) trivial (fun hHeld => ?_)
      rw [HY0.out]
      refine wpAnyK_take (i := 0) (v := .int .i64 (e : Int)) rfl (by kernel_rfl) (by kernel_rfl) (by kernel_rfl) (by kernel_rfl) (fun _ _ _ h => h) (Or.inl ⟨by rfl, fun w hSw => by go_simp⟩) hHeld ?_
      simp only [List.getElem_toArray, List.getElem_cons_zero, List.getElem_cons_succ, Act.put, List.setIfInBounds_toArray, List.set_cons_zero, List.set_cons_succ]
      refine wpAnyK_take (i := 1) (v := .bool false) rfl (by kernel_rfl) (by kernel_rfl) (by kernel_rfl) (by kernel_rfl) (fun _ _ _ h => h) (Or.inl ⟨by rfl, fun w hSw => by go_simp⟩) hHeld ?_
      simp only [List.getElem_toArray, List.getElem_cons_zero, List.getElem_cons_succ, Act.put, List.setIfInBounds_toArray, List.set_cons_zero, List.set_cons_succ]
      refine wpAnyK_take (i := 2) (v := .bool false) rfl (by kernel_rfl) (by kernel_rfl) (by kernel_rfl) (by kernel_rfl) (fun _ _ _ h => h) (Or.inl ⟨by rfl, fun w hSw => by go_simp⟩) hHeld ?_
      simp only [List.getElem_toArray, List.getElem_cons_zero, List.getElem_cons_succ, Act.put, List.setIfInBounds_toArray, List.set_cons_zero, List.set_cons_succ]
      refine wpAnyK_take (i := 3) (v := .slice a n k) rfl (by kernel_rfl) (by kernel_rfl) (by kernel_rfl) (by kernel_rfl) (fun _ _ _ h => h) (Or.inl ⟨by rfl, fun w hSw => by go_simp⟩) hHeld ?_
      simp only [List.getElem_toArray, List.getElem_cons_zero, List.getElem_cons_succ, Act.put, List.setIfInBounds_toArray, List.set_cons_zero, List.set_cons_succ]
      refine wpAnyK_take (i := 4) (v := .int .i64 (e : Int)) rfl (by kernel_rfl) (by kernel_rfl) (by kernel_rfl) (by kernel_rfl) (fun _ _ _ h => h) (Or.inl ⟨by rfl, fun w hSw => by go_simp⟩) hHeld ?_
      simp only [List.getElem_toArray, List.getElem_cons_zero, List.getElem_cons_succ, Act.put, List.setIfInBounds_toArray, List.set_cons_zero, List.set_cons_succ]
      refine wpAnyK_take (i := 5) (v := .slice a e k) rfl (by kernel_rfl) (by kernel_rfl) (by kernel_rfl) (by kernel_rfl) (fun _ _ _ h => h) (Or.inl ⟨by rfl, fun w hSw => by go_simp⟩) hHeld ?_
      simp only [List.getElem_toArray, List.getElem_cons_zero, List.getElem_cons_succ, Act.put, List.setIfInBounds_toArray, List.set_cons_zero, List.set_cons_succ]
      refine wpAnyK_take (i := 7) (v := .slice a n k) rfl (by kernel_rfl) (by kernel_rfl) (by kernel_rfl) (by kernel_rfl) (fun _ _ _ h => h) (Or.inl ⟨by rfl, fun w hSw => by go_simp⟩) hHeld ?_
      simp only [List.getElem_toArray, List.getElem_cons_zero, List.getElem_cons_succ, Act.put, List.setIfInBounds_toArray, List.set_cons_zero, List.set_cons_succ]
      refine wpAnyK_take (i := 8) (v := .int .i64 (e : Int)) rfl (by kernel_rfl) (by kernel_rfl) (by kernel_rfl) (by kernel_rfl) (fun _ _ _ h => h) (Or.inl ⟨by rfl, fun w hSw => by go_simp⟩) hHeld ?_
      simp only [List.getElem_toArray, List.getElem_cons_zero, List.getElem_cons_succ, Act.put, List.setIfInBounds_toArray, List.set_cons_zero, List.set_cons_succ]
      refine wpAnyK_take (i := 9) (v := .slice (rs24 a k e) 4 (k - e)) rfl (by kernel_rfl) (by kernel_rfl) (by kernel_rfl) (by kernel_rfl) (fun _ _ _ h => h) (Or.inl ⟨by rfl, fun w hSw => by go_simp⟩) hHeld ?_
      simp only [List.getElem_toArray, List.getElem_cons_zero, List.getElem_cons_succ, Act.put, List.setIfInBounds_toArray, List.set_cons_zero, List.set_cons_succ]
      refine wpAnyK_one (i := 6) (by kernel_rfl) rfl (fun K hK => ?_)
      (try simp only [List.getElem_toArray, List.getElem_cons_zero, List.getElem_cons_succ, Act.put, List.setIfInBounds_toArray, List.set_cons_zero, List.set_cons_succ])
      go_simp
      refine HS.mono ?_
      rintro e' W1 ⟨g, rfl, -, sg, b1⟩
      refine hK.out _ _ (fun _ => trivial) (fun hHeld0 => ?_)
      have hHeld := hHeld0 (by decide)
      clear hHeld0 hK K
      (try simp only [List.getElem_toArray, List.getElem_cons_zero, List.getElem_cons_succ, Act.put, List.setIfInBounds_toArray, List.set_cons_zero, List.set_cons_succ])
      have HE := peqs24 (some ⟨g, 0, none⟩) (rs24 a k e) 4 (k - e) (sm21 B1) B2 4 W1 sg ((HC.out.2.1.old HC.out.2.2.2.2.1).old (b1.mono (Nat.le_of_eq HC.out.2.2.2.2.2.1.symm) |> fun h => by first | exact b1 | exact h)) (sm21_len B1) HC.out.2.2.2.1 (by decide)
      rw [← HT.out] at HE
      have HB1 : Hid (Below w.heap.size w W1) := HC.out.2.2.2.2.1.trans (by first | exact b1.mono (Nat.le_of_eq HC.out.2.2.2.2.2.1.symm) | exact b1.mono (Nat.le_of_eq HC.out.2.2.2.2.2.1) | (rw [← HC.out.2.2.2.2.2.1]; exact b1))
      clear sg b1 HS
      refine wpAnyK_one (i := 10) (by kernel_rfl) rfl (fun K hK => ?_)
      (try simp only [List.getElem_toArray, List.getElem_cons_zero, List.getElem_cons_succ, Act.put, List.setIfInBounds_toArray, List.set_cons_zero, List.set_cons_succ])
      go_simp
      refine HE.mono ?_
      rintro e' W2 ⟨rfl, b2⟩
      refine hK.out _ _ (fun _ => trivial) (fun hHeld0 => ?_)
      have hHeld := hHeld0 (by decide)
      clear hHeld0 hK K
      (try simp only [List.getElem_toArray, List.getElem_cons_zero, List.getElem_cons_succ, Act.put, List.setIfInBounds_toArray, List.set_cons_zero, List.set_cons_succ])
      have HB2 : Hid (Below w.heap.size w W2) := HB1.out.trans (b2.mono HB1.out.size)
      clear b2 HE
      refine wpAnyK_take (i := 11) (v := .bool false) rfl (by kernel_rfl) (by kernel_rfl) (by kernel_rfl) (by kernel_rfl) (fun _ _ _ h => h) (Or.inl ⟨by rfl, fun w hSw => by go_simp⟩) hHeld ?_
      simp only [List.getElem_toArray, List.getElem_cons_zero, List.getElem_cons_succ, Act.put, List.setIfInBounds_toArray, List.set_cons_zero, List.set_cons_succ]
      refine wpAnyK_take (i := 12) (v := .bool false) rfl (by kernel_rfl) (by kernel_rfl) (by kernel_rfl) (by kernel_rfl) (fun _ _ _ h => h) (Or.inl ⟨by rfl, fun w hSw => by go_simp⟩) hHeld ?_
      simp only [List.getElem_toArray, List.getElem_cons_zero, List.getElem_cons_succ, Act.put, List.setIfInBounds_toArray, List.set_cons_zero, List.set_cons_succ]
      refine wpAnyK_done (by kernel_rfl) ?_ _
      obtain ⟨p, hp⟩ : ∃ p, p = W2.heap.size := ⟨_, rfl⟩
      obtain ⟨V1, hV1⟩ : ∃ V1, V1 = W2.alloc (.cells #[.slice a e k, .bool false] 85) := ⟨_, rfl⟩
      have HV1 : Hid (W2.alloc (.cells #[.slice a e k, .bool false] 85) = V1 ∧ W2.heap.size = p) := ⟨hV1.symm, hp.symm⟩
      have r1 : Rm24 w V1 p B1 false := by
        refine ⟨?_, ?_, a, e, k, ?_, HC.out.1, HC.out.2.2.1, by have := HC.out.2.2.2.2.2.2.1; omega, HC.out.2.2.2.2.2.2.2.2⟩
        · rw [hV1]; exact HB2.out.alloc HB2.out.size _
        · rw [hp]; exact HB2.out.size
        · rw [hV1, hp]; exact heap_alloc_new W2 _
      have HN := pbare24 r1 (by rw [HC.out.2.2.1]; have := HC.out.2.2.2.2.2.2.2.1; omega)
      have HR1 : Hid (Rm24 w V1 p B1 false) := r1
      clear hp hV1 r1
      go_wp2_with fail
      rw [HV1.out.1, HV1.out.2]
      refine HN.mono ?_
      rintro e' V2 ⟨b, m, rfl, hfi, hb, hm, r2, k2⟩
      have hplt := HR1.out.lt
      have hbl := HR1.out.bl.size
      have HJ : Lj24 w V2 p b m 0 (bs24 (B1, false)) (bd24 (B1, false), fun _ _ => none) := ⟨r2, ⟨_, _, hfi, fun _ h => h.elim, fun h => h⟩, by omega, by omega, by omega, by omega⟩
      have hbl0 : (bd24 (B1, false)).1.length ≤ 140737488351232 := by
        have h1 : (bd24 (B1, false)).1.length ≤ (B1, false).1.length := Nat.le_trans (nb24_len _ _ _) (Nat.le_trans (nb24_len _ _ _) (Nat.le_trans (nb24_len _ _ _) (Nat.le_trans (nb24_len _ _ _) (bm24_len _))))
        have h2 := HC.out.2.2.2.2.2.2.2.1
        have h3 := HC.out.2.2.1
        have h4 : (B1, false).1.length = e := h3
        omega
      have HBL : Hid ((bd24 (B1, false)).1.length ≤ 140737488351232) := hbl0
      have HJ0 : Hid (Lj24 w V2 p b m 0 (bs24 (B1, false)) (bd24 (B1, false), fun _ _ => none)) := HJ
      have HPG : Hid (64 ≤ (bs24 (B1, false)).pg ∧ (bs24 (B1, false)).pg ≤ 4096 ∧ 1 ≤ (bs24 (B1, false)).ps ∧ (bs24 (B1, false)).ps ≤ 4096) := by
        have g1 := nbv24_bd 64 4096 (bm24 (B1, false)).1 (by omega)
        have g2 := nbv24_bd 1 4096 (ba24 (B1, false)).1 (by omega)
        show _ ∧ _
        unfold bs24
        simp only
        omega
      have HLF : Hid (lf24 B1 = fa24 (bs24 (B1, false)).pg (bs24 (B1, false)).ps 3 (bd24 (B1, false), fun _ _ => none) ∧ (bs24 (B1, false)).on = true ∧ (bs24 (B1, false)).lf = 0 ∧ (bs24 (B1, false)).tn = [] ∧ (bs24 (B1, false)).lg = [] ∧ ls24 B1 = { bs24 (B1, false) with pa := (lf24 B1).2 }) := ⟨rfl, rfl, rfl, rfl, rfl, rfl⟩
      clear hfi hb hm r2 k2 HN HR1 hplt hbl hbl0 HJ HV1 X1 X2 HB2 HB1
      generalize bs24 (B1, false) = S0 at *
      generalize bd24 (B1, false) = r0 at *
      have HJ1 : Hid (Lj24 w V2 p b m 0 S0 (fa24 S0.pg S0.ps 0 (r0, fun _ _ => none))) := HJ0.out
      have HT2 : Hid (true = decide (sm21 B1 = B2)) := HT
      clear HJ0 HT
      go_wp2_with fail
      go_loopw [30] (fun ti wr => ∃ i c : Nat, i ≤ 3 ∧ ti = .int .i64 (i : Int) ∧ Lj24 w wr p b m c S0 (fa24 S0.pg S0.ps i (r0, fun _ _ => none)) ∧ c ≤ 4096 * i) (fun ti _ => 3 - (intOf ti).toNat)
      case atStart => exact ⟨0, 0, by omega, rfl, HJ1.out, by omega⟩
      case round =>
        obtain ⟨i, c, hi3, rfl, hJ, hc⟩ := hrel
        by_cases hi : i < 3
        · have hii : (i : Int) < 3 := by omega
          obtain ⟨f, V, hI, hV, hVp⟩ := hJ.fi
          have HPO := ppof21 b S0.ps (i : Int) wr (hI.cel (i := 1) rfl)
          obtain ⟨s, hs⟩ : ∃ s, s = fa24 S0.pg S0.ps i (r0, fun _ _ => none) := ⟨_, rfl⟩
          obtain ⟨N, hN⟩ : ∃ N, N = (pn21 S0.ps (i : Int)).toNat := ⟨_, rfl⟩
          have hpn : pn21 S0.ps (i : Int) = (N : Int) ∧ N ≤ 4096 := by
            have := pn21_bd S0.ps (i : Int) HPG.out.2.2.2
            omega
          rw [hpn.1] at HPO
          rw [← hs] at hJ
          have hsl : s.1.1.length ≤ 140737488351232 := by rw [hs]; exact Nat.le_trans (fa24_len _ _ _ _) HBL.out
          have HS : Hid (fa24 S0.pg S0.ps (i + 1) (r0, fun _ _ => none) = fp24 S0.pg (i : Int) N s ∧ N ≤ 4096 ∧ s.1.1.length ≤ 140737488351232 ∧ i < 3 ∧ (i = 2 → N = 2)) := ⟨by rw [hs, hN]; rfl, hpn.2, hsl, hi, fun e => by subst e; rw [hN]; rfl⟩
          have HJi : Hid (Lj24 w wr p b m c S0 (fp24 S0.pg (i : Int) 0 s) ∧ c ≤ 4096 * i + 0) := ⟨hJ, by omega⟩
          have hiw : IntKind.i64.wrap ((i : Int) + 1) = ((i + 1 : Nat) : Int) := by rw [IntWalk.i64_in _ (by omega)]; omega
          clear hs hN hpn hsl hJ hI hV hVp hc HJ1
          go_wp2_with fail
          refine HPO.mono ?_
          rintro e' W3 ⟨rfl, rfl⟩
          clear HPO
          go_wp2_with fail
          go_loopw [36] (fun tj wr => ∃ j c : Nat, j ≤ N ∧ tj = .int .i64 (j : Int) ∧ Lj24 w wr p b m c S0 (fp24 S0.pg (i : Int) j s) ∧ c ≤ 4096 * i + j) (fun tj _ => N - (intOf tj).toNat)
          case atStart => exact ⟨0, c, by omega, rfl, HJi.out.1, HJi.out.2⟩
          case round =>
            obtain ⟨j, c', hjN, rfl, hL, hc'⟩ := hrel
            by_cases hj : j < N
            · have hji : (j : Int) < (N : Int) := by omega
              obtain ⟨f, V, hI, hV, hVp⟩ := hL.fi
              obtain ⟨q, hq⟩ : ∃ q, q = fp24 S0.pg (i : Int) j s := ⟨_, rfl⟩
              obtain ⟨pg, hpg⟩ : ∃ pg, pg = S0.pg := ⟨_, rfl⟩
              rw [← hq] at hL hI
              obtain ⟨sv, hsv⟩ : ∃ sv, sv = stv24 pg q.1 := ⟨_, rfl⟩
              obtain ⟨q', hq'⟩ : ∃ q', q' = st24 pg q.1 := ⟨_, rfl⟩
              have HQ : Hid (fp24 S0.pg (i : Int) (j + 1) s = (q', up21 q.2 (i : Int) (j : Int) sv)) := by rw [hq', hsv, hq, hpg]; exact rfl
              have hql : q.1.1.length ≤ 140737488351232 := by rw [hq]; exact Nat.le_trans (fp24_len _ _ _ _) HS.out.2.2.1
              obtain ⟨z0, hz0⟩ : ∃ z0, z0 = wr.drew := ⟨_, rfl⟩
              have HZ0 : Hid (wr.drew = z0) := hz0.symm
              have bz0 : Below wr.heap.size wr z0 := by rw [hz0]; exact (Below.refl _ _).drew
              have hzz : z0.heap.size = wr.heap.size := by rw [hz0]; rfl
              have hI0 := hI.old bz0
              have r0' : Rm24 w z0 p q.1.1 q.1.2 := hL.rm.kp (Kp.of_below (S := fun _ => False) bz0) (fun _ e => e.elim) (fun e => e)
              have hSH := psheet24 r0' pg (by rw [hpg]; exact HPG.out.2.1) hql
              have HSH : Hid (Calls Tryd.prog 41 #[.pointer (some ⟨p, 0, none⟩), .int .i64 (pg : Int)] z0 fun e V' => (∃ a c, e = .returned (.agg #[.slice a sv.b.length c, .bool sv.er, .int .i64 sv.wr]) ∧ Cl21 V' a sv.b c z0.heap.size) ∧ Rm24 w V' p q'.1 q'.2 ∧ Kp (fun k => k = p) z0 V') := by rw [hsv, hq']; exact hSH
              have d5 : z0.cell? ⟨b, 5, none⟩ = some (.map (some m)) := hI0.cel (i := 5) rfl
              have d0 : z0.cell? ⟨b, 0, none⟩ = some (.int .i64 (pg : Int)) := by rw [hpg]; exact hI0.cel (i := 0) rfl
              have HD : Hid (z0.cell? ⟨b, 5, none⟩ = some (.map (some m)) ∧ z0.cell? ⟨b, 0, none⟩ = some (.int .i64 (pg : Int))) := ⟨d5, d0⟩
              have HI : Hid (Fi21 z0 b m c' f none 0 none 0 V { S0 with pa := q.2 }) := hI0
              have HL : Hid (p ≠ b ∧ p ≠ m ∧ w.heap.size ≤ b ∧ w.heap.size ≤ m ∧ (∀ k, V k → w.heap.size ≤ k) ∧ ¬ V p ∧ c' ≤ 4096 * i + j ∧ j < N ∧ p < z0.heap.size ∧ S0.pg = pg) := ⟨hL.pb, hL.pm, hL.wb, hL.wm, hV, hVp, hc', hj, r0'.lt, hpg.symm⟩
              have hx : In21 (i : Int) := ⟨by omega, by omega⟩
              have hy : In21 (j : Int) := ⟨by omega, by have := HS.out.2.1; omega⟩
              have hjw : IntKind.i64.wrap ((j : Int) + 1) = ((j + 1 : Nat) : Int) := by rw [IntWalk.i64_in _ (by have := HS.out.2.1; omega)]; omega
              clear hL hI hV hVp hc' hq hpg hsv hq' hql hz0 bz0 hzz hI0 r0' hSH d5 d0 HJi hj hjN
              go_wp2_with fail
              refine plain_region16 (fun Y => Y.cell? ⟨b, 5, none⟩ = some (.map (some m)) ∧ Y.cell? ⟨b, 0, none⟩ = some (.int .i64 (pg : Int))) 13 (by kernel_rfl) (by rw [HZ0.out]; exact HD.out) (fun hHeld => ?_)
              rw [HZ0.out] at hHeld ⊢
              refine wpAnyK_take (i := 0) (v := .pointer (some ⟨b, 0, none⟩)) rfl (by kernel_rfl) (by kernel_rfl) (by kernel_rfl) (by kernel_rfl) (fun _ _ _ h => h) (Or.inl ⟨by rfl, fun w hSw => by go_simp⟩) hHeld ?_
              simp only [List.getElem_toArray, List.getElem_cons_zero, List.getElem_cons_succ, Act.put, List.setIfInBounds_toArray, List.set_cons_zero, List.set_cons_succ]
              refine wpAnyK_take (i := 1) (v := .pointer (some ⟨b, 0, none⟩)) rfl (by kernel_rfl) (by kernel_rfl) (by kernel_rfl) (by kernel_rfl) (fun _ _ _ h => h) (Or.inl ⟨by rfl, fun w hSw => by go_simp⟩) hHeld ?_
              simp only [List.getElem_toArray, List.getElem_cons_zero, List.getElem_cons_succ, Act.put, List.setIfInBounds_toArray, List.set_cons_zero, List.set_cons_succ]
              refine wpAnyK_take (i := 2) (v := .pointer (some ⟨b, 5, none⟩)) rfl (by kernel_rfl) (by kernel_rfl) (by kernel_rfl) (by kernel_rfl) (fun _ _ _ h => h) (Or.inl ⟨by rfl, fun w hSw => by go_simp⟩) hHeld ?_
              simp only [List.getElem_toArray, List.getElem_cons_zero, List.getElem_cons_succ, Act.put, List.setIfInBounds_toArray, List.set_cons_zero, List.set_cons_succ]
              refine wpAnyK_take (i := 3) (v := .map (some m)) rfl (by kernel_rfl) (by kernel_rfl) (by kernel_rfl) (by kernel_rfl) (fun _ _ _ h => h) (Or.inl ⟨by rfl, fun w hSw => by go_simp⟩) hHeld ?_
              simp only [List.getElem_toArray, List.getElem_cons_zero, List.getElem_cons_succ, Act.put, List.setIfInBounds_toArray, List.set_cons_zero, List.set_cons_succ]
              refine wpAnyK_take (i := 4) (v := .int .i64 (i : Int)) rfl (by kernel_rfl) (by kernel_rfl) (by kernel_rfl) (by kernel_rfl) (fun _ _ _ h => h) (Or.inl ⟨by rfl, fun w hSw => by go_simp⟩) hHeld ?_
              simp only [List.getElem_toArray, List.getElem_cons_zero, List.getElem_cons_succ, Act.put, List.setIfInBounds_toArray, List.set_cons_zero, List.set_cons_succ]
              refine wpAnyK_take (i := 5) (v := .int .i64 (j : Int)) rfl (by kernel_rfl) (by kernel_rfl) (by kernel_rfl) (by kernel_rfl) (fun _ _ _ h => h) (Or.inl ⟨by rfl, fun w hSw => by go_simp⟩) hHeld ?_
              simp only [List.getElem_toArray, List.getElem_cons_zero, List.getElem_cons_succ, Act.put, List.setIfInBounds_toArray, List.set_cons_zero, List.set_cons_succ]
              refine wpAnyK_take (i := 6) (v := .agg #[.int .i64 (i : Int), .int .i64 (j : Int)]) rfl (by kernel_rfl) (by kernel_rfl) (by kernel_rfl) (by kernel_rfl) (fun _ _ _ h => h) (Or.inl ⟨by rfl, fun w hSw => by go_simp⟩) hHeld ?_
              simp only [List.getElem_toArray, List.getElem_cons_zero, List.getElem_cons_succ, Act.put, List.setIfInBounds_toArray, List.set_cons_zero, List.set_cons_succ]
              refine wpAnyK_take (i := 7) (v := .pointer (some ⟨b, 0, none⟩)) rfl (by kernel_rfl) (by kernel_rfl) (by kernel_rfl) (by kernel_rfl) (fun _ _ _ h => h) (Or.inl ⟨by rfl, fun w hSw => by go_simp⟩) hHeld ?_
              simp only [List.getElem_toArray, List.getElem_cons_zero, List.getElem_cons_succ, Act.put, List.setIfInBounds_toArray, List.set_cons_zero, List.set_cons_succ]
              refine wpAnyK_take (i := 8) (v := .pointer (some ⟨b, 0, none⟩)) rfl (by kernel_rfl) (by kernel_rfl) (by kernel_rfl) (by kernel_rfl) (fun _ _ _ h => h) (Or.inl ⟨by rfl, fun w hSw => by go_simp⟩) hHeld ?_
              simp only [List.getElem_toArray, List.getElem_cons_zero, List.getElem_cons_succ, Act.put, List.setIfInBounds_toArray, List.set_cons_zero, List.set_cons_succ]
              refine wpAnyK_take (i := 9) (v := .pointer (some ⟨b, 0, none⟩)) rfl (by kernel_rfl) (by kernel_rfl) (by kernel_rfl) (by kernel_rfl) (fun _ _ _ h => h) (Or.inl ⟨by rfl, fun w hSw => by go_simp⟩) hHeld ?_
              simp only [List.getElem_toArray, List.getElem_cons_zero, List.getElem_cons_succ, Act.put, List.setIfInBounds_toArray, List.set_cons_zero, List.set_cons_succ]
              refine wpAnyK_take (i := 10) (v := .pointer (some ⟨b, 0, none⟩)) rfl (by kernel_rfl) (by kernel_rfl) (by kernel_rfl) (by kernel_rfl) (fun _ _ _ h => h) (Or.inl ⟨by rfl, fun w hSw => by go_simp⟩) hHeld ?_
              simp only [List.getElem_toArray, List.getElem_cons_zero, List.getElem_cons_succ, Act.put, List.setIfInBounds_toArray, List.set_cons_zero, List.set_cons_succ]
              refine wpAnyK_take (i := 11) (v := .int .i64 (pg : Int)) rfl (by kernel_rfl) (by kernel_rfl) (by kernel_rfl) (by kernel_rfl) (fun _ _ _ h => h) (Or.inl ⟨by rfl, fun w hSw => by go_simp⟩) hHeld ?_
              simp only [List.getElem_toArray, List.getElem_cons_zero, List.getElem_cons_succ, Act.put, List.setIfInBounds_toArray, List.set_cons_zero, List.set_cons_succ]
              refine wpAnyK_one (i := 12) (by kernel_rfl) rfl (fun K hK => ?_)
              (try simp only [List.getElem_toArray, List.getElem_cons_zero, List.getElem_cons_succ, Act.put, List.setIfInBounds_toArray, List.set_cons_zero, List.set_cons_succ])
              go_simp
              refine HSH.out.mono ?_
              rintro e' W4 ⟨⟨ra, rc, rfl, hcl⟩, r4, k4⟩
              obtain ⟨l1, l2, l3, l4, l5, l6, l7, l8, l9, l10⟩ := HL.out
              have hI4 : Fi21 W4 b m c' f none 0 none 0 V { S0 with pa := q.2 } := HI.out.kp (k4.block b HI.out.bl (by show ¬ b = p; omega)) (k4.block m HI.out.hm.lt (by show ¬ m = p; omega)) (fun k e => by simp [Value.ownBlock] at e) (fun k e => k4.block k (HI.out.vs k e) (fun e' => by have : k = p := e'; subst this; exact l6 e)) k4.size
              have d54 : W4.cell? ⟨b, 5, none⟩ = some (.map (some m)) := hI4.cel (i := 5) rfl
              have d04 : W4.cell? ⟨b, 0, none⟩ = some (.int .i64 (pg : Int)) := by rw [← l10]; exact hI4.cel (i := 0) rfl
              have HCL : Hid (Cl21 W4 ra sv.b rc z0.heap.size ∧ Rm24 w W4 p q'.1 q'.2 ∧ Kp (fun k => k = p) z0 W4) := ⟨hcl, r4, k4⟩
              refine hK.out _ _ (fun _ => ⟨d54, d04⟩) (fun hHeld0 => ?_)
              have hHeld := hHeld0 (by decide)
              clear hHeld0 hK K
              (try simp only [List.getElem_toArray, List.getElem_cons_zero, List.getElem_cons_succ, Act.put, List.setIfInBounds_toArray, List.set_cons_zero, List.set_cons_succ])
              obtain ⟨w5, hr5, hm5, hg5⟩ := hI4.hm.store (by have := HS.out.2.1; have := HS.out.2.2.2.1; unfold maxLen; omega) hx hy (.agg #[.slice ra sv.b.length rc, .bool sv.er, .int .i64 sv.wr])
              have k5 : Kp (fun k => k = m) W4 w5 := Kp.grown hg5 (fun i e => by injection e with e; exact e.symm)
              refine wpAnyK_one (i := 13) (by kernel_rfl) rfl (fun K hK => ?_)
              (try simp only [List.getElem_toArray, List.getElem_cons_zero, List.getElem_cons_succ, Act.put, List.setIfInBounds_toArray, List.set_cons_zero, List.set_cons_succ])
              go_simp
              refine hK.out _ _ (fun h => absurd rfl h) (fun _ => ?_)
              clear hK K
              (try simp only [List.getElem_toArray, List.getElem_cons_zero, List.getElem_cons_succ, Act.put, List.setIfInBounds_toArray, List.set_cons_zero, List.set_cons_succ])
              refine wpAnyK_done (by kernel_rfl) ?_ _
              obtain ⟨⟨q1, q2, q3, q4⟩, rr, kk⟩ := HCL.out
              have hra : ∀ k, ra = some ⟨k, 0, none⟩ → z0.heap.size ≤ k ∧ k < W4.heap.size := fun k e => by
                rcases q2 with q2 | ⟨k', q2, q5, q6⟩
                · rw [q2] at e; cases e
                · rw [q2] at e; cases e; exact ⟨q5, q6⟩
              have hbz := HI.out.bl
              have hmz := HI.out.hm.lt
              have hI5 := hI4.put (f' := f) k5 hm5 (V' := fun k => V k ∨ ra = some ⟨k, 0, none⟩) (s := sv) (fun k e => .inl e) ⟨ra, rc, rfl, q1, by rcases q2 with q2 | ⟨k', q2, _, _⟩; (exact .inl q2); (exact .inr ⟨k', q2, .inr q2⟩), q3, q4⟩ (by have h2 := HS.out.2.1; have h3 := HS.out.2.2.2.1; have h4 := HS.out.2.2.2.2; show c' + 1 ≤ 8200 + _; omega) (by rintro (e | e); (exact hI4.vb e); (have := hra _ e; omega)) (by rintro (e | e); (exact hI4.vm e); (have := hra _ e; omega)) (fun k e => by simp [Value.ownBlock] at e) (by rintro k (e | e); (exact hI4.vs k e); (exact (hra k e).2))
              have hwz : w.heap.size ≤ z0.heap.size := by omega
              have hNext : Lj24 w w5 p b m (c' + 1) S0 (fp24 S0.pg (i : Int) (j + 1) s) := by
                rw [HQ.out]
                refine ⟨rr.kp k5 (fun k e => by show w.heap.size ≤ k; have : k = m := e; omega) (by show ¬ p = m; omega), ⟨_, _, hI5, ?_, ?_⟩, l1, l2, l3, l4⟩
                · rintro k (e | e)
                  · exact l5 k e
                  · have := hra k e; omega
                · rintro (e | e)
                  · exact l6 e
                  · have := hra p e; omega
              have HNX : Hid (Lj24 w w5 p b m (c' + 1) S0 (fp24 S0.pg (i : Int) (j + 1) s) ∧ c' + 1 ≤ 4096 * i + (j + 1) ∧ j + 1 ≤ N) := ⟨hNext, by omega, by omega⟩
              clear hI5 hNext hm5 hg5 hI4 q1 q2 q3 q4 hra hr5 k5 hbz hmz hwz rr kk l1 l2 l3 l4 l5 l6 l7 l8 l9 l10 d54 d04 hcl r4 k4
              go_wp2_with fail
              exact ⟨⟨j + 1, c' + 1, HNX.out.2.2, by simp, HNX.out.1, HNX.out.2.1⟩, by simp [intOf]; have := HNX.out.2.2; omega⟩
            · obtain rfl : j = N := by omega
              have HX : Hid (Lj24 w wr p b m c' S0 (fa24 S0.pg S0.ps (i + 1) (r0, fun _ _ => none)) ∧ c' ≤ 4096 * (i + 1)) := ⟨by rw [HS.out.1]; exact hL, by have := HS.out.2.1; omega⟩
              have hjj : ¬ (j : Int) < (j : Int) := by omega
              clear hL hc' HJi
              go_wp2_with fail
              exact ⟨⟨i + 1, c', by have := HS.out.2.2.2.1; omega, by simp, HX.out.1, HX.out.2⟩, by simp [intOf]; have := HS.out.2.2.2.1; omega⟩
        · obtain rfl : i = 3 := by omega
          have hii : ¬ ((3 : Nat) : Int) < 3 := by omega
          obtain ⟨f, V, hI, hV, hVp⟩ := hJ.fi
          obtain ⟨g1, g2, a3, n3, k3, g4, g5, g6, g7, g8⟩ := hJ.rm
          have c0 := two_cell0 g4
          have c1 := two_cell1 g4
          have HF : Hid (Below w.heap.size w wr ∧ Lj24 w wr p b m c S0 (fa24 S0.pg S0.ps 3 (r0, fun _ _ => none)) ∧ (fa24 S0.pg S0.ps 3 (r0, fun _ _ => none)).1.1.length = n3) := ⟨g1, hJ, g6⟩
          obtain ⟨xx, hxx⟩ : ∃ xx, xx = (fa24 S0.pg S0.ps 3 (r0, fun _ _ => none)).1.2 := ⟨_, rfl⟩
          rw [← hxx] at c1
          have HXX : Hid (xx = (fa24 S0.pg S0.ps 3 (r0, fun _ _ => none)).1.2) := hxx
          have hlo : lo24 B1 = (!xx && decide (n3 = 0)) := by
            unfold lo24
            rw [HLF.out.1, HXX.out, ← HF.out.2.2]
            congr 1
            by_cases hh : (fa24 S0.pg S0.ps 3 (r0, fun _ _ => none)).1.1 = []
            · rw [hh]; simp
            · have : ¬ (fa24 S0.pg S0.ps 3 (r0, fun _ _ => none)).1.1.length = 0 := fun e => hh (List.eq_nil_of_length_eq_zero e)
              simp [hh]
          have HLO : Hid (ld24 B = (!xx && decide (n3 = 0))) := by show _ = _; rw [HLD.out.1, ← HT2.out, hlo]; rfl
          clear hJ hI hV hVp g1 g2 g4 g5 g6 g7 g8 hxx hlo HJ1 hc
          cases xx
          · by_cases hn3 : 0 < n3
            · have hn3i : (0 : Int) < (n3 : Int) := by omega
              have hfin : ld24 B = false := by rw [HLO.out]; simp; omega
              have HFIN : Hid (ld24 B = false) := hfin
              clear hfin
              go_wp2_with fail
              go_ret2
              exact ⟨HF.out.1, .inl ⟨HFIN.out, rfl⟩⟩
            · have hn3i : ¬ (0 : Int) < (n3 : Int) := by omega
              have hfin : ld24 B = true := by rw [HLO.out]; simp; omega
              have HFIN : Hid (ld24 B = true) := hfin
              clear hfin
              go_wp2_with fail
              go_ret2
              obtain ⟨f, V, hI, hV, hVp⟩ := HF.out.2.1.fi
              refine ⟨HF.out.1, .inr ⟨HFIN.out, b, fun k => k = b ∨ k = m ∨ V k, rfl, ⟨m, c, f, none, 0, none, 0, V, ?_, .inl rfl, .inr (.inl rfl), fun k e => by simp [Value.ownBlock] at e, fun k e => .inr (.inr e), ?_⟩, ?_⟩⟩
              · obtain ⟨h1, h2, h3, h4, h5, h6⟩ := HLF.out
                rw [HLD.out.2, h6, h1]
                exact hI
              · rintro k (e | e | e)
                · rw [e]; exact hI.bl
                · rw [e]; exact hI.hm.lt
                · exact hI.vs k e
              · rintro k (e | e | e)
                · rw [e]; exact HF.out.2.1.wb
                · rw [e]; exact HF.out.2.1.wm
                · exact hV k e
          · have hfin : ld24 B = false := by rw [HLO.out]; rfl
            have HFIN : Hid (ld24 B = false) := hfin
            clear hfin
            go_wp2_with fail
            go_ret2
            exact ⟨HF.out.1, .inl ⟨HFIN.out, rfl⟩⟩
end
end Go.Proofs.YtmjlpfmacblcpaaDoor

namespace Go.Proofs.YtmjlpfmacblcpaaDoor
open Go.RowKit Go.Shelf
set_option linter.unusedVariables false
set_option linter.unusedSimpArgs false
theorem nb24_enc (lo hi v : Int) (R : List Int) (x : Bool) (h0 : 0 ≤ v) (h1 : v ≤ 18446744073709551615) (hlo : lo ≤ v) (hhi : v ≤ hi) : nbv24 lo hi (encI v ++ R) = v ∧ nb24 lo hi (encI v ++ R, x) = (R, x) := by
  have hd := dec_encI v R h0 h1
  have hok : nok24 lo hi (encI v ++ R) = true := by
    unfold nok24
    rw [hd]
    simp [hlo, hhi]
  unfold nbv24 nb24
  simp only [hok, if_true]
  rw [hd]
  refine ⟨rfl, ?_⟩
  simp
theorem tk24_app (L R : List Int) (x : Bool) : tkv24 L.length (L ++ R) = L ∧ tk24 L.length (L ++ R, x) = (R, x) := by
  unfold tkv24 tk24
  have h : ¬ (L ++ R).length < L.length := by rw [List.length_append]; omega
  rw [if_neg h, if_neg (by exact h)]
  simp
theorem encI_small (v : Int) (h : v ≤ 127) : encI v = [v] := by
  show encL 9 v = [v]
  rw [encL, if_neg (by omega)]
def nz24 (pg : Nat) (s : Sh21) : Sh21 := ⟨if s.er then [] else s.b ++ List.replicate (pg - s.b.length) 255, s.er, s.wr⟩
theorem st24_svp (pg : Nat) (s : Sh21) (R : List Int) (x : Bool) (hl : s.b.length ≤ pg) (h0 : 0 ≤ s.wr) (h1 : s.wr ≤ 1099511627776) : st24 pg (svp21 pg s ++ R, x) = (R, x) ∧ stv24 pg (svp21 pg s ++ R, x) = nz24 pg s := by
  unfold svp21
  rw [List.append_assoc]
  obtain ⟨T, hT⟩ : ∃ T, T = (if s.er then [1] else 0 :: (s.b ++ List.replicate (pg - s.b.length) 255)) ++ R := ⟨_, rfl⟩
  rw [← hT]
  have e1 := nb24_enc 0 1099511627776 s.wr T x h0 (by omega) h0 h1
  have e2 : sw24 (encI s.wr ++ T, x) = (T, x) := e1.2
  unfold st24 stv24 stb24 er24 se24
  rw [e2]
  cases he : s.er
  · have hT' : T = encI 0 ++ ((s.b ++ List.replicate (pg - s.b.length) 255) ++ R) := by rw [hT, he, encI_small 0 (by decide)]; simp
    have e3 := nb24_enc 0 1 0 ((s.b ++ List.replicate (pg - s.b.length) 255) ++ R) x (by decide) (by decide) (by decide) (by decide)
    rw [hT', e3.1, e3.2]
    have e4 := tk24_app (s.b ++ List.replicate (pg - s.b.length) 255) R x
    have hlen : (s.b ++ List.replicate (pg - s.b.length) 255).length = pg := by simp; omega
    rw [hlen] at e4
    rw [← hT']
    refine ⟨e4.2, ?_⟩
    simp only [e1.1, nz24, he]
    have := e4.1
    simp only [show ((0 : Int) == 1) = false from rfl]
    rw [show (if false = true then ([] : List Int) else tkv24 pg ((s.b ++ List.replicate (pg - s.b.length) 255) ++ R)) = _ from rfl]
    simp only [Bool.false_eq_true, if_false]
    rw [this]
  · have hT' : T = encI 1 ++ R := by rw [hT, he, encI_small 1 (by decide)]; simp
    have e3 := nb24_enc 0 1 1 R x (by decide) (by decide) (by decide) (by decide)
    rw [hT', e3.1, e3.2]
    rw [← hT']
    refine ⟨rfl, ?_⟩
    simp only [e1.1, nz24, he]
    rfl
theorem fp24_pgl {S : Fs21} (hO : Ok21 S) (x : Int) (n : Nat) (R : List Int) (b : Bool) (pa : Int → Int → Option Sh21) : fp24 S.pg x n ((pgl21 S x n ++ R, b), pa) = ((R, b), fun x' y' => if x' = x ∧ 0 ≤ y' ∧ y' < (n : Int) then some (nz24 S.pg (sh21 S x' y')) else pa x' y') := by
  induction n generalizing R with
  | zero =>
    show ((pgl21 S x 0 ++ R, b), pa) = _
    have h0 : pgl21 S x 0 = [] := rfl
    rw [h0]
    refine Prod.ext rfl ?_
    funext x' y'
    show pa x' y' = if _ then _ else _
    rw [if_neg (by omega)]
  | succ n ih =>
    have hs := sh21_ok hO x (n : Int)
    rw [pgl21_succ, List.append_assoc]
    show (st24 S.pg (fp24 S.pg x n _).1, up21 (fp24 S.pg x n _).2 x (n : Int) (stv24 S.pg (fp24 S.pg x n _).1)) = _
    rw [ih]
    have e := st24_svp S.pg (sh21 S x (n : Int)) R b hs.1 hs.2.1 hs.2.2
    simp only
    rw [e.1, e.2]
    refine Prod.ext rfl ?_
    funext x' y'
    simp only [up21]
    by_cases h : x' = x ∧ y' = (n : Int)
    · obtain ⟨rfl, rfl⟩ := h
      rw [if_pos ⟨rfl, rfl⟩, if_pos ⟨rfl, by omega, by omega⟩]
    · rw [if_neg h]
      by_cases h2 : x' = x ∧ 0 ≤ y' ∧ y' < (n : Int)
      · rw [if_pos h2, if_pos ⟨h2.1, h2.2.1, by omega⟩]
      · rw [if_neg h2, if_neg (by omega)]
theorem fa24_arl {S : Fs21} (hO : Ok21 S) (n : Nat) (R : List Int) (b : Bool) (pa : Int → Int → Option Sh21) : fa24 S.pg S.ps n ((arl21 S n ++ R, b), pa) = ((R, b), fun x' y' => if (0 ≤ x' ∧ x' < (n : Int)) ∧ 0 ≤ y' ∧ y' < pn21 S.ps x' then some (nz24 S.pg (sh21 S x' y')) else pa x' y') := by
  induction n generalizing R with
  | zero =>
    show ((arl21 S 0 ++ R, b), pa) = _
    have h0 : arl21 S 0 = [] := rfl
    rw [h0]
    refine Prod.ext rfl ?_
    funext x' y'
    show pa x' y' = if _ then _ else _
    rw [if_neg (by omega)]
  | succ n ih =>
    rw [arl21_succ, List.append_assoc]
    show fp24 S.pg (n : Int) (pn21 S.ps (n : Int)).toNat (fa24 S.pg S.ps n _) = _
    rw [ih, fp24_pgl hO]
    refine Prod.ext rfl ?_
    funext x' y'
    simp only
    have hp := pn21_bd S.ps (n : Int) hO.ps.2
    by_cases h : x' = (n : Int)
    · subst h
      by_cases h2 : 0 ≤ y' ∧ y' < pn21 S.ps (n : Int)
      · rw [if_pos ⟨rfl, h2.1, by omega⟩, if_pos ⟨⟨by omega, by omega⟩, h2⟩]
      · rw [if_neg (by omega), if_neg (by omega), if_neg (by omega)]
    · rw [if_neg (fun e => h e.1)]
      by_cases h2 : (0 ≤ x' ∧ x' < (n : Int)) ∧ 0 ≤ y' ∧ y' < pn21 S.ps x'
      · rw [if_pos h2, if_pos ⟨⟨h2.1.1, by omega⟩, h2.2⟩]
      · rw [if_neg h2, if_neg (fun e => h2 ⟨⟨e.1.1, by omega⟩, e.2⟩)]
def nfp24 (S : Fs21) (x y : Int) : Option Sh21 := if (0 ≤ x ∧ x < 3) ∧ 0 ≤ y ∧ y < pn21 S.ps x then some (nz24 S.pg (sh21 S x y)) else none
/-- The device that Load makes of Save. -/
def nf24 (S : Fs21) : Fs21 := ⟨S.pg, S.ps, S.ac, true, S.lm, nfp24 S, 0, [], []⟩
theorem bare_svb {S : Fs21} (hO : Ok21 S) : bd24 (svb21 S, false) = (arl21 S 3, false) ∧ bs24 (svb21 S, false) = ⟨S.pg, S.ps, S.ac, true, S.lm, fun _ _ => none, 0, [], []⟩ := by
  have h1 := hO.pg; have h2 := hO.ps; have h3 := hO.ac; have h4 := hO.lm
  obtain ⟨A, hA⟩ : ∃ A, A = arl21 S 3 := ⟨_, rfl⟩
  have hb : svb21 S = mg21 ++ (encI (S.pg : Int) ++ (encI (S.ps : Int) ++ (encI S.ac ++ (encI S.lm ++ A)))) := by
    rw [hA]
    simp only [svb21, hdb21, nm21, encA, List.append_assoc, List.append_nil, List.nil_append]
  have m0 := tk24_app mg21 (encI (S.pg : Int) ++ (encI (S.ps : Int) ++ (encI S.ac ++ (encI S.lm ++ A)))) false
  have e0 : bm24 (svb21 S, false) = (encI (S.pg : Int) ++ (encI (S.ps : Int) ++ (encI S.ac ++ (encI S.lm ++ A))), false) := by
    unfold bm24
    rw [hb]
    rw [if_pos (by exact m0.1)]
    exact m0.2
  have n1 := nb24_enc 64 4096 (S.pg : Int) (encI (S.ps : Int) ++ (encI S.ac ++ (encI S.lm ++ A))) false (by omega) (by omega) (by omega) (by omega)
  have e1 : ba24 (svb21 S, false) = (encI (S.ps : Int) ++ (encI S.ac ++ (encI S.lm ++ A)), false) := by unfold ba24; rw [e0]; exact n1.2
  have n2 := nb24_enc 1 4096 (S.ps : Int) (encI S.ac ++ (encI S.lm ++ A)) false (by omega) (by omega) (by omega) (by omega)
  have e2 : bb24 (svb21 S, false) = (encI S.ac ++ (encI S.lm ++ A), false) := by unfold bb24; rw [e1]; exact n2.2
  have n3 := nb24_enc 0 1 S.ac (encI S.lm ++ A) false (by omega) (by omega) (by omega) (by omega)
  have e3 : bc24 (svb21 S, false) = (encI S.lm ++ A, false) := by unfold bc24; rw [e2]; exact n3.2
  have n4 := nb24_enc 0 1099511627776 S.lm A false (by omega) (by omega) (by omega) (by omega)
  refine ⟨by unfold bd24; rw [e3, ← hA]; exact n4.2, ?_⟩
  unfold bs24
  rw [e0, e1, e2, e3, n1.1, n2.1, n3.1, n4.1]
  simp
theorem lf24_svb {S : Fs21} (hO : Ok21 S) : lf24 (svb21 S) = (([], false), nfp24 S) := by
  obtain ⟨h1, h2⟩ := bare_svb hO
  unfold lf24
  rw [h1, h2]
  have := fa24_arl hO 3 [] false (fun _ _ => none)
  rw [List.append_nil] at this
  exact this
theorem ld24_sav {S : Fs21} (hO : Ok21 S) : ld24 (sav21 S) = true ∧ hd24 (sav21 S) = svb21 S ∧ ls24 (svb21 S) = nf24 S := by
  have hl : (sav21 S).length = (svb21 S).length + 4 := by unfold sav21; rw [List.length_append, sm21_len]
  have hh : hd24 (sav21 S) = svb21 S := by
    unfold hd24
    rw [hl]
    unfold sav21
    simp
  have ht : (sav21 S).drop ((sav21 S).length - 4) = sm21 (svb21 S) := by
    rw [hl]
    unfold sav21
    simp
  refine ⟨?_, hh, ?_⟩
  · unfold ld24 su24 lo24
    rw [hh, ht, lf24_svb hO, decide_eq_true (show 4 ≤ (sav21 S).length by omega)]
    simp
  · unfold ls24
    rw [lf24_svb hO, (bare_svb hO).2]
    rfl
end Go.Proofs.YtmjlpfmacblcpaaDoor
