import Derived.Test.YtmfpdchfofffeaaGreatDoorSu3a
namespace Go.Proofs.YtmfpdchfofffeaaGreatDoor
open Go.RowKit
set_option linter.unusedVariables false
def in13 (n : Nat) (P : List Int) : Bool := P.all fun i => decide (0 ≤ i) && decide (i < (n : Int))
theorem in13_take (n : Nat) (P : List Int) (k : Nat) (h : k < P.length) : in13 n (P.take (k + 1)) = (in13 n (P.take k) && (decide (0 ≤ P.getD k 0) && decide (P.getD k 0 < (n : Int)))) := by
  unfold in13
  rw [take_snocZ h, List.all_append]
  simp
theorem in13_no (n : Nat) (P : List Int) (k : Nat) (h : k < P.length) (hv : ¬ (0 ≤ P.getD k 0 ∧ P.getD k 0 < (n : Int))) : in13 n P = false := by
  unfold in13
  rw [List.all_eq_false]
  refine ⟨P[k], List.getElem_mem h, ?_⟩
  have e : P.getD k 0 = P[k] := by simp [List.getD, h]
  rw [e] at hv
  simp only [Bool.and_eq_true, decide_eq_true_eq]
  exact hv
def er13 (n : Nat) (P : List Int) : Int := if in13 n P = true then 0 else 132
set_option maxRecDepth 100000 in
set_option maxHeartbeats 2000000 in
theorem pref13 (b : Nat) (da : Option Addr) (dc : Nat) (aa : Option Addr) (ac gb gr n : Nat) (z : List Int) (A : List Nat) (pa : Option Addr) (P : List Int) (m pc : Nat) (w : World) (h : Ix13 w b da dc aa ac gb gr n z A) (hp : SegZ w pa P) (hm : Hid (P.length = m)) (hmb : m ≤ 100) :
    Calls Tryz.prog 72 #[.pointer (some ⟨b, 0, none⟩), .slice pa m pc] w fun e w' => e = .returned (.int .i64 (er13 n P)) ∧ w' = w := by
  have HMD := pmade13 b da dc aa ac gb gr n z A w h
  have c0 := h.c0
  have hn24 := h.n24
  clear h
  go_enter Tryz.func72, Tryz.ntmps72
  go_wp2_with (first
    | (go_at_call 73; refine HMD.mono ?_; rintro e1 w1 ⟨rfl, hw1⟩; subst hw1))
  go_loopw [12] (fun ti wr => ∃ i : Nat, i ≤ m ∧ ti = .int .i64 i ∧ Hid (in13 n (P.take i) = true) ∧ wr = w1) (fun ti _ => m - (intOf ti).toNat)
  case atStart => exact ⟨0, Nat.zero_le _, rfl, (rfl : in13 n (P.take 0) = true), rfl⟩
  case round =>
    obtain ⟨i, hi, rfl, HI, hw⟩ := hrel
    subst hw
    by_cases h1 : i < m
    · have h1i : (i : Int) < (m : Int) := by omega
      have hl : i < P.length := by rw [hm.out]; exact h1
      obtain ⟨bb, off, rfl, c1⟩ := hp.at_ i hl
      have bd := hp.bd i
      have HNO : Hid (¬ (0 ≤ P.getD i 0 ∧ P.getD i 0 < (n : Int)) → er13 n P = 132) := fun hv => by unfold er13; rw [in13_no n P i hl hv]; rfl
      have HYES : Hid (0 ≤ P.getD i 0 → P.getD i 0 < (n : Int) → in13 n (P.take (i + 1)) = true) := fun h1 h2 => by rw [in13_take n P i hl, HI.out, decide_eq_true h1, decide_eq_true h2]; rfl
      generalize P.getD i 0 = v at *
      by_cases hv0 : v < 0
      · go_wp2_with fail
        go_ret
        exact ⟨by rw [HNO.out (by omega)]; rfl, rfl⟩
      · have hv1 : 0 ≤ v := by omega
        by_cases hvn : v < (n : Int)
        · have hvn2 : ¬ (n : Int) ≤ v := by omega
          go_wp2_with fail
          go_roundw
          case rel => exact ⟨i + 1, by omega, by go_num, HYES.out hv1 hvn, by first | trivial | rfl⟩
          case measure => simp [intOf]; omega
        · have hvn2 : (n : Int) ≤ v := by omega
          go_wp2_with fail
          go_ret
          exact ⟨by rw [HNO.out (by omega)]; rfl, rfl⟩
    · have h1i : ¬ (i : Int) < (m : Int) := by omega
      obtain rfl : i = m := by omega
      have HE : Hid (er13 n P = 0) := by
        show _ = _
        unfold er13
        have e := HI.out
        rw [← hm.out, List.take_length] at e
        rw [e]; rfl
      go_wp2_with fail
      go_ret
      exact ⟨by rw [HE.out]; rfl, rfl⟩
set_option maxRecDepth 100000 in
set_option maxHeartbeats 1000000 in
theorem pdat13 (b : Nat) (da : Option Addr) (dc : Nat) (aa : Option Addr) (ac gb gr n : Nat) (z : List Int) (A : List Nat) (w : World) (h : Ix13 w b da dc aa ac gb gr n z A) :
    Calls Tryz.prog 46 #[.pointer (some ⟨b, 0, none⟩)] w (AnB13 w n z) := by
  have HMD := pmade13 b da dc aa ac gb gr n z A w h
  have c0 := h.c0
  have HC := pclb13 da z n dc w h.dat h.len h.nil (by have := h.n24; omega)
  clear h
  go_enter Tryz.func46, Tryz.ntmps46
  go_wp2_with (first
    | (go_at_call 73; refine HMD.mono ?_; rintro e1 w1 ⟨rfl, hw1⟩; subst hw1)
    | (go_at_call 74; refine HC.mono ?_; rintro e2 w2 ⟨ra, rc, rfl, hnil, hown, B2⟩))
  go_ret
  exact ⟨ra, rc, rfl, fun h => (hnil h).1, hown, B2⟩
theorem segZ_lit13 (w : World) (v : Int) (hv : -9223372036854775808 ≤ v ∧ v ≤ 9223372036854775807) : SegZ (w.alloc (.cells #[.int .i64 v] 3)) (some ⟨w.heap.size, 0, none⟩) [v] :=
  (Rz12.new w [v]).seg (by intro z hz; simp at hz; subst hz; exact hv)
theorem er13_one (n : Nat) (v : Int) : er13 n [v] = if 0 ≤ v ∧ v < (n : Int) then 0 else 132 := by
  unfold er13 in13
  by_cases h1 : 0 ≤ v <;> by_cases h2 : v < (n : Int) <;> simp [h1, h2]
set_option maxRecDepth 100000 in
set_option maxHeartbeats 1000000 in
theorem patn13 (b : Nat) (da : Option Addr) (dc : Nat) (aa : Option Addr) (ac gb gr n : Nat) (z : List Int) (A : List Nat) (r : Int) (w : World) (h : Ix13 w b da dc aa ac gb gr n z A) (hb : -9223372036854775808 ≤ r ∧ r ≤ 9223372036854775807) (hr : ¬ (0 ≤ r ∧ r < (n : Int))) :
    Calls Tryz.prog 45 #[.pointer (some ⟨b, 0, none⟩), .int .i64 r] w fun e w' => e = .returned (.tuple #[.int .i64 0, .int .i64 132]) ∧ Below w.heap.size w w' := by
  have B1 : Below w.heap.size w (w.alloc (.cells #[.int .i64 r] 3)) := (Below.refl _ _).alloc (Nat.le_refl _) _
  have HR := pref13 b da dc aa ac gb gr n z A (some ⟨w.heap.size, 0, none⟩) [r] 1 1 _ (h.old B1) (segZ_lit13 w _ hb) (rfl : _ = _) (by omega)
  rw [er13_one, if_neg hr] at HR
  clear h hr
  go_enter Tryz.func45, Tryz.ntmps45
  go_wp2_with (first
    | (go_at_call 72; refine HR.mono ?_; rintro e1 w2 ⟨rfl, hw1⟩; rw [← hw1] at B1; clear hw1))
  refine bodyPost_ret (results_tmp2 rfl _ _ _) rfl ?_
  exact ⟨rfl, B1⟩
end Go.Proofs.YtmfpdchfofffeaaGreatDoor
