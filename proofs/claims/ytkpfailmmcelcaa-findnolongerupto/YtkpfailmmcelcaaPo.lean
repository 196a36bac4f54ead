import Derived.Test.YtkpfailmmcelcaaPn
import Derived.Test.YtkpfailmmcelcaaPm
import Derived.Lib.Bytes
namespace Go.Proofs.Ytkpfailmmcelcaa
open Go.RowKit
set_option linter.unusedVariables false

/-! The landed suffix: made, refusal, Len, Data, Array, At, Rank. -/
set_option maxRecDepth 100000 in
theorem pmaden13 (w : World) :
    Calls Try.prog 39 #[.pointer none] w fun e w' => e = .returned (.bool false) ∧ w' = w := by
  go_enter Try.func39, Try.ntmps39
  go_wp2_with fail
  go_ret
  exact ⟨rfl, rfl⟩
set_option maxRecDepth 100000 in
theorem pmadez13 (b : Nat) (w : World) (c2 : w.cell? ⟨b, 2, none⟩ = some .nilFunc) :
    Calls Try.prog 39 #[.pointer (some ⟨b, 0, none⟩)] w fun e w' => e = .returned (.bool false) ∧ w' = w := by
  have HE := run_neq_nilfunc13 (P := Try.prog) w Try.underlying62
  go_enter Try.func39, Try.ntmps39
  go_wp2_with fail
  go_ret
  exact ⟨rfl, rfl⟩
def in13 (n : Nat) (P : List Int) : Bool := P.all fun i => decide (0 ≤ i) && decide (i < (n : Int))
theorem in13_take (n : Nat) (P : List Int) (k : Nat) (h : k < P.length) : in13 n (P.take (k + 1)) = (in13 n (P.take k) && (decide (0 ≤ P.getD k 0) && decide (P.getD k 0 < (n : Int)))) := by
  unfold in13
  rw [take_snocZ h, List.all_append]
  simp
theorem in13_no (n : Nat) (P : List Int) (k : Nat) (h : k < P.length) (hv : ¬ (0 ≤ P.getD k 0 ∧ P.getD k 0 < (n : Int))) : in13 n P = false := by
  unfold in13
  rw [List.all_eq_false]
  refine ⟨P[k], List.getElem_mem h, ?_⟩
  have e : P.getD k 0 = P[k] := by simp [List.getD, h]
  rw [e] at hv
  simp only [Bool.and_eq_true, decide_eq_true_eq]
  exact hv
def er13 (n : Nat) (P : List Int) : Int := if in13 n P = true then 0 else 132
set_option maxRecDepth 100000 in
set_option maxHeartbeats 2000000 in
theorem pref13 (b : Nat) (da : Option Addr) (dc : Nat) (aa : Option Addr) (ac gb gr n : Nat) (z : List Int) (A : List Nat) (pa : Option Addr) (P : List Int) (m pc : Nat) (w : World) (h : Ix13 w b da dc aa ac gb gr n z A) (hp : SegZ w pa P) (hm : Hid (P.length = m)) (hmb : m ≤ 100) :
    Calls Try.prog 41 #[.pointer (some ⟨b, 0, none⟩), .slice pa m pc] w fun e w' => e = .returned (.int .i64 (er13 n P)) ∧ w' = w := by
  have HMD := pmade13 b da dc aa ac gb gr n z A w h
  have c0 := h.c0
  have hn24 := h.n24
  clear h
  go_enter Try.func41, Try.ntmps41
  go_wp2_with (first
    | (go_at_call 39; refine HMD.mono ?_; rintro e1 w1 ⟨rfl, hw1⟩; subst hw1))
  go_loopw [12] (fun ti wr => ∃ i : Nat, i ≤ m ∧ ti = .int .i64 i ∧ Hid (in13 n (P.take i) = true) ∧ wr = w1) (fun ti _ => m - (intOf ti).toNat)
  case atStart => exact ⟨0, Nat.zero_le _, rfl, (rfl : in13 n (P.take 0) = true), rfl⟩
  case round =>
    obtain ⟨i, hi, rfl, HI, hw⟩ := hrel
    subst hw
    by_cases h1 : i < m
    · have h1i : (i : Int) < (m : Int) := by omega
      have hl : i < P.length := by rw [hm.out]; exact h1
      obtain ⟨bb, off, rfl, c1⟩ := hp.at_ i hl
      have bd := hp.bd i
      have HNO : Hid (¬ (0 ≤ P.getD i 0 ∧ P.getD i 0 < (n : Int)) → er13 n P = 132) := fun hv => by unfold er13; rw [in13_no n P i hl hv]; rfl
      have HYES : Hid (0 ≤ P.getD i 0 → P.getD i 0 < (n : Int) → in13 n (P.take (i + 1)) = true) := fun h1 h2 => by rw [in13_take n P i hl, HI.out, decide_eq_true h1, decide_eq_true h2]; rfl
      generalize P.getD i 0 = v at *
      by_cases hv0 : v < 0
      · go_wp2_with fail
        go_ret
        exact ⟨by rw [HNO.out (by omega)]; rfl, rfl⟩
      · have hv1 : 0 ≤ v := by omega
        by_cases hvn : v < (n : Int)
        · have hvn2 : ¬ (n : Int) ≤ v := by omega
          go_wp2_with fail
          go_roundw
          case rel => exact ⟨i + 1, by omega, by go_num, HYES.out hv1 hvn, by first | trivial | rfl⟩
          case measure => simp [intOf]; omega
        · have hvn2 : (n : Int) ≤ v := by omega
          go_wp2_with fail
          go_ret
          exact ⟨by rw [HNO.out (by omega)]; rfl, rfl⟩
    · have h1i : ¬ (i : Int) < (m : Int) := by omega
      obtain rfl : i = m := by omega
      have HE : Hid (er13 n P = 0) := by
        show _ = _
        unfold er13
        have e := HI.out
        rw [← hm.out, List.take_length] at e
        rw [e]; rfl
      go_wp2_with fail
      go_ret
      exact ⟨by rw [HE.out]; rfl, rfl⟩
set_option maxRecDepth 100000 in
theorem plen13 (b : Nat) (da : Option Addr) (dc : Nat) (aa : Option Addr) (ac gb gr n : Nat) (z : List Int) (A : List Nat) (w : World) (h : Ix13 w b da dc aa ac gb gr n z A) :
    Calls Try.prog 24 #[.pointer (some ⟨b, 0, none⟩)] w fun e w' => e = .returned (.int .i64 (n : Int)) ∧ w' = w := by
  have HMD := pmade13 b da dc aa ac gb gr n z A w h
  have c0 := h.c0
  clear h
  go_enter Try.func24, Try.ntmps24
  go_wp2_with (first
    | (go_at_call 39; refine HMD.mono ?_; rintro e1 w1 ⟨rfl, hw1⟩; subst hw1))
  go_ret
  exact ⟨rfl, rfl⟩
theorem segZ_lit13 (w : World) (v : Int) (hv : -9223372036854775808 ≤ v ∧ v ≤ 9223372036854775807) : SegZ (w.alloc (.cells #[.int .i64 v] 3)) (some ⟨w.heap.size, 0, none⟩) [v] :=
  (Rz12.new w [v]).seg (by intro z hz; simp at hz; subst hz; exact hv)
theorem segZ_two13 (w : World) (v u : Int) (hv : -9223372036854775808 ≤ v ∧ v ≤ 9223372036854775807) (hu : -9223372036854775808 ≤ u ∧ u ≤ 9223372036854775807) : SegZ (w.alloc (.cells #[.int .i64 v, .int .i64 u] 3)) (some ⟨w.heap.size, 0, none⟩) [v, u] :=
  (Rz12.new w [v, u]).seg (by intro z hz; simp at hz; rcases hz with rfl | rfl <;> assumption)
theorem er13_one (n : Nat) (v : Int) : er13 n [v] = if 0 ≤ v ∧ v < (n : Int) then 0 else 132 := by
  unfold er13 in13
  by_cases h1 : 0 ≤ v <;> by_cases h2 : v < (n : Int) <;> simp [h1, h2]
theorem er13_two (n : Nat) (v u : Int) : er13 n [v, u] = if (0 ≤ v ∧ v < (n : Int)) ∧ (0 ≤ u ∧ u < (n : Int)) then 0 else 132 := by
  unfold er13 in13
  by_cases h1 : 0 ≤ v <;> by_cases h2 : v < (n : Int) <;> by_cases h3 : 0 ≤ u <;> by_cases h4 : u < (n : Int) <;> simp [h1, h2, h3, h4]
set_option maxRecDepth 100000 in
set_option maxHeartbeats 1000000 in
theorem pat13 (b : Nat) (da : Option Addr) (dc : Nat) (aa : Option Addr) (ac gb gr n : Nat) (z : List Int) (A : List Nat) (r : Nat) (w : World) (h : Ix13 w b da dc aa ac gb gr n z A) (hr : r < n) :
    Calls Try.prog 26 #[.pointer (some ⟨b, 0, none⟩), .int .i64 (r : Int)] w fun e w' => e = .returned (.tuple #[.int .i64 ((A.getD r 0 : Nat) : Int), .int .i64 0]) ∧ Below w.heap.size w w' := by
  have hn24 := h.n24
  have B1 : Below w.heap.size w (w.alloc (.cells #[.int .i64 (r : Int)] 3)) := (Below.refl _ _).alloc (Nat.le_refl _) _
  have h1 := h.old B1
  have HR := pref13 b da dc aa ac gb gr n z A (some ⟨w.heap.size, 0, none⟩) [(r : Int)] 1 1 _ h1 (segZ_lit13 w _ (by omega)) (rfl : _ = _) (by omega)
  rw [er13_one, if_pos (by omega)] at HR
  obtain ⟨ab, off, rfl, c3⟩ := h.arr.at_ r (by rw [nz12_len13, h.ar.len]; exact hr)
  rw [nz12_get13 (by rw [h.ar.len]; exact hr)] at c3
  have HC1 : Hid (∀ W, Below w.heap.size w W → W.cell? ⟨b, 1, none⟩ = some (.slice (some ⟨ab, off, none⟩) n ac) ∧ W.cell? ⟨ab, off + r, none⟩ = some (.int .i64 ((A.getD r 0 : Nat) : Int))) := fun W hW => ⟨(h.old hW).c1, (hW.cell (p := ⟨ab, off + r, none⟩) (World.block_lt_of_cell? w _ c3)).trans c3⟩
  have hri : (r : Int) < (n : Int) := by omega
  have hgt := h.ar.get hr
  clear h h1 c3
  generalize A.getD r 0 = v at *
  go_enter Try.func26, Try.ntmps26
  go_wp2_with (first
    | (go_at_call 41; refine HR.mono ?_; rintro e1 w2 ⟨rfl, hw1⟩; rw [← hw1] at B1; clear hw1; obtain ⟨c1, c3⟩ := HC1.out w2 B1))
  refine bodyPost_ret (results_tmp2 rfl _ _ _) rfl ?_
  exact ⟨rfl, B1⟩
set_option maxRecDepth 100000 in
set_option maxHeartbeats 1000000 in
theorem patn13 (b : Nat) (da : Option Addr) (dc : Nat) (aa : Option Addr) (ac gb gr n : Nat) (z : List Int) (A : List Nat) (r : Int) (w : World) (h : Ix13 w b da dc aa ac gb gr n z A) (hb : -9223372036854775808 ≤ r ∧ r ≤ 9223372036854775807) (hr : ¬ (0 ≤ r ∧ r < (n : Int))) :
    Calls Try.prog 26 #[.pointer (some ⟨b, 0, none⟩), .int .i64 r] w fun e w' => e = .returned (.tuple #[.int .i64 0, .int .i64 132]) ∧ Below w.heap.size w w' := by
  have B1 : Below w.heap.size w (w.alloc (.cells #[.int .i64 r] 3)) := (Below.refl _ _).alloc (Nat.le_refl _) _
  have HR := pref13 b da dc aa ac gb gr n z A (some ⟨w.heap.size, 0, none⟩) [r] 1 1 _ (h.old B1) (segZ_lit13 w _ hb) (rfl : _ = _) (by omega)
  rw [er13_one, if_neg hr] at HR
  clear h hr
  go_enter Try.func26, Try.ntmps26
  go_wp2_with (first
    | (go_at_call 41; refine HR.mono ?_; rintro e1 w2 ⟨rfl, hw1⟩; rw [← hw1] at B1; clear hw1))
  refine bodyPost_ret (results_tmp2 rfl _ _ _) rfl ?_
  exact ⟨rfl, B1⟩
set_option maxRecDepth 100000 in
set_option maxHeartbeats 1000000 in
theorem prank13 (b : Nat) (da : Option Addr) (dc : Nat) (aa : Option Addr) (ac gb gr n : Nat) (z : List Int) (A : List Nat) (j : Nat) (w : World) (h : Ix13 w b da dc aa ac gb gr n z A) (hr : j < n) :
    Calls Try.prog 31 #[.pointer (some ⟨b, 0, none⟩), .int .i64 (j : Int)] w fun e w' => e = .returned (.tuple #[.int .i64 ((rk13 A j : Nat) : Int), .int .i64 0]) ∧ Below w.heap.size w w' := by
  have hn24 := h.n24
  have B1 : Below w.heap.size w (w.alloc (.cells #[.int .i64 (j : Int)] 3)) := (Below.refl _ _).alloc (Nat.le_refl _) _
  have h1 := h.old B1
  have HR := pref13 b da dc aa ac gb gr n z A (some ⟨w.heap.size, 0, none⟩) [(j : Int)] 1 1 _ h1 (segZ_lit13 w _ (by omega)) (rfl : _ = _) (by omega)
  rw [er13_one, if_pos (by omega)] at HR
  have HC1 : Hid (∀ W, Below w.heap.size w W → W.cell? ⟨b, 2, none⟩ = some (.func (.func 50) #[] #[.pointer (some ⟨gb, 0, none⟩)]) ∧ Calls Try.prog 50 #[.int .i64 (j : Int), .pointer (some ⟨gb, 0, none⟩)] W fun e w' => e = .returned (.int .i64 ((rk13 A j : Nat) : Int)) ∧ w' = W) := fun W hW => ⟨(h.old hW).c2, pclo13 gb gr n A (S12 z) j _ (h.old hW).rk hr hn24 h.ar⟩
  clear h h1
  go_enter Try.func31, Try.ntmps31
  go_wp2_with (first
    | (go_at_call 41; refine HR.mono ?_; rintro e1 w2 ⟨rfl, hw1⟩; rw [← hw1] at B1; clear hw1; obtain ⟨c2, HK⟩ := HC1.out w2 B1))
  refine HK.mono ?_
  rintro e3 w3 ⟨rfl, hw3⟩
  subst hw3
  go_wp2_with fail
  refine bodyPost_ret (results_tmp2 rfl _ _ _) rfl ?_
  exact ⟨rfl, B1⟩
set_option maxRecDepth 100000 in
set_option maxHeartbeats 1000000 in
theorem prankn13 (b : Nat) (da : Option Addr) (dc : Nat) (aa : Option Addr) (ac gb gr n : Nat) (z : List Int) (A : List Nat) (r : Int) (w : World) (h : Ix13 w b da dc aa ac gb gr n z A) (hb : -9223372036854775808 ≤ r ∧ r ≤ 9223372036854775807) (hr : ¬ (0 ≤ r ∧ r < (n : Int))) :
    Calls Try.prog 31 #[.pointer (some ⟨b, 0, none⟩), .int .i64 r] w fun e w' => e = .returned (.tuple #[.int .i64 0, .int .i64 132]) ∧ Below w.heap.size w w' := by
  have B1 : Below w.heap.size w (w.alloc (.cells #[.int .i64 r] 3)) := (Below.refl _ _).alloc (Nat.le_refl _) _
  have HR := pref13 b da dc aa ac gb gr n z A (some ⟨w.heap.size, 0, none⟩) [r] 1 1 _ (h.old B1) (segZ_lit13 w _ hb) (rfl : _ = _) (by omega)
  rw [er13_one, if_neg hr] at HR
  clear h hr
  go_enter Try.func31, Try.ntmps31
  go_wp2_with (first
    | (go_at_call 41; refine HR.mono ?_; rintro e1 w2 ⟨rfl, hw1⟩; rw [← hw1] at B1; clear hw1))
  refine bodyPost_ret (results_tmp2 rfl _ _ _) rfl ?_
  exact ⟨rfl, B1⟩
end Go.Proofs.Ytkpfailmmcelcaa

namespace Go.Proofs.Ytkpfailmmcelcaa
set_option linter.unusedVariables false

/-! Strings by their order; the order by counting (layer 13), as mathematics. -/
theorem u8_lt13 {x y : Int} (hx : 0 ≤ x ∧ x ≤ 255) (hy : 0 ≤ y ∧ y ≤ 255) : UInt8.ofNat x.toNat < UInt8.ofNat y.toNat ↔ x < y := by
  rw [UInt8.lt_iff_toNat_lt, UInt8.toNat_ofNat', UInt8.toNat_ofNat']
  rw [Nat.mod_eq_of_lt (by omega), Nat.mod_eq_of_lt (by omega)]
  omega
theorem u8_eq13 {x y : Int} (hx : 0 ≤ x ∧ x ≤ 255) (hy : 0 ≤ y ∧ y ≤ 255) : UInt8.ofNat x.toNat = UInt8.ofNat y.toNat ↔ x = y := by
  constructor
  · intro h
    have := congrArg UInt8.toNat h
    rw [UInt8.toNat_ofNat', UInt8.toNat_ofNat', Nat.mod_eq_of_lt (by omega), Nat.mod_eq_of_lt (by omega)] at this
    omega
  · intro h; rw [h]
theorem bl13 : ∀ (a b : List Int), (∀ y ∈ a, 0 ≤ y ∧ y ≤ 255) → (∀ y ∈ b, 0 ≤ y ∧ y ≤ 255) → (Op.bytesLess (Lib.bytesOf a) (Lib.bytesOf b) = true ↔ LL12 a b)
  | [], [], _, _ => ⟨fun h => by simp [Lib.bytesOf, Op.bytesLess] at h, fun h => h.no.elim⟩
  | _ :: _, [], _, _ => ⟨fun h => by simp [Lib.bytesOf, Op.bytesLess] at h, fun h => h.no.elim⟩
  | [], _ :: _, _, _ => ⟨fun _ => .nil, fun _ => by simp [Lib.bytesOf, Op.bytesLess]⟩
  | x :: a, y :: b, ha, hb => by
    have hx := ha x (by simp)
    have hy := hb y (by simp)
    have ih := bl13 a b (fun z hz => ha z (by simp [hz])) (fun z hz => hb z (by simp [hz]))
    have e : Op.bytesLess (Lib.bytesOf (x :: a)) (Lib.bytesOf (y :: b)) = (decide (UInt8.ofNat x.toNat < UInt8.ofNat y.toNat) || (UInt8.ofNat x.toNat == UInt8.ofNat y.toNat && Op.bytesLess (Lib.bytesOf a) (Lib.bytesOf b))) := rfl
    rw [e, Bool.or_eq_true, decide_eq_true_eq, Bool.and_eq_true, beq_iff_eq, u8_lt13 hx hy, u8_eq13 hx hy, ih]
    constructor
    · rintro (h | ⟨rfl, h⟩)
      · exact .lt h
      · exact .eq h
    · intro h
      exact h.inv
theorem sl13 {a b : List Int} (ha : ∀ y ∈ a, 0 ≤ y ∧ y ≤ 255) (hb : ∀ y ∈ b, 0 ≤ y ∧ y ≤ 255) (h : LL12 a b) : Op.bytesLess (strOfNums a).toList (strOfNums b).toList = true := by
  rw [Lib.strOfNums_toList, Lib.strOfNums_toList]
  exact (bl13 a b ha hb).2 h
theorem sln13 {a b : List Int} (ha : ∀ y ∈ a, 0 ≤ y ∧ y ≤ 255) (hb : ∀ y ∈ b, 0 ≤ y ∧ y ≤ 255) (h : ¬ LL12 a b) : Op.bytesLess (strOfNums a).toList (strOfNums b).toList = false := by
  rw [Lib.strOfNums_toList, Lib.strOfNums_toList]
  exact Bool.eq_false_iff.2 fun k => h ((bl13 a b ha hb).1 k)
/-- How many of the first suffixes are less than a suffix. -/
noncomputable def ct13 (z : List Int) (i k : Nat) : Nat := cn12 (fun j => LL12 (z.drop j) (z.drop i)) k
theorem ct13_yes {z : List Int} {i k : Nat} (h : LL12 (z.drop k) (z.drop i)) : ct13 z i (k + 1) = ct13 z i k + 1 := by
  unfold ct13
  show cn12 _ k + _ = _
  rw [if_pos h]
theorem ct13_no {z : List Int} {i k : Nat} (h : ¬ LL12 (z.drop k) (z.drop i)) : ct13 z i (k + 1) = ct13 z i k := by
  unfold ct13
  show cn12 _ k + _ = _
  rw [if_neg h]
  rfl
theorem ct13_le (z : List Int) (i : Nat) : ∀ k, ct13 z i k ≤ k
  | 0 => Nat.le_refl _
  | k + 1 => by
    have := ct13_le z i k
    by_cases h : LL12 (z.drop k) (z.drop i)
    · rw [ct13_yes h]; omega
    · rw [ct13_no h]; omega
theorem take13 {n : Nat} {S : Nat → Int} {A : List Nat} (h : Ar12 n S A) : ∀ r, r ≤ n → cn12 (fun j => j ∈ A.take r) n = r
  | 0, _ => cn12_none fun i _ => by simp
  | r + 1, hr => by
    have hl : r < A.length := by rw [h.len]; omega
    have e : A.take (r + 1) = A.take r ++ [A.getD r 0] := by rw [List.take_add_one]; simp [List.getD, hl]
    have h1 := take13 h r (by omega)
    have h2 := cn12_upd (P := fun j => j ∈ A.take r) (Q := fun j => j ∈ A.take (r + 1)) (n := n) (j := A.getD r 0) (h.get (by omega)) (fun hm => by
      obtain ⟨q, hq, e2⟩ := List.mem_iff_getElem.1 hm
      rw [List.length_take] at hq
      rw [List.getElem_take] at e2
      have hq2 : q < A.length := by omega
      have e3 : A.getD q 0 = A.getD r 0 := by rw [← e2]; simp [List.getD, hq2]
      have := h.inj (r := q) (q := r) (by omega) (by omega) e3
      omega) (fun i _ => by rw [e]; simp)
    rw [h2, h1]
theorem ct13_rk {z : List Int} {A : List Nat} (h : Ar12 z.length (S12 z) A) {i : Nat} (hi : i < z.length) : ct13 z i z.length = rk13 A i := by
  obtain ⟨h1, h2⟩ := h.rk hi
  rw [← take13 h (rk13 A i) (by omega)]
  unfold ct13
  refine cn12_congr fun j hj => ?_
  obtain ⟨g1, g2⟩ := h.rk hj
  constructor
  · intro k
    have k2 := ll_ls13 _ j i (Nat.le_add_left _ _) k
    have hlt : rk13 A j < rk13 A i := by
      rcases Nat.lt_trichotomy (rk13 A j) (rk13 A i) with c | c | c
      · exact c
      · have : j = i := by rw [← g2, ← h2, c]
        rw [this] at k2; exact k2.irrefl.elim
      · have := h.pair c g1; rw [g2, h2] at this; exact (k2.asymm this).elim
    rw [List.mem_iff_getElem]
    have hl : rk13 A j < A.length := by rw [h.len]; exact g1
    refine ⟨rk13 A j, by rw [List.length_take]; omega, ?_⟩
    rw [List.getElem_take]
    have : A.getD (rk13 A j) 0 = A[rk13 A j] := by simp [List.getD, hl]
    rw [← this, g2]
  · intro k
    obtain ⟨q, hq, e2⟩ := List.mem_iff_getElem.1 k
    rw [List.length_take] at hq
    rw [List.getElem_take] at e2
    have hq2 : q < A.length := by omega
    have e3 : A.getD q 0 = j := by rw [← e2]; simp [List.getD, hq2]
    have := h.pair (r := q) (q := rk13 A i) (by omega) h1
    rw [e3, h2] at this
    exact ls_ll13 this
/-- The array, of which so many places are put in. -/
def ap13 (n : Nat) (A : List Nat) (k : Nat) : List Int := (List.range n).map fun r => if A.getD r 0 < k then ((A.getD r 0 : Nat) : Int) else 0
theorem ap13_len (n : Nat) (A : List Nat) (k : Nat) : (ap13 n A k).length = n := by simp [ap13]
theorem ap13_zero (n : Nat) (A : List Nat) : ap13 n A 0 = List.replicate n 0 := by
  refine List.ext_getElem (by simp [ap13]) fun i h1 h2 => ?_
  simp [ap13]
theorem ap13_all {n : Nat} {S : Nat → Int} {A : List Nat} (h : Ar12 n S A) : ap13 n A n = A.map (fun j : Nat => (j : Int)) := by
  refine List.ext_getElem (by simp [ap13, h.len]) fun i h1 h2 => ?_
  simp [ap13] at h1
  have hl : i < A.length := by rw [h.len]; exact h1
  have := h.get h1
  simp only [ap13, List.getElem_map, List.getElem_range]
  rw [if_pos this]
  simp [List.getD, hl]
theorem ap13_set {n : Nat} {S : Nat → Int} {A : List Nat} (h : Ar12 n S A) {j : Nat} (hj : j < n) : (ap13 n A j).set (rk13 A j) (j : Int) = ap13 n A (j + 1) := by
  obtain ⟨h1, h2⟩ := h.rk hj
  refine List.ext_getElem (by simp [ap13]) fun i h3 h4 => ?_
  simp [ap13] at h4
  rw [List.getElem_set]
  by_cases e : rk13 A j = i
  · rw [if_pos e]
    subst e
    simp only [ap13, List.getElem_map, List.getElem_range]
    rw [if_pos (by omega), h2]
  · rw [if_neg e]
    simp only [ap13, List.getElem_map, List.getElem_range]
    have : A.getD i 0 ≠ j := by
      intro c
      exact e (h.inj h1 h4 (by rw [h2, c]))
    by_cases c : A.getD i 0 < j
    · rw [if_pos c, if_pos (by omega)]
    · rw [if_neg c, if_neg (by omega)]
/-- What neighbours have in common, of which so many ranks are told. -/
def lq13 (z : List Int) (A : List Nat) (k : Nat) : List Int := (List.range z.length).map fun r => if r < k then ((lv13 z A r : Nat) : Int) else 0
theorem lq13_len (z : List Int) (A : List Nat) (k : Nat) : (lq13 z A k).length = z.length := by simp [lq13]
theorem lq13_one (z : List Int) (A : List Nat) : lq13 z A 1 = List.replicate z.length 0 := by
  refine List.ext_getElem (by simp [lq13]) fun i h1 h2 => ?_
  simp only [lq13, List.getElem_map, List.getElem_range, List.getElem_replicate]
  by_cases c : i < 1
  · rw [if_pos c]
    have : i = 0 := by omega
    subst this
    rfl
  · rw [if_neg c]
theorem lq13_all {z : List Int} {A : List Nat} {k : Nat} (h : z.length ≤ k) : lq13 z A k = lp13 z A := by
  refine List.ext_getElem (by simp [lq13, lp13]) fun i h1 h2 => ?_
  simp [lq13] at h1
  simp only [lq13, lp13, List.getElem_map, List.getElem_range]
  rw [if_pos (by omega)]
theorem lq13_set {z : List Int} {A : List Nat} {k : Nat} (h : k < z.length) : (lq13 z A k).set k ((lv13 z A k : Nat) : Int) = lq13 z A (k + 1) := by
  refine List.ext_getElem (by simp [lq13]) fun i h1 h2 => ?_
  simp only [lq13, List.getElem_set, List.getElem_map, List.getElem_range]
  by_cases c : k = i
  · subst c
    rw [if_pos rfl, if_pos (by omega)]
  · rw [if_neg c]
    by_cases d : i < k
    · rw [if_pos d, if_pos (by omega)]
    · rw [if_neg d, if_neg (by omega)]
end Go.Proofs.Ytkpfailmmcelcaa

namespace Go.Proofs.Ytkpfailmmcelcaa
set_option linter.unusedVariables false

/-! How a suffix stands to a text, as mathematics (split off SuI1). -/
theorem ll_iff13 : ∀ (X p : List Int), ¬ lc13 X p = p.length → (LL12 X p ↔ (lc13 X p = X.length ∨ X.getD (lc13 X p) 0 < p.getD (lc13 X p) 0))
  | [], [], h => by simp [lc13] at h
  | _ :: _, [], h => by simp [lc13] at h
  | [], y :: p, h => ⟨fun _ => Or.inl (by simp [lc13]), fun _ => .nil⟩
  | x :: X, y :: p, h => by
    unfold lc13 at h ⊢
    by_cases e : x = y
    · subst e
      rw [if_pos rfl] at h ⊢
      have ih := ll_iff13 X p (by simpa using h)
      constructor
      · intro k
        rcases k.inv with k | ⟨_, k⟩
        · omega
        · rcases ih.1 k with c | c
          · exact Or.inl (by simp [c])
          · exact Or.inr (by simpa [List.getD] using c)
      · intro k
        refine .eq (ih.2 ?_)
        rcases k with c | c
        · exact Or.inl (by simpa using c)
        · exact Or.inr (by simpa [List.getD] using c)
    · rw [if_neg e]
      constructor
      · intro k
        rcases k.inv with k | ⟨k, _⟩
        · exact Or.inr (by simpa [List.getD] using k)
        · exact absurd k e
      · intro k
        rcases k with c | c
        · simp at c
        · exact .lt (by simpa [List.getD] using c)
open Classical in
noncomputable def cv13 (X p : List Int) : Int := if lc13 X p = p.length then 0 else if LL12 X p then -1 else 1
theorem cv13_zero {X p : List Int} (h : lc13 X p = p.length) : cv13 X p = 0 := by unfold cv13; rw [if_pos h]
theorem cv13_less {X p : List Int} (h : ¬ lc13 X p = p.length) (k : LL12 X p) : cv13 X p = -1 := by unfold cv13; rw [if_neg h, if_pos k]
theorem cv13_more {X p : List Int} (h : ¬ lc13 X p = p.length) (k : ¬ LL12 X p) : cv13 X p = 1 := by unfold cv13; rw [if_neg h, if_neg k]
end Go.Proofs.Ytkpfailmmcelcaa

namespace Go.Proofs.Ytkpfailmmcelcaa
open Go.RowKit
set_option linter.unusedVariables false

/-! The landed Compare. -/
set_option maxRecDepth 100000 in
set_option maxHeartbeats 4000000 in
theorem pcmp13 (b : Nat) (da : Option Addr) (dc : Nat) (aa : Option Addr) (ac gb gr n : Nat) (z : List Int) (A : List Nat) (i : Nat) (pa : Option Addr) (p : List Int) (m pc : Nat) (w : World) (h : Ix13 w b da dc aa ac gb gr n z A) (hp : Seg w pa p) (hm : Hid (p.length = m)) (hmb : m ≤ 9223372036854775807) (hi : i < n) :
    Calls Try.prog 51 #[.pointer (some ⟨b, 0, none⟩), .int .i64 (i : Int), .slice pa m pc] w fun e w' => e = .returned (.tuple #[.int .i64 (cv13 (z.drop i) p), .int .i64 ((lc13 (z.drop i) p : Nat) : Int), .int .i64 0]) ∧ Below w.heap.size w w' := by
  have hn24 := h.n24
  have B1 : Below w.heap.size w (w.alloc (.cells #[.int .i64 (i : Int)] 3)) := (Below.refl _ _).alloc (Nat.le_refl _) _
  have HR := pref13 b da dc aa ac gb gr n z A (some ⟨w.heap.size, 0, none⟩) [(i : Int)] 1 1 _ (h.old B1) (segZ_lit13 w _ (by omega)) (rfl : _ = _) (by omega)
  rw [er13_one, if_pos (by omega)] at HR
  obtain ⟨xb, off, rfl, c3⟩ := h.dat.at_ i (by rw [h.len]; exact hi)
  have hln : Hid (z.length = n) := h.len
  have HC1 : Hid (∀ W, Below w.heap.size w W → W.cell? ⟨b, 0, none⟩ = some (.slice (some ⟨xb, off, none⟩) n dc) ∧ Seg W (some ⟨xb, off + i, none⟩) (z.drop i) ∧ Seg W pa p) := fun W hW => ⟨(h.old hW).c0, (h.old hW).dat.drop i, hp.old hW⟩
  have HSM : Hid (∀ W, Below w.heap.size w W → Calls Try.prog 56 #[.slice (some ⟨xb, off + i, none⟩) (n - i) (dc - i), .slice pa m pc, .int .i64 0] W fun e w' => e = .returned (.int .i64 ((lc13 (z.drop i) p : Nat) : Int)) ∧ ∃ d, w' = W.drewN d) := fun W hW =>
    psame13 _ (z.drop i) (n - i) _ pa p m pc 0 W (HC1.out W hW).2.1 (HC1.out W hW).2.2 (by show _ = _; rw [List.length_drop, hln.out]) hm (by omega) hmb (Nat.zero_le _)
  have hii : (i : Int) < (n : Int) := by omega
  have hdc := h.dle
  have l1 : i ≤ n := by omega
  have l3 : ¬ dc = i := by omega
  have HDL : Hid ((z.drop i).length = n - i) := by show _ = _; rw [List.length_drop, hln.out]
  have HLX : Hid (lc13 (z.drop i) p ≤ n - i ∧ lc13 (z.drop i) p ≤ m) := ⟨by rw [← HDL.out]; exact lc13_le _ _, by rw [← hm.out]; exact lc13_le' _ _⟩
  clear h hp c3
  generalize hX : z.drop i = X at *
  clear hX
  have HIFF : Hid (¬ lc13 X p = m → (LL12 X p ↔ (lc13 X p = n - i ∨ X.getD (lc13 X p) 0 < p.getD (lc13 X p) 0))) := fun h => by
    have := ll_iff13 X p (by rw [hm.out]; exact h)
    rw [HDL.out] at this
    exact this
  by_cases h1 : lc13 X p = m
  · have HV : Hid (cv13 X p = 0) := cv13_zero (by rw [hm.out]; exact h1)
    rw [HV.out]
    rw [h1] at HSM ⊢
    clear h1 HIFF HLX
    go_enter Try.func51, Try.ntmps51
    go_wp2_with (first
      | (go_at_call 41; refine HR.mono ?_; rintro e1 w2 ⟨rfl, hw1⟩; rw [← hw1] at B1; clear hw1 HR; obtain ⟨c0, -, -⟩ := HC1.out w2 B1)
      | (go_at_call 56; refine (HSM.out w2 B1).mono ?_; rintro e2 w3 ⟨rfl, d, hd⟩; have B3 : Below w.heap.size w w3 := (by rw [hd]; exact B1.trans ⟨rfl, rfl, rfl, Nat.le_refl _, fun _ _ => rfl⟩); clear hd))
    go_ret3
    exact ⟨rfl, B3⟩
  · have h1i : ¬ ((lc13 X p : Nat) : Int) = (m : Int) := by omega
    have h1b : (((lc13 X p : Nat) : Int) == (m : Int)) = false := beq_eq_false_iff_ne.2 h1i
    have hlm : ((lc13 X p : Nat) : Int) < (m : Int) := by have := HLX.out; omega
    have HPC : Hid (∀ W, Below w.heap.size w W → ∃ pb po, pa = some ⟨pb, po, none⟩ ∧ W.cell? ⟨pb, po + lc13 X p, none⟩ = some (.int .u8 (p.getD (lc13 X p) 0)) ∧ 0 ≤ p.getD (lc13 X p) 0 ∧ p.getD (lc13 X p) 0 ≤ 255) := fun W hW => by
      obtain ⟨pb, po, q1, q2⟩ := (HC1.out W hW).2.2.at_ (lc13 X p) (by rw [hm.out]; omega)
      exact ⟨pb, po, q1, q2, (HC1.out W hW).2.2.bd _⟩
    obtain ⟨pb, po, rfl, -, pbd⟩ := HPC.out w (Below.refl _ _)
    have HPD : Hid (∀ W, Below w.heap.size w W → W.cell? ⟨pb, po + lc13 X p, none⟩ = some (.int .u8 (p.getD (lc13 X p) 0))) := fun W hW => by
      obtain ⟨pb', po', q1, q2, -⟩ := HPC.out W hW
      cases q1
      exact q2
    by_cases h3 : lc13 X p = n - i
    · have HV : Hid (cv13 X p = -1) := cv13_less (by rw [hm.out]; exact h1) ((HIFF.out h1).2 (Or.inl h3))
      rw [HV.out]
      have h3b : (((lc13 X p : Nat) : Int) == ((n - i : Nat) : Int)) = true := by rw [h3]; simp
      have h3c : ((lc13 X p : Nat) : Int) = ((n - i : Nat) : Int) := by omega
      clear h1 HIFF HLX HPC HPD
      generalize lc13 X p = v at *
      subst h3
      clear h3b h3c
      go_enter Try.func51, Try.ntmps51
      go_wp2_with (first
        | (go_at_call 41; refine HR.mono ?_; rintro e1 w2 ⟨rfl, hw1⟩; rw [← hw1] at B1; clear hw1 HR; obtain ⟨c0, -, -⟩ := HC1.out w2 B1)
        | (go_at_call 56; refine (HSM.out w2 B1).mono ?_; rintro e2 w3 ⟨rfl, d, hd⟩; have B3 : Below w.heap.size w w3 := (by rw [hd]; exact B1.trans ⟨rfl, rfl, rfl, Nat.le_refl _, fun _ _ => rfl⟩); clear hd))
      go_quiet (fail)
      go_wp2_with fail
      go_ret3
      exact ⟨rfl, B3.trans ⟨rfl, rfl, rfl, Nat.le_refl _, fun _ _ => rfl⟩⟩
    · have h3b : (((lc13 X p : Nat) : Int) == ((n - i : Nat) : Int)) = false := beq_eq_false_iff_ne.2 (by omega)
      have h3l : ((lc13 X p : Nat) : Int) < ((n - i : Nat) : Int) := by have := HLX.out; omega
      have HXD : Hid (∀ W, Below w.heap.size w W → W.cell? ⟨xb, off + i + lc13 X p, none⟩ = some (.int .u8 (X.getD (lc13 X p) 0)) ∧ 0 ≤ X.getD (lc13 X p) 0 ∧ X.getD (lc13 X p) 0 ≤ 255) := fun W hW => by
        obtain ⟨b', o', q1, q2⟩ := (HC1.out W hW).2.1.at_ (lc13 X p) (by rw [HDL.out]; have := HLX.out; omega)
        cases q1
        exact ⟨q2, (HC1.out W hW).2.1.bd _⟩
      have xbd := (HXD.out w (Below.refl _ _)).2
      have HCV : Hid (cv13 X p = if X.getD (lc13 X p) 0 < p.getD (lc13 X p) 0 then -1 else 1) := by
        show _ = _
        by_cases h4 : X.getD (lc13 X p) 0 < p.getD (lc13 X p) 0
        · rw [if_pos h4]; exact cv13_less (by rw [hm.out]; exact h1) ((HIFF.out h1).2 (Or.inr h4))
        · rw [if_neg h4]
          refine cv13_more (by rw [hm.out]; exact h1) fun k => ?_
          rcases (HIFF.out h1).1 k with c | c
          · exact h3 c
          · exact h4 c
      rw [HCV.out]
      clear h1 h3 HIFF HPC HCV
      have hvb : lc13 X p ≤ 16777216 := by have := HLX.out; omega
      clear HLX
      generalize X.getD (lc13 X p) 0 = x1 at *
      generalize p.getD (lc13 X p) 0 = y1 at *
      generalize lc13 X p = v at *
      by_cases h4 : x1 < y1
      · rw [if_pos h4]
        go_enter Try.func51, Try.ntmps51
        go_wp2_with (first
          | (go_at_call 41; refine HR.mono ?_; rintro e1 w2 ⟨rfl, hw1⟩; rw [← hw1] at B1; clear hw1 HR; obtain ⟨c0, -, -⟩ := HC1.out w2 B1)
          | (go_at_call 56; refine (HSM.out w2 B1).mono ?_; rintro e2 w3 ⟨rfl, d, hd⟩; have B3 : Below w.heap.size w w3 := (by rw [hd]; exact B1.trans ⟨rfl, rfl, rfl, Nat.le_refl _, fun _ _ => rfl⟩); clear hd; have c5 := (HXD.out w3 B3).1; have c6 := HPD.out w3 B3))
        go_quiet (fail)
        go_wp2_with fail
        go_ret3
        exact ⟨rfl, B3.trans ⟨rfl, rfl, rfl, Nat.le_refl _, fun _ _ => rfl⟩⟩
      · rw [if_neg h4]
        have h4b : decide (x1 < y1) = false := decide_eq_false h4
        go_enter Try.func51, Try.ntmps51
        go_wp2_with (first
          | (go_at_call 41; refine HR.mono ?_; rintro e1 w2 ⟨rfl, hw1⟩; rw [← hw1] at B1; clear hw1 HR; obtain ⟨c0, -, -⟩ := HC1.out w2 B1)
          | (go_at_call 56; refine (HSM.out w2 B1).mono ?_; rintro e2 w3 ⟨rfl, d, hd⟩; have B3 : Below w.heap.size w w3 := (by rw [hd]; exact B1.trans ⟨rfl, rfl, rfl, Nat.le_refl _, fun _ _ => rfl⟩); clear hd; have c5 := (HXD.out w3 B3).1; have c6 := HPD.out w3 B3))
        have h4c : decide (x1 < y1) = false := decide_eq_false (by omega)
        have h4d : ¬ x1 < y1 := by omega
        go_quiet (fail)
        go_wp2_with fail
        go_ret3
        exact ⟨rfl, B3.trans ⟨rfl, rfl, rfl, Nat.le_refl _, fun _ _ => rfl⟩⟩
set_option maxRecDepth 100000 in
set_option maxHeartbeats 1000000 in
theorem pcmpn13 (b : Nat) (da : Option Addr) (dc : Nat) (aa : Option Addr) (ac gb gr n : Nat) (z : List Int) (A : List Nat) (r : Int) (pa : Option Addr) (m pc : Nat) (w : World) (h : Ix13 w b da dc aa ac gb gr n z A) (hb : -9223372036854775808 ≤ r ∧ r ≤ 9223372036854775807) (hr : ¬ (0 ≤ r ∧ r < (n : Int))) :
    Calls Try.prog 51 #[.pointer (some ⟨b, 0, none⟩), .int .i64 r, .slice pa m pc] w fun e w' => e = .returned (.tuple #[.int .i64 0, .int .i64 0, .int .i64 132]) ∧ Below w.heap.size w w' := by
  have B1 : Below w.heap.size w (w.alloc (.cells #[.int .i64 r] 3)) := (Below.refl _ _).alloc (Nat.le_refl _) _
  have HR := pref13 b da dc aa ac gb gr n z A (some ⟨w.heap.size, 0, none⟩) [r] 1 1 _ (h.old B1) (segZ_lit13 w _ hb) (rfl : _ = _) (by omega)
  rw [er13_one, if_neg hr] at HR
  clear h hr
  go_enter Try.func51, Try.ntmps51
  go_wp2_with (first
    | (go_at_call 41; refine HR.mono ?_; rintro e1 w2 ⟨rfl, hw1⟩; rw [← hw1] at B1; clear hw1))
  go_ret3
  exact ⟨rfl, B1⟩
end Go.Proofs.Ytkpfailmmcelcaa
