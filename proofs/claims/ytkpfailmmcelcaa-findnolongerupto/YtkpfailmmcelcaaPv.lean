import Derived.Test.YtkpfailmmcelcaaPr
import Derived.Test.YtkpfailmmcelcaaPq
import Derived.Test.YtkpfailmmcelcaaPs
import Derived.Deep.RegionHeld3
namespace Go.Proofs.Ytkpfailmmcelcaa
open Go.RowKit
set_option linter.unusedVariables false

/-! Boxes that are made one behind the other. -/
theorem size_alloc15 (w : World) (o : Obj) : (w.alloc o).heap.size = w.heap.size + 1 := by simp
theorem cell_new15 (w : World) (v : Value) (t : TypeId) {k : Nat} (hk : k = w.heap.size) : (w.alloc (.cells #[v] t)).cell? ⟨k, 0, none⟩ = some v := by subst hk; rw [World.cell?_alloc_mark]; rfl
theorem cell_more15 {w : World} {k i : Nat} {v : Value} (o : Obj) (h : w.cell? ⟨k, i, none⟩ = some v) : (w.alloc o).cell? ⟨k, i, none⟩ = some v :=
  (((Below.refl w.heap.size w).alloc (Nat.le_refl _) o).cell (p := ⟨k, i, none⟩) (World.block_lt_of_cell? w _ h)).trans h
theorem heap_more15 {w : World} {k : Nat} {x : Obj} (o : Obj) (h : w.heap[k]? = some x) : (w.alloc o).heap[k]? = some x := by
  rw [heap_alloc_old _ _ (Array.getElem?_eq_some_iff.1 h).1]
  exact h
theorem heap_new15 (w : World) (o : Obj) {k : Nat} (hk : k = w.heap.size) : (w.alloc o).heap[k]? = some o := by subst hk; exact heap_alloc_new _ _
theorem below_alloc15 {w w' : World} (h : Below w.heap.size w w') (o : Obj) : Below w.heap.size w (w'.alloc o) := h.alloc h.size _

/-! Layer 14, pure: how many suffixes are less than what begins at each place of a text. -/
theorem drop_cons14 {z : List Int} {j : Nat} (h : j < z.length) : z.drop j = z.getD j 0 :: z.drop (j + 1) := by
  rw [List.drop_eq_getElem_cons h]
  simp [List.getD, h]
open Classical in
noncomputable def bk14 (z : List Int) (v : Int) : Nat := cn12 (fun j => z.getD j 0 < v) z.length
theorem lo_one14 (z : List Int) (v : Int) : lo14 z [v] = bk14 z v := by
  refine cn12_congr fun j hj => ?_
  rw [cq14_is, drop_cons14 hj]
  unfold cq14
  by_cases c : z.getD j 0 = v
  · rw [if_pos c, c]
    have e0 : cq14 (z.drop (j + 1)) [] = 0 := by cases z.drop (j + 1) <;> rfl
    rw [e0]; omega
  · rw [if_neg c]; split <;> omega
theorem hi_one14 (z : List Int) (v : Int) : hi14 z [v] = bk14 z (v + 1) := by
  refine cn12_congr fun j hj => ?_
  rw [cq14_is, drop_cons14 hj]
  unfold cq14
  by_cases c : z.getD j 0 = v
  · rw [if_pos c, c]
    have e0 : cq14 (z.drop (j + 1)) [] = 0 := by cases z.drop (j + 1) <;> rfl
    rw [e0]; omega
  · rw [if_neg c]; split <;> omega
theorem bk14_le (z : List Int) (v : Int) : bk14 z v ≤ z.length := cn12_bd14 _ _
theorem bk14_mono (z : List Int) (v : Int) : bk14 z v ≤ bk14 z (v + 1) := by rw [← lo_one14, ← hi_one14]; exact lo14_le_hi z [v]
theorem bk14_zero {z : List Int} (h : ∀ y ∈ z, 0 ≤ y ∧ y ≤ 255) : bk14 z 0 = 0 := by
  have e : bk14 z 0 = cn12 (fun _ => False) z.length := cn12_congr fun j hj => by
    have := h (z.getD j 0) (by simp [List.getD, hj])
    exact ⟨fun k => by omega, fun k => k.elim⟩
  rw [e]
  have : ∀ n, cn12 (fun _ => False) n = 0 := fun n => by
    induction n with
    | zero => rfl
    | succ n ih => show cn12 _ n + _ = 0; rw [ih, if_neg (fun h => h)]
  exact this _
/-- Of the suffix of a rank the rank of what stands behind its first byte. -/
def bh14 (n : Nat) (A : List Nat) (r : Nat) : Int := if A.getD r 0 + 1 < n then ((rk13 A (A.getD r 0 + 1) : Nat) : Int) else -1
noncomputable def th14 (z t : List Int) : Int := if t.length = 0 then -1 else ((lo14 z t : Nat) : Int)
theorem first14 {z : List Int} {A : List Nat} (hA : Ar12 z.length (S12 z) A) {v : Int} {r : Nat} (h1 : bk14 z v ≤ r) (h2 : r < bk14 z (v + 1)) : r < z.length ∧ z.drop (A.getD r 0) = v :: z.drop (A.getD r 0 + 1) := by
  have hr : r < z.length := Nat.lt_of_lt_of_le h2 (bk14_le _ _)
  have hj := hA.get hr
  have k1 := lo14_iff hA [v] hr
  have k2 := hi14_iff hA [v] hr
  rw [lo_one14] at k1
  rw [hi_one14] at k2
  have e : cv13 (z.drop (A.getD r 0)) [v] = 0 := by
    have a := k2.2 h2
    have b : ¬ cv13 (z.drop (A.getD r 0)) [v] < 0 := fun h => by have := k1.1 h; omega
    omega
  refine ⟨hr, ?_⟩
  rw [cq14_is, drop_cons14 hj] at e
  unfold cq14 at e
  by_cases c : z.getD (A.getD r 0) 0 = v
  · rw [drop_cons14 hj, c]
  · rw [if_neg c] at e; split at e <;> omega
theorem ahead14 {z : List Int} {A : List Nat} (hA : Ar12 z.length (S12 z) A) {v : Int} {t : List Int} {r : Nat} (h1 : bk14 z v ≤ r) (h2 : r < bk14 z (v + 1)) : bh14 z.length A r < th14 z t ↔ r < lo14 z (v :: t) := by
  obtain ⟨hr, hd⟩ := first14 hA h1 h2
  have hj := hA.get hr
  rw [← lo14_iff hA (v :: t) hr, hd, cq14_is]
  have e : cq14 (v :: z.drop (A.getD r 0 + 1)) (v :: t) = cq14 (z.drop (A.getD r 0 + 1)) t := by
    show (if v = v then _ else _) = _
    rw [if_pos rfl]
  rw [e, ← cq14_is]
  unfold bh14 th14
  by_cases c : A.getD r 0 + 1 < z.length
  · rw [if_pos c]
    obtain ⟨r1, r2⟩ := hA.rk c
    have k := lo14_iff hA t r1
    rw [r2] at k
    rw [k]
    by_cases ht : t.length = 0
    · rw [if_pos ht]
      have : t = [] := List.eq_nil_of_length_eq_zero ht
      subst this
      constructor
      · intro h; omega
      · intro h
        have := k.2 h
        rw [cq14_is] at this
        have e0 : cq14 (z.drop (A.getD r 0 + 1)) [] = 0 := by cases z.drop (A.getD r 0 + 1) <;> rfl
        omega
    · rw [if_neg ht]; omega
  · rw [if_neg c, List.drop_eq_nil_of_le (by omega)]
    cases t with
    | nil => simp; rw [cq14_is]; simp [cq14]
    | cons y t =>
      rw [cq14_is]
      have e0 : cq14 [] (y :: t) = -1 := rfl
      rw [e0, if_neg (by simp)]
      omega
theorem bound_lo14 (z : List Int) (v : Int) (t : List Int) : bk14 z v ≤ lo14 z (v :: t) ∧ lo14 z (v :: t) ≤ bk14 z (v + 1) := by
  have h1 := lo14_take z (v :: t) 1
  have h2 := hi14_take z (v :: t) 1
  rw [show (v :: t).take 1 = [v] from rfl] at h1 h2
  rw [lo_one14] at h1
  rw [hi_one14] at h2
  exact ⟨h1, h2⟩
theorem lc_tail14 {X t : List Int} {c : Int} {k : Nat} (h : lc13 X (c :: t) = k + 1) : ∃ s, X = c :: s ∧ lc13 s t = k := by
  cases X with
  | nil => rw [lc13_nil] at h; omega
  | cons x s =>
    by_cases e : x = c
    · rw [lc13, if_pos e] at h
      exact ⟨s, by rw [e], by omega⟩
    · rw [lc13, if_neg e] at h; omega
/-- Without its first byte a text has with its neighbours one less in common, at most. -/
theorem near_lo_step14 {z : List Int} {A : List Nat} (hA : Ar12 z.length (S12 z) A) (c : Int) (t : List Int) : (if lo14 z (c :: t) = 0 then 0 else lc13 (z.drop (A.getD (lo14 z (c :: t) - 1) 0)) (c :: t)) - 1 ≤ (if lo14 z t = 0 then 0 else lc13 (z.drop (A.getD (lo14 z t - 1) 0)) t) := by
  by_cases h0 : lo14 z (c :: t) = 0
  · rw [if_pos h0]; omega
  · rw [if_neg h0]
    have hb := lo14_le z (c :: t)
    generalize hu : lc13 (z.drop (A.getD (lo14 z (c :: t) - 1) 0)) (c :: t) = u
    by_cases h1 : u ≤ 1
    · omega
    · obtain ⟨k, rfl⟩ : ∃ k, u = k + 2 := ⟨u - 2, by omega⟩
      have hr : lo14 z (c :: t) - 1 < z.length := by omega
      obtain ⟨s, hs, hl⟩ := lc_tail14 (k := k + 1) hu
      have hlt : LL12 (z.drop (A.getD (lo14 z (c :: t) - 1) 0)) (c :: t) := cv13_neg_iff.1 ((lo14_iff hA (c :: t) hr).2 (by omega))
      have hj := hA.get hr
      have hd := drop_cons14 hj
      rw [hs] at hd
      injection hd with e1 e2
      have hj1 : A.getD (lo14 z (c :: t) - 1) 0 + 1 < z.length := by
        rcases Nat.lt_or_ge (A.getD (lo14 z (c :: t) - 1) 0 + 1) z.length with g | g
        · exact g
        · rw [List.drop_eq_nil_of_le g] at e2
          rw [e2, lc13_nil] at hl
          omega
      obtain ⟨r1, r2⟩ := hA.rk hj1
      rw [hs] at hlt
      have hst : LL12 s t := by
        cases hlt with
        | lt h => omega
        | eq h => exact h
      have hrk : rk13 A (A.getD (lo14 z (c :: t) - 1) 0 + 1) < lo14 z t := (lo14_iff hA t r1).1 (by rw [r2, ← e2]; exact cv13_neg_iff.2 hst)
      have := near_lo14 hA t hrk
      rw [r2, ← e2, hl] at this
      rw [if_neg (by omega)]
      omega
theorem near_hi_step14 {z : List Int} {A : List Nat} (hA : Ar12 z.length (S12 z) A) (c : Int) (t : List Int) : (if lo14 z (c :: t) < z.length then lc13 (z.drop (A.getD (lo14 z (c :: t)) 0)) (c :: t) else 0) - 1 ≤ (if lo14 z t < z.length then lc13 (z.drop (A.getD (lo14 z t) 0)) t else 0) := by
  by_cases h0 : lo14 z (c :: t) < z.length
  · rw [if_pos h0]
    generalize hu : lc13 (z.drop (A.getD (lo14 z (c :: t)) 0)) (c :: t) = u
    by_cases h1 : u ≤ 1
    · omega
    · obtain ⟨k, rfl⟩ : ∃ k, u = k + 2 := ⟨u - 2, by omega⟩
      obtain ⟨s, hs, hl⟩ := lc_tail14 (k := k + 1) hu
      have hlt : ¬ LL12 (z.drop (A.getD (lo14 z (c :: t)) 0)) (c :: t) := fun h => by
        have := (lo14_iff hA (c :: t) h0).1 (cv13_neg_iff.2 h)
        omega
      have hj := hA.get h0
      have hd := drop_cons14 hj
      rw [hs] at hd
      injection hd with e1 e2
      have hj1 : A.getD (lo14 z (c :: t)) 0 + 1 < z.length := by
        rcases Nat.lt_or_ge (A.getD (lo14 z (c :: t)) 0 + 1) z.length with g | g
        · exact g
        · rw [List.drop_eq_nil_of_le g] at e2
          rw [e2, lc13_nil] at hl
          omega
      obtain ⟨r1, r2⟩ := hA.rk hj1
      rw [hs] at hlt
      have hst : ¬ LL12 s t := fun h => hlt (.eq h)
      have hrk : lo14 z t ≤ rk13 A (A.getD (lo14 z (c :: t)) 0 + 1) := by
        rcases Nat.lt_or_ge (rk13 A (A.getD (lo14 z (c :: t)) 0 + 1)) (lo14 z t) with g | g
        · have := (lo14_iff hA t r1).2 g
          rw [r2, ← e2] at this
          exact absurd (cv13_neg_iff.1 this) hst
        · exact g
      have := near_hi14 hA t hrk r1
      rw [r2, ← e2, hl] at this
      rw [if_pos (by omega)]
      omega
  · rw [if_neg h0]; omega

/-! The landed find: behind, less's closure, bound over ints. -/
theorem IX14.rankn {w : World} {b n : Nat} {z : List Int} {A : List Nat} (h : IX14 w b n z A) {r : Int} (hb : -9223372036854775808 ≤ r ∧ r ≤ 9223372036854775807) (hr : ¬ (0 ≤ r ∧ r < (n : Int))) :
    Calls Try.prog 31 #[.pointer (some ⟨b, 0, none⟩), .int .i64 r] w fun e w' => e = .returned (.tuple #[.int .i64 0, .int .i64 132]) ∧ Below w.heap.size w w' := by
  obtain ⟨da, dc, aa, ac, gb, gr, h⟩ := h
  exact prankn13 b da dc aa ac gb gr n z A r w h hb hr
set_option maxRecDepth 100000 in
set_option maxHeartbeats 1000000 in
theorem pbeh14 (b n : Nat) (z : List Int) (A : List Nat) (r : Nat) (w : World) (h : IX14 w b n z A) (hr : r < n) :
    Calls Try.prog 44 #[.pointer (some ⟨b, 0, none⟩), .int .i64 (r : Int)] w fun e w' => e = .returned (.int .i64 (bh14 n A r)) ∧ Below w.heap.size w w' := by
  have HA := h.at_ hr
  have hn24 := h.n24
  have hat := h.ar.get hr
  unfold bh14
  by_cases c : A.getD r 0 + 1 < n
  · rw [if_pos c]
    have HR : Hid (∀ W, Below w.heap.size w W → Calls Try.prog 31 #[.pointer (some ⟨b, 0, none⟩), .int .i64 ((A.getD r 0 + 1 : Nat) : Int)] W fun e w' => e = .returned (.tuple #[.int .i64 ((rk13 A (A.getD r 0 + 1) : Nat) : Int), .int .i64 0]) ∧ Below w.heap.size w w') := fun W hb => ((h.old hb).rank c).mono fun e w' ⟨he, hB⟩ => ⟨he, hb.trans (hB.mono hb.size)⟩
    obtain ⟨s, hs⟩ : ∃ s, s = A.getD r 0 + 1 := ⟨_, rfl⟩
    have hsi : ((A.getD r 0 : Nat) : Int) + 1 = (s : Int) := by omega
    have hsn : s ≤ n := by omega
    rw [← hs] at HR ⊢
    clear h hs c
    generalize rk13 A s = k at *
    generalize A.getD r 0 = at0 at *
    go_enter Try.func44, Try.ntmps44
    go_wp2_with (first
      | (go_at_call 26; refine HA.mono ?_; rintro e1 w1 ⟨rfl, B1⟩)
      | (go_at_call 31; refine (HR.out w1 B1).mono ?_; rintro e2 w2 ⟨rfl, B2⟩))
    go_ret
    exact ⟨rfl, B2⟩
  · rw [if_neg c]
    have HR : Hid (∀ W, Below w.heap.size w W → Calls Try.prog 31 #[.pointer (some ⟨b, 0, none⟩), .int .i64 ((A.getD r 0 + 1 : Nat) : Int)] W fun e w' => e = .returned (.tuple #[.int .i64 0, .int .i64 132]) ∧ Below w.heap.size w w') := fun W hb => ((h.old hb).rankn (by omega) (by omega)).mono fun e w' ⟨he, hB⟩ => ⟨he, hb.trans (hB.mono hb.size)⟩
    obtain ⟨s, hs⟩ : ∃ s, s = A.getD r 0 + 1 := ⟨_, rfl⟩
    have hsi : ((A.getD r 0 : Nat) : Int) + 1 = (s : Int) := by omega
    have hsn : s ≤ n := by omega
    rw [← hs] at HR
    clear h hs c
    generalize A.getD r 0 = at0 at *
    go_enter Try.func44, Try.ntmps44
    go_wp2_with (first
      | (go_at_call 26; refine HA.mono ?_; rintro e1 w1 ⟨rfl, B1⟩)
      | (go_at_call 31; refine (HR.out w1 B1).mono ?_; rintro e2 w2 ⟨rfl, B2⟩))
    go_ret
    exact ⟨rfl, B2⟩
set_option maxRecDepth 100000 in
set_option maxHeartbeats 1000000 in
theorem plc14 (q b n : Nat) (z : List Int) (A : List Nat) (r : Nat) (th : Int) (w : World) (h : IX14 w b n z A) (hq : w.cell? ⟨q, 0, none⟩ = some (.pointer (some ⟨b, 0, none⟩))) (hr : r < n) :
    Calls Try.prog 43 #[.int .i64 (r : Int), .int .i64 th, .pointer (some ⟨q, 0, none⟩)] w fun e w' => e = .returned (.bool (decide (bh14 n A r < th))) ∧ Below w.heap.size w w' := by
  have HB := pbeh14 b n z A r w h hr
  clear h
  generalize bh14 n A r = v at *
  go_enter Try.func43, Try.ntmps43
  go_wp2_with (first
    | (go_at_call 44; refine HB.mono ?_; rintro e1 w1 ⟨rfl, B1⟩))
  go_ret
  exact ⟨by first | rfl | simp, B1⟩
set_option maxRecDepth 100000 in
set_option maxHeartbeats 2000000 in
theorem pbnd14_in (q b n : Nat) (z : List Int) (A : List Nat) (f t c : Nat) (th : Int) (w : World) (h : IX14 w b n z A) (hq : w.cell? ⟨q, 0, none⟩ = some (.pointer (some ⟨b, 0, none⟩))) (hfc : f ≤ c) (hct : c ≤ t) (htn : t ≤ n)
    (hc : ∀ r, f ≤ r → r < t → (bh14 n A r < th ↔ r < c)) :
    Calls Try.prog 46 #[.int .i64 (f : Int), .int .i64 (t : Int), .int .i64 th, .func (.func 43) #[] #[.pointer (some ⟨q, 0, none⟩)]] w fun e w' => e = .returned (.int .i64 (c : Int)) ∧ Below w.heap.size w w' := by
  have hn24 := h.n24
  have HC : Hid (∀ r, f ≤ r → r < t → (bh14 n A r < th ↔ r < c)) := hc
  have HK : Hid (∀ r W, f ≤ r → r < t → Below w.heap.size w W → Calls Try.prog 43 #[.int .i64 (r : Int), .int .i64 th, .pointer (some ⟨q, 0, none⟩)] W fun e w' => e = .returned (.bool (decide (r < c))) ∧ Below w.heap.size w w') := fun r W h1 h2 hb =>
    (plc14 q b n z A r th W (h.old hb) ((hb.cell (p := ⟨q, 0, none⟩) (World.block_lt_of_cell? w _ hq)).trans hq) (by omega)).mono fun e w' ⟨he, hB⟩ => ⟨by rw [he, decide_eq_decide.2 (HC.out r h1 h2)], hb.trans (hB.mono hb.size)⟩
  clear h hq hc HC
  go_enter Try.func46, Try.ntmps46
  go_wp2_with fail
  go_loopw [0, 1] (fun ti tj wr => ∃ i j : Nat, f ≤ i ∧ i ≤ c ∧ c ≤ j ∧ j ≤ t ∧ ti = .int .i64 (i : Int) ∧ tj = .int .i64 (j : Int) ∧ Below w.heap.size w wr) (fun ti tj _ => (intOf tj).toNat - (intOf ti).toNat)
  case atStart => exact ⟨f, t, Nat.le_refl _, hfc, hct, Nat.le_refl _, rfl, rfl, Below.refl _ _⟩
  case round =>
    obtain ⟨i, j, h1, h2, h3, h4, rfl, rfl, BR⟩ := hrel
    by_cases hlt : i < j
    · have hlti : (i : Int) < (j : Int) := by omega
      obtain ⟨md, hmd⟩ : ∃ md, md = i + (j - i) / 2 := ⟨_, rfl⟩
      have hmi : (i : Int) + ((j : Int) - (i : Int)) / 2 = (md : Int) := by omega
      have him : i ≤ md ∧ md < j := by omega
      have CC := HK.out md wr (by omega) (by omega) BR
      have i1 : IntKind.i64.wrap ((j : Int) - (i : Int)) = (j : Int) - (i : Int) := IntWalk.i64_in _ (by omega)
      have i3 : ((j : Int) - (i : Int)).tdiv 2 = ((j : Int) - (i : Int)) / 2 := Int.tdiv_eq_ediv_of_nonneg (by omega)
      clear hmd
      go_wp2_with fail
      refine CC.mono ?_
      rintro e w2 ⟨rfl, B2⟩
      clear CC
      by_cases hz : md < c
      · rw [decide_eq_true hz]
        go_wp2_with fail
        go_roundw
        case rel => exact ⟨md + 1, j, by omega, by omega, by omega, by omega, by first | rfl | go_num, rfl, B2⟩
        case measure => simp [intOf]; omega
      · rw [decide_eq_false hz]
        go_wp2_with fail
        go_roundw
        case rel => exact ⟨i, md, by omega, by omega, by omega, by omega, rfl, by first | rfl | go_num, B2⟩
        case measure => simp [intOf]; omega
    · have hlti : ¬ (i : Int) < (j : Int) := by omega
      obtain rfl : i = c := by omega
      go_wp2_with fail
      go_ret
      exact ⟨rfl, BR⟩
/-- 257 numbers in one block. -/
structure Rc14 (w : World) (g : Nat) (C : List Int) : Prop where
  hp : w.heap[g]? = some (.cells (vi12 C) 70 (0, 0))
theorem Rc14.cell {w : World} {g : Nat} {A : List Int} (h : Rc14 w g A) {i : Nat} (hi : i < A.length) : w.cell? ⟨g, i, none⟩ = some (.int .i64 (A.getD i 0)) := by
  simp [World.cell?, h.hp, vi12, List.getD, hi]
theorem Rc14.free {w : World} {g : Nat} {A : List Int} (h : Rc14 w g A) (i : Nat) : w.frozen? ⟨g, i, none⟩ = false := by simp [World.frozen?, h.hp]
theorem Rc14.set {w : World} {g : Nat} {A : List Int} (h : Rc14 w g A) (i : Nat) (x : Int) : Rc14 (w.setCell ⟨g, i, none⟩ (.int .i64 x)) g (A.set i x) := by
  refine ⟨?_⟩
  simp only [World.setCell, Array.getElem?_modify, h.hp]
  simp [vi12, List.map_set]
theorem Rc14.lt {w : World} {g : Nat} {A : List Int} (h : Rc14 w g A) : g < w.heap.size := (Array.getElem?_eq_some_iff.1 h.hp).1
theorem Rc14.old {w w' : World} {g : Nat} {A : List Int} (h : Rc14 w g A) (hb : Below w.heap.size w w') : Rc14 w' g A := ⟨(hb.block g h.lt).trans h.hp⟩
def z257 : List Int := List.replicate 257 0
theorem zc14 : Try.zeroCells70 = vi12 z257 := by kernel_rfl
/-- The bucket starts. -/
noncomputable def bks14 (z : List Int) (k : Nat) : List Int := (List.range 257).map fun v => if v ≤ k then ((bk14 z (v : Int) : Nat) : Int) else 0

/-! The landed find: buckets. -/
theorem bks14_len (z : List Int) (k : Nat) : (bks14 z k).length = 257 := by simp [bks14]
theorem bks14_get (z : List Int) {k v : Nat} (h : v ≤ k) (hv : v < 257) : (bks14 z k).getD v 0 = ((bk14 z (v : Int) : Nat) : Int) := by simp [bks14, List.getD, hv, h]
theorem bks14_zero {z : List Int} (h : ∀ y ∈ z, 0 ≤ y ∧ y ≤ 255) : bks14 z 0 = z257 := by
  unfold z257
  apply List.ext_getElem
  · rw [bks14_len, List.length_replicate]
  · intro i h1 h2
    rw [List.getElem_replicate]
    simp only [bks14, List.getElem_map, List.getElem_range]
    by_cases c : i ≤ 0
    · have : i = 0 := by omega
      subst this
      rw [if_pos (Nat.le_refl _)]
      have := bk14_zero h
      show ((bk14 z ((0 : Nat) : Int) : Nat) : Int) = 0
      rw [show ((0 : Nat) : Int) = 0 from rfl, this]
      rfl
    · rw [if_neg c]
theorem bks14_step (z : List Int) {k : Nat} (h : k < 256) : (bks14 z k).set (k + 1) ((bk14 z ((k : Int) + 1) : Nat) : Int) = bks14 z (k + 1) := by
  apply List.ext_getElem
  · simp [bks14]
  · intro i h1 h2
    rw [List.getElem_set]
    simp only [bks14, List.getElem_map, List.getElem_range]
    by_cases c : k + 1 = i
    · subst c
      simp
    · rw [if_neg c]
      by_cases d : i ≤ k
      · rw [if_pos d, if_pos (by omega)]
      · rw [if_neg d, if_neg (by omega)]
theorem seg_one14 (w : World) {k : Nat} (hk : k < 256) : Seg (w.alloc (.cells #[.int .u8 (k : Int)] 5)) (some ⟨w.heap.size, 0, none⟩) [(k : Int)] := by
  refine ⟨fun i hi => ⟨w.heap.size, 0, rfl, ?_⟩, by decide, getD_bd (by decide) (by intro z hz; simp at hz; omega)⟩
  simp at hi
  subst hi
  simp
set_option maxRecDepth 100000 in
set_option maxHeartbeats 16000000 in
theorem pbks14 (b n : Nat) (z : List Int) (A : List Nat) (w : World) (h : IX14 w b n z A) (hz : ∀ y ∈ z, 0 ≤ y ∧ y ≤ 255) :
    Calls Try.prog 42 #[.pointer (some ⟨b, 0, none⟩)] w fun e w' => e = .returned (.agg (vi12 (bks14 z 256))) ∧ Below w.heap.size w w' := by
  have hn24 := h.n24
  have HZL : Hid (z.length = n) := h.len
  have HLN : Hid (∀ W, Below w.heap.size w W → Calls Try.prog 24 #[.pointer (some ⟨b, 0, none⟩)] W fun e w' => e = .returned (.int .i64 (n : Int)) ∧ w' = W) := fun W hb => (h.old hb).len_
  have HPE : Hid (∀ (k : Nat) (W : World) (pa : Option Addr), k < 256 → Below w.heap.size w W → Seg W pa [(k : Int)] → Calls Try.prog 25 #[.pointer (some ⟨b, 0, none⟩), .int .i64 ((bk14 z (k : Int) : Nat) : Int), .int .i64 (n : Int), .slice pa 1 1] W fun e w' => e = .returned (.int .i64 ((bk14 z ((k : Int) + 1) : Nat) : Int)) ∧ Below W.heap.size W w') := fun k W pa hk hb hs => by
    obtain ⟨k1, k2⟩ := hi_all14 h.len h.ar [(k : Int)] (bk14 z (k : Int)) (by rw [hi_one14]; exact bk14_mono z _)
    have := pend14 b n z A (bk14 z (k : Int)) n (hi14 z [(k : Int)]) pa [(k : Int)] 1 1 W (h.old hb) hs rfl (by omega) (by rw [hi_one14]; exact bk14_mono z _) k1 (Nat.le_refl _) k2
    rw [hi_one14] at this
    exact this
  have HBL : Hid (∀ v : Int, bk14 z v ≤ n) := fun v => by rw [← HZL.out]; exact bk14_le z v
  obtain ⟨w0, hw0⟩ : ∃ w0, w0 = (w.alloc (.cells (vi12 (z257)) 70)).alloc (.cells (vi12 (z257)) 70) := ⟨_, rfl⟩
  have HW0 : Hid (w0 = (w.alloc (.cells (vi12 (z257)) 70)).alloc (.cells (vi12 (z257)) 70)) := hw0
  have BW : Below w.heap.size w w0 := by rw [hw0]; exact below_alloc15 (below_alloc15 (Below.refl _ _) _) _
  have g0 : Rc14 w0 w.heap.size (z257) := ⟨by rw [hw0]; exact heap_more15 _ (heap_new15 _ _ rfl)⟩
  have g1 : Rc14 w0 (w.heap.size + 1) (bks14 z 0) := ⟨by rw [hw0, bks14_zero hz]; exact heap_new15 _ _ (by simp)⟩
  have HG0 : Hid (Rc14 w0 w.heap.size (z257)) := g0
  have HG1 : Hid (Rc14 w0 (w.heap.size + 1) (bks14 z 0)) := g1
  clear h g0 g1 hw0
  go_enter Try.func42, Try.ntmps42
  go_wp2_with fail
  rw [zc14, ← HW0.out]
  obtain ⟨g, hg⟩ : ∃ g, g = w.heap.size + 1 := ⟨_, rfl⟩
  obtain ⟨g', hg'⟩ : ∃ g', g' = w.heap.size := ⟨_, rfl⟩
  have HGS : Hid (w.heap.size ≤ g ∧ w.heap.size ≤ g' ∧ g ≠ g') := ⟨by omega, by omega, by omega⟩
  rw [← hg] at HG1
  rw [← hg'] at HG0
  rw [← hg, ← hg']
  clear hg hg'
  go_loopw [5] (fun ti wr => ∃ k : Nat, k ≤ 256 ∧ ti = .int .i64 (k : Int) ∧ Hid (Rc14 wr g (bks14 z k)) ∧ Hid (Rc14 wr g' z257) ∧ Hid (Below w.heap.size w wr)) (fun ti _ => 256 - (intOf ti).toNat)
  case atStart => exact ⟨0, by omega, rfl, HG1.out, HG0.out, BW⟩
  case round =>
    obtain ⟨k, hk, rfl, HR1, HR0, HBR⟩ := hrel
    clear HG0 HG1 HW0 BW
    by_cases hlt : k < 256
    · have hlti : (k : Int) < 256 := by omega
      have hk7 : (k : Int) < 257 := by omega
      have ck := HR1.out.cell (i := k) (by rw [bks14_len]; omega)
      rw [bks14_get z (Nat.le_refl k) (by omega)] at ck
      have hkb := HBL.out (k : Int)
      have hkb2 := HBL.out ((k : Int) + 1)
      have HST := bks14_step z hlt
      have HPE2 : Hid (∀ (W : World) (pa : Option Addr), Below w.heap.size w W → Seg W pa [(k : Int)] → Calls Try.prog 25 #[.pointer (some ⟨b, 0, none⟩), .int .i64 ((bk14 z (k : Int) : Nat) : Int), .int .i64 (n : Int), .slice pa 1 1] W fun e w' => e = .returned (.int .i64 ((bk14 z ((k : Int) + 1) : Nat) : Int)) ∧ Below W.heap.size W w') := fun W pa hb hs => HPE.out k W pa hlt hb hs
      generalize bk14 z ((k : Int) + 1) = B1 at *
      obtain ⟨k1, hk1⟩ : ∃ k1, k1 = k + 1 := ⟨_, rfl⟩
      have hk1i : (k : Int) + 1 = (k1 : Int) := by omega
      have hk17 : (k1 : Int) < 257 := by omega
      rw [← hk1] at HST
      have BD : Below w.heap.size w wr.drew := HBR.out.trans ((Below.refl wr.heap.size wr).drew.mono HBR.out.size)
      have BA : Below w.heap.size w (wr.alloc (.cells #[.int .u8 (k : Int)] 5)).drew := (HBR.out.alloc HBR.out.size _).drew
      have SA : Seg (wr.alloc (.cells #[.int .u8 (k : Int)] 5)).drew (some ⟨wr.heap.size, 0, none⟩) [(k : Int)] := (seg_one14 wr hlt).drewN 1
      have HRS : Hid (∀ W, Below (wr.alloc (.cells #[.int .u8 (k : Int)] 5)).drew.heap.size (wr.alloc (.cells #[.int .u8 (k : Int)] 5)).drew W → Rc14 W g (bks14 z k) ∧ Rc14 W g' z257 ∧ Below w.heap.size w W ∧ W.cell? ⟨g, k, none⟩ = some (.int .i64 ((bk14 z (k : Int) : Nat) : Int)) ∧ ∀ v, (W.setCell ⟨g, k1, none⟩ v).cell? ⟨g, k, none⟩ = some (.int .i64 ((bk14 z (k : Int) : Nat) : Int))) := fun W hb => by
        have hb2 : Below wr.heap.size wr W := ((Below.refl wr.heap.size wr).alloc (Nat.le_refl _) _).drew.trans (hb.mono (by show _ ≤ (wr.alloc _).heap.size; simp))
        have r1 := HR1.out.old hb2
        have r2 := r1.cell (i := k) (by rw [bks14_len]; omega)
        rw [bks14_get z (Nat.le_refl k) (by omega)] at r2
        exact ⟨r1, HR0.out.old hb2, HBR.out.trans (hb2.mono HBR.out.size), r2, fun v => (World.cell?_setCell_other _ _ _ _ (by intro e; simp only [Addr.mk.injEq] at e; omega)).trans r2⟩
      have HK1 : Hid (k1 = k + 1) := hk1
      have hne : k1 ≠ k := by omega
      have k1w : IntKind.i64.wrap (k1 : Int) = (k1 : Int) := IntWalk.i64_in _ (by omega)
      have h0k1 : (0 : Int) ≤ (k1 : Int) := by omega
      have h0k : (0 : Int) ≤ (k : Int) := by omega
      have HST2 : Hid ((bks14 z k).set k1 ((B1 : Nat) : Int) = bks14 z k1) := HST
      clear hk1 HST
      generalize bk14 z (k : Int) = B0 at *
      have kw : IntKind.u8.wrap (k : Int) = (k : Int) := IntWalk.u8_in _ (by omega)
      go_wp2_with fail
      go_region_held3 (fun W => W.cell? ⟨g, k, none⟩ = some (.int .i64 (B0 : Int))) (first | assumption | go_keep) (first
        | (go_at_call 24; refine (HLN.out _ (by assumption)).mono ?_; rintro e3 w3 ⟨rfl, hw3⟩; subst hw3)
        | (go_at_call 25; refine (HPE2.out _ _ (by assumption) (by assumption)).mono ?_; rintro e4 w4 ⟨rfl, B4⟩; obtain ⟨R41, R40, B40, d4, d5⟩ := HRS.out w4 B4; have d41 := R41.cell (i := k1) (by rw [bks14_len]; omega); have f41 := R41.free k1))
      all_goals
        have R5 := R41.set k1 ((B1 : Nat) : Int)
        rw [HST2.out, HK1.out] at R5
        have HR5 : Hid (Rc14 (w4.setCell ⟨g, k1, none⟩ (.int .i64 ((B1 : Nat) : Int))) g (bks14 z (k + 1))) := by show Rc14 _ _ _; rw [HK1.out]; exact R5
        have HR50 : Hid (Rc14 (w4.setCell ⟨g, k1, none⟩ (.int .i64 ((B1 : Nat) : Int))) g' z257) := ⟨by rw [heap_setCell_other _ _ _ _ (by have := HGS.out.2.2; show g' ≠ g; omega)]; exact R40.hp⟩
        have HB5 : Hid (Below w.heap.size w (w4.setCell ⟨g, k1, none⟩ (.int .i64 ((B1 : Nat) : Int)))) := below_set14 B40 HGS.out.1
        clear R5 R41 R40 B40 d4 d41 f41 d5 B4
        generalize w4.setCell ⟨g, k1, none⟩ (.int .i64 ((B1 : Nat) : Int)) = w5 at *
        go_wp2_with fail
        go_roundw
        case rel => exact ⟨k + 1, by omega, by first | rfl | go_num | (have := HK1.out; simp; omega), HR5, HR50, HB5⟩
        case measure => simp [intOf]; omega
    · have hlti : ¬ (k : Int) < 256 := by omega
      obtain rfl : k = 256 := by omega
      have fi : (Try.prog.info? 70).map (·.size) = some (vi12 (bks14 z 256)).size := by
        rw [show (vi12 (bks14 z 256)).size = 257 by simp [vi12, bks14_len]]
        kernel_rfl
      have fs : (vi12 z257).size = (vi12 (bks14 z 256)).size := by simp [vi12, bks14_len, z257]
      have fo : (vi12 (bks14 z 256)).all (·.oneCell') = true := by simp [vi12, Value.oneCell']
      have HP1 := HR1.out.hp
      have HP0 := HR0.out.hp
      have HFI : Hid ((Try.prog.info? 70).map (·.size) = some (vi12 (bks14 z 256)).size) := fi
      have HFS : Hid ((vi12 z257).size = (vi12 (bks14 z 256)).size) := fs
      have HFO : Hid ((vi12 (bks14 z 256)).all (·.oneCell') = true) := fo
      have HQ1 : Hid (wr.heap[g]? = some (.cells (vi12 (bks14 z 256)) 70 (0, 0))) := HP1
      have HQ0 : Hid (wr.heap[g']? = some (.cells (vi12 z257) 70 (0, 0))) := HP0
      clear fi fs fo HP1 HP0
      obtain ⟨V, hV⟩ : ∃ V, V = vi12 (bks14 z 256) := ⟨_, rfl⟩
      rw [← hV] at HFI HFS HFO HQ1
      have HV : Hid (V = vi12 (bks14 z 256)) := hV
      clear hV
      go_wp2_with (first
        | (refine wpList_load_row rfl 70 (.tmp 3) rfl g rfl _ _ _ _ HQ1.out Try.underlying70 rfl HFI.out ?_)
        | (refine wpList_store_row rfl 70 (.tmp 2) (.tmp 22) rfl g' V rfl rfl _ _ HQ0.out HFI.out HFS.out HFO.out ?_))
      have hp2 : (wr.setRow g' V).heap[g']? = some (.cells V 70 (0, 0)) := by
        simp only [World.setRow, Array.getElem?_modify]
        rw [if_pos trivial, HQ0.out]
        rfl
      refine bodyPost_ret (v := .agg V) (results_cell_row (fn := Try.f42) (p := 2) (ty := 70) rfl _ _ g' _ _ _ _ rfl hp2 Try.underlying70 rfl HFI.out) rfl ?_
      refine ⟨by rw [HV.out], ?_⟩
      have hB := HBR.out
      have hg := HGS.out.2.1
      exact ⟨hB.os, hB.tape, hB.output, by simpa [World.setRow] using hB.size, fun i hi => by
        have : (wr.setRow g' V).heap[i]? = wr.heap[i]? := by
          simp only [World.setRow, Array.getElem?_modify]
          rw [if_neg (by omega)]
        rw [this]
        exact hB.block i hi⟩
end Go.Proofs.Ytkpfailmmcelcaa
