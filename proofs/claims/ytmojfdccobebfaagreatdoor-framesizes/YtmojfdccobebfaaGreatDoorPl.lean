import Derived.Test.YtmojfdccobebfaaGreatDoorPi
namespace Go.Proofs.YtmojfdccobebfaaGreatDoor
open Go.RowKit Go.Shelf
set_option linter.unusedVariables false

/-! The document's within, Check, Windows, Size. -/
set_option maxRecDepth 100000 in
theorem rwit18 (x lo hi : Int) (w : World) : Calls Tryz.prog 36 #[.int .i64 x, .int .i64 lo, .int .i64 hi] w fun e w' => e = .returned (.bool (decide (lo ≤ x ∧ x ≤ hi))) ∧ w' = w := by
  by_cases h1 : lo ≤ x
  · by_cases h2 : x ≤ hi
    · rw [decide_eq_true ⟨h1, h2⟩]
      go_enter Tryz.func36, Tryz.ntmps36
      go_wp2
      go_ret
      exact ⟨rfl, rfl⟩
    · rw [decide_eq_false (by omega)]
      go_enter Tryz.func36, Tryz.ntmps36
      go_wp2
      go_ret
      exact ⟨rfl, rfl⟩
  · rw [decide_eq_false (by omega)]
    go_enter Tryz.func36, Tryz.ntmps36
    go_wp2
    go_ret
    exact ⟨rfl, rfl⟩
theorem rwit18_t {x lo hi : Int} (h : lo ≤ x ∧ x ≤ hi) (w : World) : Calls Tryz.prog 36 #[.int .i64 x, .int .i64 lo, .int .i64 hi] w fun e w' => e = .returned (.bool true) ∧ w' = w := by
  have := rwit18 x lo hi w
  rwa [decide_eq_true h] at this
theorem rwit18_f {x lo hi : Int} (h : ¬ (lo ≤ x ∧ x ≤ hi)) (w : World) : Calls Tryz.prog 36 #[.int .i64 x, .int .i64 lo, .int .i64 hi] w fun e w' => e = .returned (.bool false) ∧ w' = w := by
  have := rwit18 x lo hi w
  rwa [decide_eq_false h] at this
set_option maxRecDepth 100000 in
set_option maxHeartbeats 1000000 in
theorem rchk18 (h : Hd18) (w : World) : Calls Tryz.prog 15 #[.agg #[.int .i64 h.o, .int .i64 h.n, .int .u32 h.so, .int .u32 h.sn, .int .i64 h.wi, .int .i64 h.lo]] w fun e w' => e = .returned (.int .i64 (if h.Ok then 0 else 180)) ∧ Below w.heap.size w w' := by
  obtain ⟨wA, b4, X⟩ := bx18 w h
  have HX : Hid (Bx18 w h wA b4) := X
  have HCL : Hid (Cl18 wA b4 h) := X.cl (Below.refl _ _)
  obtain ⟨a0, a1, a2, a3, a4, a5⟩ := HCL.out
  rw [← X.wa] at a0 a1 a2 a3 a4 a5
  rw [← X.b] at a0 a1 a2 a3 a4 a5
  clear X
  by_cases k0 : 0 ≤ h.o ∧ h.o ≤ 16777216
  · have C0 := fun V => rwit18_t k0 V
    by_cases k1 : 0 ≤ h.n ∧ h.n ≤ 16777216
    · have C1 := fun V => rwit18_t k1 V
      by_cases k2 : 64 ≤ h.wi ∧ h.wi ≤ 65536
      · have C2 := fun V => rwit18_t k2 V
        by_cases k3 : 1 ≤ h.lo ∧ h.lo ≤ 32768
        · have C3 := fun V => rwit18_t k3 V
          rw [if_pos (show h.Ok from ⟨k0, k1, k2, k3⟩)]
          clear k0 k1 k2 k3
          go_enter Tryz.func15, Tryz.ntmps15
          go_wp2_with fail
          rw [HX.out.wa, HX.out.b]
          clear a0 a1 a2 a3 a4 a5
          obtain ⟨a0, a1, a2, a3, a4, a5⟩ := HCL.out
          refine (C0 _).mono ?_
          rintro e w' ⟨rfl, hw'⟩
          subst w'
          go_wp2_with fail
          refine (C1 _).mono ?_
          rintro e w' ⟨rfl, hw'⟩
          subst w'
          go_wp2_with fail
          refine (C2 _).mono ?_
          rintro e w' ⟨rfl, hw'⟩
          subst w'
          go_wp2_with fail
          refine (C3 _).mono ?_
          rintro e w' ⟨rfl, hw'⟩
          subst w'
          go_wp2_with fail
          go_ret
          exact ⟨rfl, HX.out.bl⟩
        · have C3 := fun V => rwit18_f k3 V
          rw [if_neg (fun x => k3 x.2.2.2)]
          clear k0 k1 k2 k3
          go_enter Tryz.func15, Tryz.ntmps15
          go_wp2_with fail
          rw [HX.out.wa, HX.out.b]
          clear a0 a1 a2 a3 a4 a5
          obtain ⟨a0, a1, a2, a3, a4, a5⟩ := HCL.out
          refine (C0 _).mono ?_
          rintro e w' ⟨rfl, hw'⟩
          subst w'
          go_wp2_with fail
          refine (C1 _).mono ?_
          rintro e w' ⟨rfl, hw'⟩
          subst w'
          go_wp2_with fail
          refine (C2 _).mono ?_
          rintro e w' ⟨rfl, hw'⟩
          subst w'
          go_wp2_with fail
          refine (C3 _).mono ?_
          rintro e w' ⟨rfl, hw'⟩
          subst w'
          go_wp2_with fail
          go_ret
          exact ⟨rfl, HX.out.bl⟩
      · have C2 := fun V => rwit18_f k2 V
        rw [if_neg (fun x => k2 x.2.2.1)]
        clear k0 k1 k2
        go_enter Tryz.func15, Tryz.ntmps15
        go_wp2_with fail
        rw [HX.out.wa, HX.out.b]
        clear a0 a1 a2 a3 a4 a5
        obtain ⟨a0, a1, a2, a3, a4, a5⟩ := HCL.out
        refine (C0 _).mono ?_
        rintro e w' ⟨rfl, hw'⟩
        subst w'
        go_wp2_with fail
        refine (C1 _).mono ?_
        rintro e w' ⟨rfl, hw'⟩
        subst w'
        go_wp2_with fail
        refine (C2 _).mono ?_
        rintro e w' ⟨rfl, hw'⟩
        subst w'
        go_wp2_with fail
        go_ret
        exact ⟨rfl, HX.out.bl⟩
    · have C1 := fun V => rwit18_f k1 V
      rw [if_neg (fun x => k1 x.2.1)]
      clear k0 k1
      go_enter Tryz.func15, Tryz.ntmps15
      go_wp2_with fail
      rw [HX.out.wa, HX.out.b]
      clear a0 a1 a2 a3 a4 a5
      obtain ⟨a0, a1, a2, a3, a4, a5⟩ := HCL.out
      refine (C0 _).mono ?_
      rintro e w' ⟨rfl, hw'⟩
      subst w'
      go_wp2_with fail
      refine (C1 _).mono ?_
      rintro e w' ⟨rfl, hw'⟩
      subst w'
      go_wp2_with fail
      go_ret
      exact ⟨rfl, HX.out.bl⟩
  · have C0 := fun V => rwit18_f k0 V
    rw [if_neg (fun x => k0 x.1)]
    clear k0
    go_enter Tryz.func15, Tryz.ntmps15
    go_wp2_with fail
    rw [HX.out.wa, HX.out.b]
    clear a0 a1 a2 a3 a4 a5
    obtain ⟨a0, a1, a2, a3, a4, a5⟩ := HCL.out
    refine (C0 _).mono ?_
    rintro e w' ⟨rfl, hw'⟩
    subst w'
    go_wp2_with fail
    go_ret
    exact ⟨rfl, HX.out.bl⟩
set_option maxRecDepth 100000 in
theorem rwin18 (h : Hd18) (w : World) : Calls Tryz.prog 16 #[.agg #[.int .i64 h.o, .int .i64 h.n, .int .u32 h.so, .int .u32 h.sn, .int .i64 h.wi, .int .i64 h.lo]] w fun e w' => e = .returned (.int .i64 (win18 h)) ∧ Below w.heap.size w w' := by
  obtain ⟨wA, b4, X⟩ := bx18 w h
  have HX : Hid (Bx18 w h wA b4) := X
  have CK := rchk18 h wA
  obtain ⟨a0, a1, a2, a3, a4, a5⟩ := X.cl (Below.refl _ _)
  rw [← X.wa] at a0 a1 a2 a3 a4 a5
  rw [← X.b] at a0 a1 a2 a3 a4 a5
  unfold win18
  by_cases hk : h.Ok
  · rw [if_pos hk]
    rw [if_pos hk] at CK
    obtain ⟨x0, x1, x2, x3⟩ := hk
    have HCL : Hid (∀ V, Below wA.heap.size wA V → Cl18 V b4 h) := fun V hV => X.cl hV
    clear X
    have hw1 : IntKind.i64.wrap (h.n + h.wi) = h.n + h.wi := IntWalk.i64_in _ (by omega)
    have hw2 : IntKind.i64.wrap (h.n + h.wi - 1) = h.n + h.wi - 1 := IntWalk.i64_in _ (by omega)
    have hne : ¬ h.wi = 0 := by omega
    have hne2 : (h.wi == 0) = false := by simp [hne]
    have hd0 : 0 ≤ h.n + h.wi - 1 := by omega
    have hdv : Int.tdiv (h.n + h.wi - 1) h.wi = (h.n + h.wi - 1) / h.wi := by rw [Int.tdiv_eq_ediv_of_nonneg hd0]
    have hq : IntKind.i64.wrap ((h.n + h.wi - 1) / h.wi) = (h.n + h.wi - 1) / h.wi := IntWalk.i64_in _ (by
      have := Int.ediv_nonneg hd0 (show 0 ≤ h.wi by omega)
      have := Int.ediv_le_self (a := h.n + h.wi - 1) h.wi hd0
      omega)
    clear x0 x1 x2 x3
    go_enter Tryz.func16, Tryz.ntmps16
    go_wp2_with fail
    rw [HX.out.wa, HX.out.b]
    refine CK.mono ?_
    rintro e1 w1 ⟨rfl, b1⟩
    clear a0 a1 a2 a3 a4 a5
    obtain ⟨a0, a1, a2, a3, a4, a5⟩ := HCL.out w1 b1
    go_wp2_with fail
    go_ret
    exact ⟨rfl, HX.out.bl.trans (b1.mono HX.out.bl.size)⟩
  · rw [if_neg hk]
    rw [if_neg hk] at CK
    clear X hk
    go_enter Tryz.func16, Tryz.ntmps16
    go_wp2_with fail
    rw [HX.out.wa, HX.out.b]
    refine CK.mono ?_
    rintro e1 w1 ⟨rfl, b1⟩
    go_wp2_with fail
    go_ret
    exact ⟨rfl, HX.out.bl.trans (b1.mono HX.out.bl.size)⟩
set_option maxRecDepth 100000 in
set_option maxHeartbeats 1000000 in
theorem rsiz18 (h : Hd18) (i : Int) (w : World) : Calls Tryz.prog 17 #[.agg #[.int .i64 h.o, .int .i64 h.n, .int .u32 h.so, .int .u32 h.sn, .int .i64 h.wi, .int .i64 h.lo], .int .i64 i] w fun e w' => e = .returned (.int .i64 (siz18 h i)) ∧ Below w.heap.size w w' := by
  obtain ⟨wA, b4, X⟩ := bx18 w h
  have HX : Hid (Bx18 w h wA b4) := X
  have CW := rwin18 h wA
  obtain ⟨a0, a1, a2, a3, a4, a5⟩ := X.cl (Below.refl _ _)
  rw [← X.wa] at a0 a1 a2 a3 a4 a5
  rw [← X.b] at a0 a1 a2 a3 a4 a5
  have HCL : Hid (∀ V, Below wA.heap.size wA V → Cl18 V b4 h) := fun V hV => X.cl hV
  clear X
  unfold siz18
  by_cases h0 : i < 0
  · rw [if_pos (.inl h0)]
    go_enter Tryz.func17, Tryz.ntmps17
    go_wp2_with fail
    rw [HX.out.wa]
    go_ret
    exact ⟨rfl, HX.out.bl⟩
  · by_cases h1 : win18 h ≤ i
    · rw [if_pos (.inr h1)]
      generalize win18 h = W at *
      go_enter Tryz.func17, Tryz.ntmps17
      go_wp2_with fail
      rw [HX.out.wa, HX.out.b]
      refine CW.mono ?_
      rintro e1 w1 ⟨rfl, b1⟩
      go_wp2_with fail
      go_ret
      exact ⟨rfl, HX.out.bl.trans (b1.mono HX.out.bl.size)⟩
    · rw [if_neg (by omega)]
      obtain ⟨p0, p1, hk⟩ := (win18_bd h).2.2 i (by omega) (by omega)
      obtain ⟨x0, x1, x2, x3⟩ := hk
      obtain ⟨P, hP⟩ : ∃ P, P = i * h.wi := ⟨_, rfl⟩
      rw [← hP] at p0 p1 ⊢
      have hmu : IntKind.i64.wrap (i * h.wi) = P := by rw [← hP]; exact IntWalk.i64_in _ (by omega)
      have hsb : IntKind.i64.wrap (h.n - P) = h.n - P := IntWalk.i64_in _ (by omega)
      clear hP x0 x1 x2 x3 p0 p1
      generalize win18 h = W at *
      by_cases hlt : h.n - P ≤ h.wi
      · rw [show min h.wi (h.n - P) = h.n - P by omega]
        go_enter Tryz.func17, Tryz.ntmps17
        go_wp2_with fail
        rw [HX.out.wa, HX.out.b]
        refine CW.mono ?_
        rintro e1 w1 ⟨rfl, b1⟩
        clear a0 a1 a2 a3 a4 a5
        obtain ⟨a0, a1, a2, a3, a4, a5⟩ := HCL.out w1 b1
        go_wp2_with fail
        go_ret
        exact ⟨rfl, HX.out.bl.trans (b1.mono HX.out.bl.size)⟩
      · rw [show min h.wi (h.n - P) = h.wi by omega]
        go_enter Tryz.func17, Tryz.ntmps17
        go_wp2_with fail
        rw [HX.out.wa, HX.out.b]
        refine CW.mono ?_
        rintro e1 w1 ⟨rfl, b1⟩
        clear a0 a1 a2 a3 a4 a5
        obtain ⟨a0, a1, a2, a3, a4, a5⟩ := HCL.out w1 b1
        go_wp2_with fail
        go_ret
        exact ⟨rfl, HX.out.bl.trans (b1.mono HX.out.bl.size)⟩
end Go.Proofs.YtmojfdccobebfaaGreatDoor
