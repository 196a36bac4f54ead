
import Derived.Test.YtboangeopbblnaaPuRc
namespace Go.Proofs.Ytboangeopbblnaa
open Go.RowKit Go.Maps Go.WideMaps Go.MuLone Go.Shelf
set_option linter.unusedVariables false
set_option linter.unusedSimpArgs false
set_option maxRecDepth 100000

/-! The document's Open: the walk. -/
theorem oS23_no {S : Pu23} {s : ByteArray} {n : Int} (h : oE23 S s n ≠ 0) : oS23 S s n = S := by unfold oS23; rw [if_neg h]
theorem opq_no23 {w w' : World} {x g : Nat} {S : Pu23} {s : ByteArray} {n E : Int} (hE : oE23 S s n = E) (h0 : E ≠ 0) (h : Rr23 w x g S) (hb : Below w.heap.size w w') : OpQ23 w x g S s n (.returned (.int .i64 E)) w' := by
  refine ⟨by rw [hE], g, ?_, .inl rfl, Kp.of_below hb⟩
  rw [oS23_no (by rw [hE]; exact h0)]
  exact h.below hb
theorem less23 {a b : ByteArray} : Op.bytesLess a.toList b.toList = decide (kb23 a < kb23 b) := by
  rw [ByteArray.toList_eq, ByteArray.toList_eq, bytesLess_eq]
  rfl
set_option maxRecDepth 100000 in
set_option maxHeartbeats 16000000 in
theorem ropn23 {w : World} {x g : Nat} {S : Pu23} (h : Rr23 w x g S) {s : ByteArray} (hs : s.size ≤ 9223372036854775807) (n : Int) :
    Calls Try.prog 26 #[.pointer (some ⟨x, 0, none⟩), .string s, .int .i64 n] w (OpQ23 w x g S s n) := by
  have HF : Hid (∀ V, Rr23 V x g S → Calls Try.prog 42 #[.pointer (some ⟨x, 0, none⟩), .string s] V fun e w' => ∃ v : Int, e = .returned (.int .i64 v) ∧ ((fd23 S.L s = none ∧ v = -1) ∨ ∃ (i : Nat) (y : Ho23), v = (i : Int) ∧ S.L[i]? = some y ∧ y.nm = s) ∧ Below V.heap.size V w') := fun V hV => rfnd23 hV s
  have HR : Hid (Rr23 w x g S) := h
  have hok := h.ok
  obtain ⟨ra, rc, hw⟩ := h.rw_
  obtain ⟨N, hN⟩ : ∃ N, N = S.L.length := ⟨_, rfl⟩
  have hc := rc_of23 hw.a hw.b
  rw [← hN] at hc
  have c0 := hc.c0
  have HN : Hid (N = S.L.length ∧ Ok23 S ∧ s.size ≤ 9223372036854775807) := ⟨hN, hok, hs⟩
  clear h hw hc hN hok hs
  by_cases hn0 : n < 0
  · have hE : Hid (oE23 S s n = 1) := oE23_arg (.inl hn0)
    go_enter Try.func26, Try.ntmps26
    go_wp2_with fail
    go_ret
    exact opq_no23 hE.out (by decide) HR.out (Below.refl _ _)
  by_cases hn1 : 1099511627776 < n
  · have hE : Hid (oE23 S s n = 1) := oE23_arg (.inr (.inl hn1))
    go_enter Try.func26, Try.ntmps26
    go_wp2_with fail
    go_ret
    exact opq_no23 hE.out (by decide) HR.out (Below.refl _ _)
  by_cases hN1 : 1024 ≤ N
  · have hE : Hid (oE23 S s n = 1) := oE23_arg (.inr (.inr (by rw [← HN.out.1]; exact hN1)))
    have hN1' : (1024 : Int) ≤ (N : Int) := by omega
    go_enter Try.func26, Try.ntmps26
    go_wp2_with fail
    go_ret
    exact opq_no23 hE.out (by decide) HR.out (Below.refl _ _)
  have hN1' : ¬ (1024 : Int) ≤ (N : Int) := by omega
  have HA : Hid (¬ n < 0 ∧ ¬ 1099511627776 < n ∧ ¬ 1024 ≤ N) := ⟨hn0, hn1, hN1⟩
  go_enter Try.func26, Try.ntmps26
  go_wp2_with fail
  refine (HF.out w HR.out).mono ?_
  rintro e w1 ⟨v, rfl, hv, hb1⟩
  have H1 : Hid (Rr23 w1 x g S ∧ Below w.heap.size w w1) := ⟨HR.out.below hb1, hb1⟩
  have c1 := (hb1.cell (p := ⟨x, 0, none⟩) (World.block_lt_of_cell? _ _ c0)).trans c0
  clear hb1 HF c0
  rcases hv with ⟨hn, rfl⟩ | ⟨i, y, rfl, hy, hs⟩
  · have hz : oE23 S s n = 0 := oE23_ok (by have := HA.out; omega) (by have := HA.out; omega) (by have := HA.out; have := HN.out.1; omega) hn
    obtain ⟨ra', rc', hw1⟩ := H1.out.1.rw_
    have hcc := rc_of23 hw1.a hw1.b
    rw [← HN.out.1] at hcc
    have hsame := hcc.c0
    rw [c1] at hsame
    injection hsame with hsame
    injection hsame with hs1 _ hs2
    subst hs1
    subst hs2
    have HRN := row_new23 hw1 HN.out.2.1 s n hz HN.out.2.2
    obtain ⟨I, hI⟩ : ∃ I, I = ix23 S.L s := ⟨_, rfl⟩
    rw [← hI, ← HN.out.1] at HRN
    have HI : Hid (I = ix23 S.L s ∧ oE23 S s n = 0) := ⟨hI, hz⟩
    have HC : Hid (Rc23 w1 x ra N rc S) := hcc
    clear hz hw1 hcc hI hn
    go_wp2_with fail
    go_loopw [7] (fun ti wr => ∃ i : Nat, i ≤ N ∧ ti = .int .i64 (i : Int) ∧ (∀ j y, j < i → S.L[j]? = some y → kb23 y.nm < kb23 s) ∧ w1 = wr) (fun ti _ => N - (intOf ti).toNat)
    case atStart => exact ⟨0, by omega, rfl, fun j y hj => by omega, rfl⟩
    case round =>
      obtain ⟨i, hin, rfl, hlt, rfl⟩ := hrel
      have HLT : Hid (∀ j y, j < i → S.L[j]? = some y → kb23 y.nm < kb23 s) := hlt
      clear hlt
      by_cases hi : i < N
      · have hii : (i : Int) < (N : Int) := by omega
        have hiw : IntKind.i64.wrap ((i : Int) + 1) = ((i + 1 : Nat) : Int) := by rw [IntWalk.i64_in _ (by omega)]; omega
        obtain ⟨y, hy⟩ : ∃ y, S.L[i]? = some y := ⟨_, List.getElem?_eq_getElem (by have := HN.out.1; omega)⟩
        obtain ⟨g', hra, hgl, e0, e1, e2⟩ := HC.out.at_ i y hy
        have HY : Hid (S.L[i]? = some y) := hy
        clear hy
        by_cases hk : kb23 y.nm < kb23 s
        · have hle : Op.bytesLess y.nm.toList s.toList = true := by rw [less23]; exact decide_eq_true hk
          have HK : Hid (kb23 y.nm < kb23 s) := hk
          clear hk HRN
          subst hra
          go_wp2_with fail
          go_roundw
          case rel =>
            refine ⟨i + 1, by omega, rfl, fun j z hj hz => ?_, by trivial⟩
            by_cases hji : j = i
            · subst hji
              rw [HY.out] at hz
              injection hz with hz
              subst hz
              exact HK.out
            · exact HLT.out j z (by omega) hz
          case measure => simp [intOf]; omega
        · have hle : Op.bytesLess y.nm.toList s.toList = false := by rw [less23]; exact decide_eq_false hk
          have hIi : i = I := by rw [HI.out.1]; exact ix23_is HLT.out (by have := HN.out.1; omega) (fun z hz => by rw [HY.out] at hz; injection hz with hz; subst hz; exact hk)
          clear hk
          subst hIi
          subst hra
          obtain ⟨ad, d1, d2, v1, W1, v2, W2, a3, n3, c3, W3, s1, s2, r1, r2, r3, k1, k2, k3, kf, hfin⟩ := HRN.out
          have HFIN : Hid (∃ g', Rr23 (W3.setCell ⟨x, 0, none⟩ (.slice a3 n3 c3)) x g' (oS23 S s n) ∧ w1.heap.size ≤ g' ∧ Kp (fun k => k = x ∨ k = g) w1 (W3.setCell ⟨x, 0, none⟩ (.slice a3 n3 c3))) := hfin
          have ka : (w1.alloc (.cells #[] 67)).cell? ⟨x, 0, none⟩ = some (.slice (some ⟨g', 0, none⟩) N rc) := (((Below.refl w1.heap.size w1).alloc (Nat.le_refl _) (.cells #[] 67)).cell (p := ⟨x, 0, none⟩) (World.block_lt_of_cell? _ _ c1)).trans c1
          clear hfin HRN
          go_wp2_with (at_builtin; refine wpList_plain rfl fun K hK => ?_; (first | refine operwp_app23 _ _ _ rfl rfl rfl r1 ?_ | refine operwp_app23 _ _ _ rfl rfl rfl r2 ?_ | refine operwp_app23 _ _ _ rfl rfl rfl r3 ?_); refine hK _ _ ?_; clear hK K)
          go_ret
          obtain ⟨g', f1, f2, f3⟩ := HFIN.out
          refine ⟨by rw [HI.out.2]; rfl, g', f1, .inr (Nat.le_trans H1.out.2.size f2), ?_⟩
          exact (Kp.of_below (S := fun k => k = x ∨ k = g) H1.out.2).trans f3 (fun _ _ h => h)
      · have hii : ¬ (i : Int) < (N : Int) := by omega
        have hIi : i = I := by rw [HI.out.1]; exact ix23_is HLT.out (by have := HN.out.1; omega) (fun z hz => by have := (List.getElem?_eq_some_iff.1 hz).1; have := HN.out.1; omega)
        subst hIi
        obtain ⟨ad, d1, d2, v1, W1, v2, W2, a3, n3, c3, W3, s1, s2, r1, r2, r3, k1, k2, k3, kf, hfin⟩ := HRN.out
        have HFIN : Hid (∃ g', Rr23 (W3.setCell ⟨x, 0, none⟩ (.slice a3 n3 c3)) x g' (oS23 S s n) ∧ w1.heap.size ≤ g' ∧ Kp (fun k => k = x ∨ k = g) w1 (W3.setCell ⟨x, 0, none⟩ (.slice a3 n3 c3))) := hfin
        have ka : (w1.alloc (.cells #[] 67)).cell? ⟨x, 0, none⟩ = some (.slice ra N rc) := (((Below.refl w1.heap.size w1).alloc (Nat.le_refl _) (.cells #[] 67)).cell (p := ⟨x, 0, none⟩) (World.block_lt_of_cell? _ _ c1)).trans c1
        clear hfin HRN
        go_wp2_with (at_builtin; refine wpList_plain rfl fun K hK => ?_; (first | refine operwp_app23 _ _ _ rfl rfl rfl r1 ?_ | refine operwp_app23 _ _ _ rfl rfl rfl r2 ?_ | refine operwp_app23 _ _ _ rfl rfl rfl r3 ?_); refine hK _ _ ?_; clear hK K)
        go_ret
        obtain ⟨g', f1, f2, f3⟩ := HFIN.out
        refine ⟨by rw [HI.out.2]; rfl, g', f1, .inr (Nat.le_trans H1.out.2.size f2), ?_⟩
        exact (Kp.of_below (S := fun k => k = x ∨ k = g) H1.out.2).trans f3 (fun _ _ h => h)
  · have hf : fd23 S.L s = some y := by rw [← hs]; exact fd23_mem HN.out.2.1.so.ne (List.mem_of_getElem? hy)
    have hE : Hid (oE23 S s n = 230) := oE23_nm (by have := HA.out; omega) (by have := HA.out; omega) (by have := HA.out; have := HN.out.1; omega) hf
    have hi0 : (0 : Int) ≤ (i : Int) := by omega
    clear hf hy hs
    go_wp2_with fail
    go_ret
    exact opq_no23 hE.out (by decide) HR.out H1.out.2
end Go.Proofs.Ytboangeopbblnaa
