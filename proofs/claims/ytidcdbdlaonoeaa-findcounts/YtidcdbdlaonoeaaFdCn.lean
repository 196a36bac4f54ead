
import Derived.Test.YtidcdbdlaonoeaaFd5
namespace Go.Proofs.Ytidcdbdlaonoeaa
open Go.RowKit
set_option linter.unusedVariables false

/-! FindCounts: the walk. -/
set_option maxRecDepth 100000 in
set_option maxHeartbeats 4000000 in
theorem findCounts_walk (w : World) (a : Option Addr) (z : List Int) (ca : Nat) (hs : Seg w a z) (hc : z.length ≤ ca) (hnil : a = none → ca = 0) (hl : z.length ≤ 140737488351232) :
    Calls Try.prog 7 #[.slice a z.length ca] w fun e w' => e = .returned (.bool true) ∧ Below w.heap.size w w' := by
  generalize hn0 : z.length = n at *
  have hn : Hid (z.length = n) := hn0
  clear hn0
  have HAW : Hid (∀ W, Below w.heap.size w W → Calls Try.prog 9 #[] W fun e w' => e = .returned (.bool true) ∧ Below w.heap.size w w') := fun W hb => awkW14 hb
  by_cases h24 : 16777216 < n
  · have HN := pidxn14 a n ca w h24 (by omega)
    have AW := HAW.out w (Below.refl _ _)
    clear hs
    go_enter Try.func7, Try.ntmps7
    go_wp2_with (first
      | (go_at_call 8; refine HN.mono ?_; rintro e1 w1 ⟨rfl, hw1⟩; subst hw1; clear HN)
      | (go_at_call 9; refine AW.mono ?_; rintro e2 w2 ⟨rfl, B2⟩))
    go_ret
    exact ⟨rfl, B2⟩
  · have HN := pidx14 a z n ca w hs hnil hn (by omega)
    clear hs
    have hn24 : n ≤ 16777216 := by omega
    have hT2 : n * (n + 1) ≤ 16777216 * 16777217 := Nat.mul_le_mul hn24 (by omega)
    obtain ⟨T2, hT⟩ : ∃ T2, T2 = n * (n + 1) := ⟨_, rfl⟩
    have HT2 : Hid (T2 = n * (n + 1)) := hT
    have hm1 : (n : Int) * ((n : Int) + 1) = (T2 : Int) := by rw [hT]; push_cast; rfl
    rw [← hT] at hT2
    clear hT
    have i1 : IntKind.i64.wrap ((n : Int) * ((n : Int) + 1)) = (T2 : Int) := by rw [hm1]; exact IntWalk.i64_in _ (by omega)
    clear hm1
    obtain ⟨T0, hT0⟩ : ∃ T0, T0 = T2 / 2 := ⟨_, rfl⟩
    have i2 : (T2 : Int).tdiv 2 = (T0 : Int) := by rw [Int.tdiv_eq_ediv_of_nonneg (by omega)]; omega
    have i3 : (T2 : Int) / 2 = (T0 : Int) := by omega
    have hT0b : T0 ≤ 281474993487872 := by omega
    have HT0 : Hid (T0 = T2 / 2) := hT0
    clear hT0
    go_enter Try.func7, Try.ntmps7
    go_wp2_with (first
      | (go_at_call 8; refine HN.mono ?_; rintro e1 w1 ⟨b, A, rfl, hI, B1⟩; clear HN)
      | (go_at_call 23; fail))
    have HP := hI.lcp
    have HTD : Hid (T0 = dt14 z A 0) := by
      show _ = _
      have h1 := dt14_zero hI.arz
      rw [hn.out, ← HT2.out] at h1
      rw [HT0.out]
      omega
    have HEND : Hid (dt14 z A n = ks13 z A n) := by have := dt14_end z A; rw [hn.out] at this; exact this
    have HST : Hid (∀ r, r < n → dt14 z A (r + 1) + lv13 z A r = dt14 z A r) := fun r hr => dt14_step (by rw [hn.out]; exact hr)
    have HLE : Hid (∀ r, dt14 z A r ≤ dt14 z A 0) := dt14_le z A
    refine HP.mono ?_
    rintro e3 w3 ⟨g, rfl, hR, B13⟩
    have B3 := B1.trans (B13.mono B1.size)
    have HDI := pdist14 b n z A w3 (hI.old B13)
    have HR : Hid (∀ r, r < n → w3.cell? ⟨g, r, none⟩ = some (.int .i64 ((lv13 z A r : Nat) : Int))) := fun r hr => by
      have := hR.cell (i := r) (by rw [lp13_len, hn.out]; exact hr)
      rw [lp13_get (by rw [hn.out]; exact hr)] at this
      exact this
    clear hR HP hI HT0
    go_wp2_with fail
    go_loopw [5, 7] (fun tt ti wr => ∃ r t : Nat, r ≤ n ∧ tt = .int .i64 t ∧ ti = .int .i64 r ∧ Hid (t = dt14 z A r) ∧ wr = w3) (fun _ ti _ => n - (intOf ti).toNat)
    case atStart => exact ⟨0, T0, Nat.zero_le _, by first | rfl | go_num, rfl, HTD, rfl⟩
    case round =>
      obtain ⟨r, t, hr, rfl, rfl, HD, hw⟩ := hrel
      subst hw
      by_cases h1 : r < n
      · have h1i : (r : Int) < (n : Int) := by omega
        have c1 := HR.out r h1
        have hs := HST.out r h1
        have ht0 := HLE.out r
        rw [← HD.out] at hs ht0
        rw [← HTD.out] at ht0
        obtain ⟨t', ht'⟩ : ∃ t', t' = dt14 z A (r + 1) := ⟨_, rfl⟩
        have HT' : Hid (t' = dt14 z A (r + 1)) := ht'
        rw [← ht'] at hs
        clear ht'
        generalize lv13 z A r = v at *
        have e1 : (t : Int) - (v : Int) = (t' : Int) := by omega
        have hvb : v ≤ 281474993487872 := by omega
        clear hs
        go_wp2_with fail
        go_roundw
        case rel => exact ⟨r + 1, t', by omega, by first | rfl | go_num, by go_num, HT', by first | trivial | rfl⟩
        case measure => simp [intOf]; omega
      · have h1i : ¬ (r : Int) < (n : Int) := by omega
        obtain rfl : r = n := by omega
        have HE : Hid (ks13 z A r = t) := by show _ = _; rw [← HEND.out, ← HD.out]
        rw [HE.out] at HDI
        go_wp2_with (first
          | (go_at_call 21; refine HDI.mono ?_; rintro e4 w4 ⟨rfl, B4⟩; clear HDI; have B5 := B3.trans (B4.mono B3.size))
          | (go_at_call 9; refine (HAW.out w4 B5).mono ?_; rintro e5 w5 ⟨rfl, B6⟩))
        go_ret
        exact ⟨by first | rfl | simp, B6⟩
end Go.Proofs.Ytidcdbdlaonoeaa
