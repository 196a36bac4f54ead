
import Derived.Test.YtidcdbdlaonoeaaFd5
namespace Go.Proofs.Ytidcdbdlaonoeaa
open Go.RowKit
set_option linter.unusedVariables false

/-! FindDistinct: the document's Distinct, and the walk. -/
set_option maxRecDepth 100000 in
set_option maxHeartbeats 4000000 in
theorem rdist14 (a : Option Addr) (z : List Int) (n ca : Nat) (w : World) (hs : Seg w a z) (hn : Hid (z.length = n)) (hca : n ≤ ca) (hb : n ≤ 16777216) :
    Calls Try.prog 22 #[.slice a n ca] w fun e w' => e = .returned (.int .i64 ((ds14 z n : Nat) : Int)) ∧ ∃ d, w' = w.drewN d := by
  have HDB : Hid (∀ k, k ≤ n → ds14 z k ≤ 281474976710656) := fun k hk => by
    have h1 := ds14_le z k
    rw [hn.out] at h1
    have h2 : k * n ≤ 16777216 * 16777216 := Nat.mul_le_mul (by omega) hb
    omega
  have HML : Hid (∀ i k, mp14 z (z.drop i) k ≤ n - i) := fun i k => by
    have := mp14_le z (z.drop i) k
    rw [List.length_drop, hn.out] at this
    exact this
  have HDS : Hid (∀ i, ds14 z (i + 1) = ds14 z i + (n - i - mp14 z (z.drop i) i)) := fun i => by
    unfold ds14
    rw [hn.out]
    rfl
  have HCO : Hid (∀ i k d xb off, a = some ⟨xb, off, none⟩ → i < n → k ≤ n → Calls Try.prog 37 #[.slice (some ⟨xb, off, none⟩) n ca, .slice (some ⟨xb, off + i, none⟩) (n - i) (ca - i), .int .i64 (k : Int)] (w.drewN d) fun e w' => e = .returned (.int .i64 ((lc13 (z.drop k) (z.drop i) : Nat) : Int)) ∧ ∃ d, w' = w.drewN d) := fun i k d xb off he hi hk => by
    subst he
    exact (rcomm14 (some ⟨xb, off, none⟩) z n ca (some ⟨xb, off + i, none⟩) (z.drop i) (n - i) (ca - i) k (w.drewN d) (hs.drewN d) ((hs.drewN d).drop i) hn (by show _ = _; rw [List.length_drop, hn.out]) (by omega) (by omega) hk).mono fun e w' ⟨he, d2, hd⟩ => ⟨he, d + d2, by rw [hd, drewN14]⟩
  have HAD : Hid (0 < n → ∃ xb off, a = some ⟨xb, off, none⟩) := fun h => by
    obtain ⟨xb, off, he, -⟩ := hs.at_ 0 (by rw [hn.out]; exact h)
    exact ⟨xb, off, he⟩
  clear hs
  go_enter Try.func22, Try.ntmps22
  go_wp2_with fail
  go_loopw [3, 4] (fun ts ti wr => ∃ i s : Nat, i ≤ n ∧ ts = .int .i64 s ∧ ti = .int .i64 i ∧ Hid (s = ds14 z i) ∧ ∃ d, wr = w.drewN d) (fun _ ti _ => n - (intOf ti).toNat)
  case atStart => exact ⟨0, 0, Nat.zero_le _, rfl, rfl, (rfl : _ = _), 0, rfl⟩
  case round =>
    obtain ⟨i, s, hi, rfl, rfl, HS, d0, hd0⟩ := hrel
    have HD0 : Hid (wr = w.drewN d0) := hd0
    rename World => wo
    clear hd0
    by_cases h1 : i < n
    · have h1i : (i : Int) < (n : Int) := by omega
      obtain ⟨xb, off, rfl⟩ := HAD.out (by omega)
      have HC2 : Hid (∀ k d, k ≤ n → Calls Try.prog 37 #[.slice (some ⟨xb, off, none⟩) n ca, .slice (some ⟨xb, off + i, none⟩) (n - i) (ca - i), .int .i64 (k : Int)] (w.drewN d) fun e w' => e = .returned (.int .i64 ((lc13 (z.drop k) (z.drop i) : Nat) : Int)) ∧ ∃ d, w' = w.drewN d) := fun k d hk => HCO.out i k d xb off rfl h1 hk
      have hsb : s ≤ 281474976710656 := by rw [HS.out]; exact HDB.out i hi
      have hsb2 := HDB.out (i + 1) h1
      have HSN : Hid (∀ m, m = mp14 z (z.drop i) i → s + (n - i - m) = ds14 z (i + 1)) := fun m hm => by rw [HDS.out i, HS.out, hm]
      have l1 : i ≤ n := by omega
      have l3 : ¬ ca = i := by omega
      go_wp2_with fail
      go_loopw [5, 6] (fun tm tk wr => ∃ k m : Nat, k ≤ i ∧ tm = .int .i64 m ∧ tk = .int .i64 k ∧ Hid (m = mp14 z (z.drop i) k) ∧ ∃ d, wr = w.drewN d) (fun _ tk _ => i - (intOf tk).toNat)
      case atStart => exact ⟨0, 0, Nat.zero_le _, rfl, rfl, (rfl : _ = _), d0, HD0.out⟩
      case round =>
        obtain ⟨k, m, hk, rfl, rfl, HM, d, hd⟩ := hrel
        have hmb : m ≤ n - i := by rw [HM.out]; exact HML.out i k
        by_cases h2 : k < i
        · have h2i : (k : Int) < (i : Int) := by omega
          have CC := HC2.out k d (by omega)
          rw [← hd] at CC
          have HMX : Hid (mp14 z (z.drop i) (k + 1) = max m (lc13 (z.drop k) (z.drop i))) := by show _ = _; rw [HM.out]; rfl
          have hlb := HML.out i (k + 1)
          rw [HMX.out] at hlb
          clear hd
          generalize lc13 (z.drop k) (z.drop i) = v at *
          by_cases h3 : m < v
          · have h3i : (m : Int) < (v : Int) := by omega
            have HMN : Hid (v = mp14 z (z.drop i) (k + 1)) := by show _ = _; rw [HMX.out]; omega
            clear HMX
            go_wp2_with (first
              | (go_at_call 37; refine CC.mono ?_; rintro e1 w1 ⟨rfl, d2, hd2⟩; have HD2 : Hid (w1 = w.drewN d2) := hd2; clear hd2 CC))
            go_roundw
            case rel => exact ⟨k + 1, v, by omega, by first | rfl | go_num, by go_num, HMN, d2, HD2.out⟩
            case measure => simp [intOf]; omega
          · have h3i : ¬ (m : Int) < (v : Int) := by omega
            have HMN : Hid (m = mp14 z (z.drop i) (k + 1)) := by show _ = _; rw [HMX.out]; omega
            clear HMX
            go_wp2_with (first
              | (go_at_call 37; refine CC.mono ?_; rintro e1 w1 ⟨rfl, d2, hd2⟩; have HD2 : Hid (w1 = w.drewN d2) := hd2; clear hd2 CC))
            go_roundw
            case rel => exact ⟨k + 1, m, by omega, by first | rfl | go_num, by go_num, HMN, d2, HD2.out⟩
            case measure => simp [intOf]; omega
        · have h2i : ¬ (k : Int) < (i : Int) := by omega
          obtain rfl : k = i := by omega
          have HD : Hid (wr = w.drewN d) := hd
          have HNX := HSN.out m HM.out
          clear hd
          obtain ⟨s', hs'⟩ : ∃ s', s' = s + (n - k - m) := ⟨_, rfl⟩
          have HS' : Hid (s' = ds14 z (k + 1)) := by show _ = _; rw [hs', HNX]
          have e1 : (n : Int) - (k : Int) = ((n - k : Nat) : Int) := by omega
          have e2 : ((n - k : Nat) : Int) - (m : Int) = ((n - k - m : Nat) : Int) := by omega
          have e3 : (s : Int) + ((n - k - m : Nat) : Int) = (s' : Int) := by omega
          have hsb3 : s' ≤ 281474976710656 := by rw [HS'.out]; exact hsb2
          have i3 : IntKind.i64.wrap ((s : Int) + ((n - k - m : Nat) : Int)) = (s' : Int) := by rw [e3]; exact IntWalk.i64_in _ (by omega)
          clear HNX hs' e3 hsb2
          go_wp2_with fail
          go_roundw
          case rel => exact ⟨k + 1, s', by omega, by first | rfl | go_num | (rw [i3]), by go_num, HS', d, HD.out⟩
          case measure => simp [intOf]; omega
    · have h1i : ¬ (i : Int) < (n : Int) := by omega
      obtain rfl : i = n := by omega
      go_wp2_with fail
      go_ret
      exact ⟨by rw [HS.out]; rfl, d0, HD0.out⟩
set_option maxRecDepth 100000 in
set_option maxHeartbeats 4000000 in
theorem findDistinct_walk (w : World) (a : Option Addr) (z : List Int) (ca : Nat) (hs : Seg w a z) (hc : z.length ≤ ca) (hnil : a = none → ca = 0) (hl : z.length ≤ 140737488351232) :
    Calls Try.prog 6 #[.slice a z.length ca] w fun e w' => e = .returned (.bool true) ∧ Below w.heap.size w w' := by
  generalize hn0 : z.length = n at *
  have hn : Hid (z.length = n) := hn0
  clear hn0
  have HAW : Hid (∀ W, Below w.heap.size w W → Calls Try.prog 9 #[] W fun e w' => e = .returned (.bool true) ∧ Below w.heap.size w w') := fun W hb => awkW14 hb
  by_cases h24 : 16777216 < n
  · have HN := pidxn14 a n ca w h24 (by omega)
    have AW := HAW.out w (Below.refl _ _)
    clear hs
    go_enter Try.func6, Try.ntmps6
    go_wp2_with (first
      | (go_at_call 8; refine HN.mono ?_; rintro e1 w1 ⟨rfl, hw1⟩; subst hw1; clear HN)
      | (go_at_call 9; refine AW.mono ?_; rintro e2 w2 ⟨rfl, B2⟩))
    go_ret
    exact ⟨rfl, B2⟩
  · have HN := pidx14 a z n ca w hs hnil hn (by omega)
    have HRD : Hid (∀ W, Below w.heap.size w W → Calls Try.prog 22 #[.slice a n ca] W fun e w' => e = .returned (.int .i64 ((ds14 z n : Nat) : Int)) ∧ Below w.heap.size w w') := fun W hb => (rdist14 a z n ca W (hs.old hb) hn hc (by omega)).mono fun e w' ⟨he, d, hd⟩ => ⟨he, by rw [hd]; exact hb.trans ((below_drewN14 W d).mono hb.size)⟩
    clear hs
    go_enter Try.func6, Try.ntmps6
    go_wp2_with (first
      | (go_at_call 8; refine HN.mono ?_; rintro e1 w1 ⟨b, A, rfl, hI, B1⟩; clear HN)
      | (go_at_call 21; fail))
    have HDI := pdist14 b n z A w1 hI
    have HEQ : Hid (ds14 z n = ks13 z A n) := by have := ds14_all hI.arz; rw [hn.out] at this; exact this
    rw [HEQ.out] at HRD
    clear hI
    generalize ks13 z A n = v at *
    refine HDI.mono ?_
    rintro e2 w2 ⟨rfl, B12⟩
    have B2 := B1.trans (B12.mono B1.size)
    have AW : Hid (∀ W, Below w.heap.size w W → Calls Try.prog 9 #[] W fun e w' => e = .returned (.bool true) ∧ Below w.heap.size w w') := HAW
    have RD := HRD.out w2 B2
    clear HDI
    go_wp2_with (first
      | (go_at_call 22; refine RD.mono ?_; rintro e3 w3 ⟨rfl, B3⟩; clear RD)
      | (go_at_call 9; refine (HAW.out w3 B3).mono ?_; rintro e5 w5 ⟨rfl, B6⟩))
    go_ret
    exact ⟨by first | rfl | simp, B6⟩
end Go.Proofs.Ytidcdbdlaonoeaa
