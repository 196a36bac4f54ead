
import Derived.Test.YtidcdbdlaonoeaaFd1
namespace Go.Proofs.Ytidcdbdlaonoeaa
open Go.RowKit
set_option linter.unusedVariables false

/-! The document's Stands, less, Range, common, Longest (layer 14). -/
theorem drop_get14 (z : List Int) (i m : Nat) : (z.drop i).getD m 0 = z.getD (i + m) 0 := by simp [List.getD]
theorem cv_at14 {z p : List Int} {n m at_ i : Nat} (hn : z.length = n) (hm : p.length = m) (hat : at_ ≤ n) (hi : i ≤ lc13 (z.drop at_) p) (him : i < m) :
    (¬ at_ + i < n → cv13 (z.drop at_) p < 0) ∧ (at_ + i < n → z.getD (at_ + i) 0 = p.getD i 0 → i + 1 ≤ lc13 (z.drop at_) p) ∧ (at_ + i < n → ¬ z.getD (at_ + i) 0 = p.getD i 0 → (cv13 (z.drop at_) p < 0 ↔ z.getD (at_ + i) 0 < p.getD i 0) ∧ ¬ cv13 (z.drop at_) p = 0) := by
  have hdl : (z.drop at_).length = n - at_ := by rw [List.length_drop, hn]
  refine ⟨fun h => ?_, fun h e => ?_, fun h e => ?_⟩
  · have h1 := lc13_le (z.drop at_) p
    have h2 : lc13 (z.drop at_) p = (z.drop at_).length := by omega
    exact cv13_neg_iff.2 ((ll_iff13 _ _ (by omega)).2 (Or.inl h2))
  · exact lc13_more hi (by omega) (by omega) (by rw [drop_get14]; exact e)
  · have h1 : lc13 (z.drop at_) p = i := lc13_stop hi (by rw [drop_get14]; exact e)
    have h2 : ¬ lc13 (z.drop at_) p = p.length := by omega
    refine ⟨?_, fun k => h2 (cv13_zero_iff.1 k)⟩
    rw [cv13_neg_iff, ll_iff13 _ _ h2, h1, drop_get14]
    constructor
    · rintro (c | c)
      · omega
      · exact c
    · exact fun c => Or.inr c
set_option maxRecDepth 100000 in
set_option maxHeartbeats 2000000 in
theorem rless14 (da : Option Addr) (z : List Int) (n dc : Nat) (pa : Option Addr) (p : List Int) (m pc : Nat) (at_ : Nat) (w : World) (hs : Seg w da z) (hp : Seg w pa p) (hn : Hid (z.length = n)) (hm : Hid (p.length = m)) (hb : n ≤ 140737488351232) (hb2 : m ≤ 140737488351232) (hat : at_ ≤ n) :
    Calls Try.prog 29 #[.slice da n dc, .slice pa m pc, .int .i64 (at_ : Int)] w fun e w' => e = .returned (.bool (decide (cv13 (z.drop at_) p < 0))) ∧ ∃ d, w' = w.drewN d := by
  have KEY : Hid (∀ wr, (∃ d, wr = w.drewN d) → Seg wr da z ∧ Seg wr pa p) := by
    rintro wr ⟨d, rfl⟩
    exact ⟨hs.drewN d, hp.drewN d⟩
  have HL : Hid (lc13 (z.drop at_) p ≤ m) := by show _ ≤ _; rw [← hm.out]; exact lc13_le' _ _
  have HE : Hid (lc13 (z.drop at_) p = m → ¬ cv13 (z.drop at_) p < 0) := fun h => by rw [cv13_zero (by rw [hm.out]; exact h)]; omega
  have HAT : Hid (∀ i, i ≤ lc13 (z.drop at_) p → i < m → (¬ at_ + i < n → cv13 (z.drop at_) p < 0) ∧ (at_ + i < n → z.getD (at_ + i) 0 = p.getD i 0 → i + 1 ≤ lc13 (z.drop at_) p) ∧ (at_ + i < n → ¬ z.getD (at_ + i) 0 = p.getD i 0 → (cv13 (z.drop at_) p < 0 ↔ z.getD (at_ + i) 0 < p.getD i 0) ∧ ¬ cv13 (z.drop at_) p = 0)) := fun i h1 h2 => cv_at14 hn.out hm.out hat h1 h2
  clear hs hp
  generalize cv13 (z.drop at_) p = cv at *
  generalize lc13 (z.drop at_) p = lc at *
  go_enter Try.func29, Try.ntmps29
  go_wp2_with fail
  go_loopw [7] (fun ti wr => ∃ i : Nat, Hid (i ≤ lc) ∧ ti = .int .i64 i ∧ ∃ d, wr = w.drewN d) (fun ti _ => m - (intOf ti).toNat)
  case atStart => exact ⟨0, Nat.zero_le _, rfl, 0, rfl⟩
  case round =>
    obtain ⟨i, HI, rfl, hd⟩ := hrel
    obtain ⟨sx, sy⟩ := KEY.out wr hd
    obtain ⟨d, hd⟩ := hd
    have HD : Hid (wr = w.drewN d) := hd
    clear hd
    have hib : i ≤ m := by have := HL.out; have := HI.out; omega
    by_cases h1 : i < m
    · have h1i : (i : Int) < (m : Int) := by omega
      obtain ⟨k1, k2, k3⟩ := HAT.out i HI.out h1
      obtain ⟨s, hsm⟩ : ∃ s, s = at_ + i := ⟨_, rfl⟩
      have hsi : (at_ : Int) + (i : Int) = (s : Int) := by omega
      by_cases h2 : s < n
      · have h2i : ¬ (n : Int) ≤ (s : Int) := by omega
        have h2j : (s : Int) < (n : Int) := by omega
        rw [← hsm] at k2 k3
        obtain ⟨b1, o1, rfl, c1⟩ := sx.at_ s (by rw [hn.out]; omega)
        obtain ⟨b2, o2, rfl, c2⟩ := sy.at_ i (by rw [hm.out]; omega)
        have v1 := sx.bd s
        have v2 := sy.bd i
        have HEQ : Hid (z.getD s 0 = p.getD i 0 → i + 1 ≤ lc) := k2 h2
        have HNE : Hid (¬ z.getD s 0 = p.getD i 0 → (cv < 0 ↔ z.getD s 0 < p.getD i 0)) := fun h => (k3 h2 h).1
        clear sx sy k1 k2 k3 hsm
        generalize z.getD s 0 = x at *
        generalize p.getD i 0 = y at *
        by_cases hxy : x = y
        · subst hxy
          have HEQ2 : Hid (i + 1 ≤ lc) := HEQ.out rfl
          clear HEQ HNE
          go_wp2_with fail
          go_region
          go_wp2_with fail
          go_roundw
          case rel => exact ⟨i + 1, HEQ2, by go_num, d + 1, by rw [HD.out]; rfl⟩
          case measure => simp [intOf]; omega
        · have HNE2 : Hid (decide (cv < 0) = decide (x < y)) := by show _ = _; congr 1; exact propext (HNE.out hxy)
          clear HEQ HNE
          go_wp2_with fail
          go_region
          go_wp2_with fail
          go_region
          go_wp2_with fail
          go_ret
          exact ⟨by rw [HNE2.out]; rfl, d + 2, by rw [HD.out]; rfl⟩
      · have h2i : (n : Int) ≤ (s : Int) := by omega
        have HV : Hid (decide (cv < 0) = true) := decide_eq_true (k1 (by omega))
        clear k1 k2 k3 hsm
        go_wp2_with fail
        go_ret
        exact ⟨by rw [HV.out]; rfl, d, by rw [HD.out]⟩
    · have h1i : ¬ (i : Int) < (m : Int) := by omega
      have HV : Hid (decide (cv < 0) = false) := decide_eq_false (by have := HE.out (by have := HL.out; have := HI.out; omega); omega)
      go_wp2_with fail
      go_ret
      exact ⟨by rw [HV.out]; rfl, d, by rw [HD.out]⟩
set_option maxRecDepth 100000 in
set_option maxHeartbeats 2000000 in
theorem rstan14 (da : Option Addr) (z : List Int) (n dc : Nat) (pa : Option Addr) (p : List Int) (m pc : Nat) (at_ : Nat) (w : World) (hs : Seg w da z) (hp : Seg w pa p) (hn : Hid (z.length = n)) (hm : Hid (p.length = m)) (hb : n ≤ 140737488351232) (hb2 : m ≤ 140737488351232) (hat : at_ ≤ n) :
    Calls Try.prog 30 #[.slice da n dc, .slice pa m pc, .int .i64 (at_ : Int)] w fun e w' => e = .returned (.bool (decide (cv13 (z.drop at_) p = 0))) ∧ ∃ d, w' = w.drewN d := by
  have KEY : Hid (∀ wr, (∃ d, wr = w.drewN d) → Seg wr da z ∧ Seg wr pa p) := by
    rintro wr ⟨d, rfl⟩
    exact ⟨hs.drewN d, hp.drewN d⟩
  have HL : Hid (lc13 (z.drop at_) p ≤ m ∧ lc13 (z.drop at_) p ≤ n - at_) := ⟨by rw [← hm.out]; exact lc13_le' _ _, by rw [← hn.out, ← List.length_drop]; exact lc13_le _ _⟩
  have HE : Hid (cv13 (z.drop at_) p = 0 ↔ lc13 (z.drop at_) p = m) := by show _ ↔ _; rw [← hm.out]; exact cv13_zero_iff
  have HAT : Hid (∀ i, i ≤ lc13 (z.drop at_) p → i < m → (¬ at_ + i < n → cv13 (z.drop at_) p < 0) ∧ (at_ + i < n → z.getD (at_ + i) 0 = p.getD i 0 → i + 1 ≤ lc13 (z.drop at_) p) ∧ (at_ + i < n → ¬ z.getD (at_ + i) 0 = p.getD i 0 → (cv13 (z.drop at_) p < 0 ↔ z.getD (at_ + i) 0 < p.getD i 0) ∧ ¬ cv13 (z.drop at_) p = 0)) := fun i h1 h2 => cv_at14 hn.out hm.out hat h1 h2
  clear hs hp
  generalize cv13 (z.drop at_) p = cv at *
  generalize lc13 (z.drop at_) p = lc at *
  have g1 : ¬ (at_ : Int) < 0 := by omega
  have g2 : ¬ (n : Int) < (at_ : Int) := by omega
  have e1 : (n : Int) - (at_ : Int) = ((n - at_ : Nat) : Int) := by omega
  by_cases hr : n - at_ < m
  · have hri : ((n - at_ : Nat) : Int) < (m : Int) := by omega
    have HV : Hid (decide (cv = 0) = false) := decide_eq_false (fun h => by have := HE.out.1 h; have := HL.out; omega)
    go_enter Try.func30, Try.ntmps30
    go_wp2_with fail
    go_ret
    exact ⟨by rw [HV.out]; rfl, 0, rfl⟩
  · have hri : ¬ ((n - at_ : Nat) : Int) < (m : Int) := by omega
    have hrj : (at_ : Int) + (m : Int) ≤ (n : Int) := by omega
    go_enter Try.func30, Try.ntmps30
    go_wp2_with fail
    go_loopw [7] (fun ti wr => ∃ i : Nat, Hid (i ≤ lc) ∧ ti = .int .i64 i ∧ ∃ d, wr = w.drewN d) (fun ti _ => m - (intOf ti).toNat)
    case atStart => exact ⟨0, Nat.zero_le _, rfl, 0, rfl⟩
    case round =>
      obtain ⟨i, HI, rfl, hd⟩ := hrel
      obtain ⟨sx, sy⟩ := KEY.out wr hd
      obtain ⟨d, hd⟩ := hd
      have HD : Hid (wr = w.drewN d) := hd
      clear hd
      have hib : i ≤ m := by have := HL.out; have := HI.out; omega
      by_cases h1 : i < m
      · have h1i : (i : Int) < (m : Int) := by omega
        obtain ⟨k1, k2, k3⟩ := HAT.out i HI.out h1
        obtain ⟨s, hsm⟩ : ∃ s, s = at_ + i := ⟨_, rfl⟩
        have hsi : (at_ : Int) + (i : Int) = (s : Int) := by omega
        have h2 : s < n := by omega
        have h2j : (s : Int) < (n : Int) := by omega
        rw [← hsm] at k2 k3
        obtain ⟨b1, o1, rfl, c1⟩ := sx.at_ s (by rw [hn.out]; omega)
        obtain ⟨b2, o2, rfl, c2⟩ := sy.at_ i (by rw [hm.out]; omega)
        have v1 := sx.bd s
        have v2 := sy.bd i
        have HEQ : Hid (z.getD s 0 = p.getD i 0 → i + 1 ≤ lc) := k2 h2
        have HNE : Hid (¬ z.getD s 0 = p.getD i 0 → ¬ cv = 0) := fun h => (k3 h2 h).2
        clear sx sy k1 k2 k3 hsm
        generalize z.getD s 0 = x at *
        generalize p.getD i 0 = y at *
        by_cases hxy : x = y
        · subst hxy
          have HEQ2 : Hid (i + 1 ≤ lc) := HEQ.out rfl
          clear HEQ HNE
          go_wp2_with fail
          go_region
          go_wp2_with fail
          go_roundw
          case rel => exact ⟨i + 1, HEQ2, by go_num, d + 1, by rw [HD.out]; rfl⟩
          case measure => simp [intOf]; omega
        · have HNE2 : Hid (decide (cv = 0) = false) := decide_eq_false (HNE.out hxy)
          clear HEQ HNE
          go_wp2_with fail
          go_region
          go_wp2_with fail
          go_ret
          exact ⟨by rw [HNE2.out]; rfl, d + 1, by rw [HD.out]; rfl⟩
      · have h1i : ¬ (i : Int) < (m : Int) := by omega
        have HV : Hid (decide (cv = 0) = true) := decide_eq_true (HE.out.2 (by have := HL.out; have := HI.out; omega))
        go_wp2_with fail
        go_ret
        exact ⟨by rw [HV.out]; rfl, d, by rw [HD.out]⟩
/-- The ranks, of which so many places are counted. -/
noncomputable def loK14 (z p : List Int) (k : Nat) : Nat := cn12 (fun j => cv13 (z.drop j) p < 0) k
noncomputable def hiK14 (z p : List Int) (k : Nat) : Nat := cn12 (fun j => cv13 (z.drop j) p ≤ 0) k
theorem loK14_yes {z p : List Int} {k : Nat} (h : cv13 (z.drop k) p < 0) : loK14 z p (k + 1) = loK14 z p k + 1 := by
  unfold loK14
  show cn12 _ k + _ = _
  rw [if_pos h]
theorem loK14_no {z p : List Int} {k : Nat} (h : ¬ cv13 (z.drop k) p < 0) : loK14 z p (k + 1) = loK14 z p k := by
  unfold loK14
  show cn12 _ k + _ = _
  rw [if_neg h]
  rfl
theorem hiK14_yes {z p : List Int} {k : Nat} (h : cv13 (z.drop k) p ≤ 0) : hiK14 z p (k + 1) = hiK14 z p k + 1 := by
  unfold hiK14
  show cn12 _ k + _ = _
  rw [if_pos h]
theorem hiK14_no {z p : List Int} {k : Nat} (h : ¬ cv13 (z.drop k) p ≤ 0) : hiK14 z p (k + 1) = hiK14 z p k := by
  unfold hiK14
  show cn12 _ k + _ = _
  rw [if_neg h]
  rfl
theorem below_drewN14 (w : World) (d : Nat) : Below w.heap.size w (w.drewN d) := ⟨rfl, rfl, rfl, Nat.le_refl _, fun _ _ => rfl⟩
theorem drewN14 (w : World) (a b : Nat) : (w.drewN a).drewN b = w.drewN (a + b) := by simp [World.drewN, Nat.add_assoc]
set_option maxRecDepth 100000 in
set_option maxHeartbeats 2000000 in
theorem rrange14 (da : Option Addr) (z : List Int) (n dc : Nat) (pa : Option Addr) (p : List Int) (m pc : Nat) (w : World) (hs : Seg w da z) (hp : Seg w pa p) (hn : Hid (z.length = n)) (hm : Hid (p.length = m)) (hb : n ≤ 140737488351232) (hb2 : m ≤ 140737488351232) :
    Calls Try.prog 12 #[.slice da n dc, .slice pa m pc] w fun e w' => e = .returned (.tuple #[.int .i64 ((lo14 z p : Nat) : Int), .int .i64 ((hi14 z p : Nat) : Int)]) ∧ ∃ d, w' = w.drewN d := by
  have HLE : Hid (∀ i d, i ≤ n → Calls Try.prog 29 #[.slice da n dc, .slice pa m pc, .int .i64 (i : Int)] (w.drewN d) fun e w' => e = .returned (.bool (decide (cv13 (z.drop i) p < 0))) ∧ ∃ d, w' = w.drewN d) := fun i d hi => (rless14 da z n dc pa p m pc i _ (hs.drewN d) (hp.drewN d) hn hm hb hb2 hi).mono fun e w' ⟨he, d2, hd⟩ => ⟨he, d + d2, by rw [hd, drewN14]⟩
  have HST : Hid (∀ i d, i ≤ n → Calls Try.prog 30 #[.slice da n dc, .slice pa m pc, .int .i64 (i : Int)] (w.drewN d) fun e w' => e = .returned (.bool (decide (cv13 (z.drop i) p = 0))) ∧ ∃ d, w' = w.drewN d) := fun i d hi => (rstan14 da z n dc pa p m pc i _ (hs.drewN d) (hp.drewN d) hn hm hb hb2 hi).mono fun e w' ⟨he, d2, hd⟩ => ⟨he, d + d2, by rw [hd, drewN14]⟩
  have HLO : Hid (lo14 z p = loK14 z p n) := by show _ = _; unfold lo14 loK14; rw [hn.out]
  have HHI : Hid (hi14 z p = hiK14 z p n) := by show _ = _; unfold hi14 hiK14; rw [hn.out]
  have HB1 : Hid (∀ k, loK14 z p k ≤ k ∧ hiK14 z p k ≤ k) := fun k => ⟨cn12_bd14 _ _, cn12_bd14 _ _⟩
  rw [HLO.out, HHI.out]
  clear hs hp
  go_enter Try.func12, Try.ntmps12
  go_wp2_with fail
  go_loopw [6, 7, 8] (fun tl th ti wr => ∃ i lo hi : Nat, i ≤ n ∧ tl = .int .i64 lo ∧ th = .int .i64 hi ∧ ti = .int .i64 i ∧ Hid (lo = loK14 z p i) ∧ Hid (hi = hiK14 z p i) ∧ ∃ d, wr = w.drewN d) (fun _ _ ti _ => n - (intOf ti).toNat)
  case atStart => exact ⟨0, 0, 0, Nat.zero_le _, rfl, rfl, rfl, (rfl : _ = _), (rfl : _ = _), 0, rfl⟩
  case round =>
    obtain ⟨i, lo, hi, hin, rfl, rfl, rfl, HA, HC, d, hd⟩ := hrel
    have hlb : lo ≤ i ∧ hi ≤ i := by rw [HA.out, HC.out]; exact HB1.out i
    by_cases h1 : i < n
    · have h1i : (i : Int) < (n : Int) := by omega
      have C1 := HLE.out i d hin
      rw [← hd] at C1
      by_cases hv : cv13 (z.drop i) p < 0
      · have N1 : Hid (lo + 1 = loK14 z p (i + 1)) := by show _ = _; rw [loK14_yes hv, HA.out]
        have N2 : Hid (hi + 1 = hiK14 z p (i + 1)) := by show _ = _; rw [hiK14_yes (by omega), HC.out]
        rw [decide_eq_true hv] at C1
        clear hv hd
        go_wp2_with (first
          | (go_at_call 29; refine C1.mono ?_; rintro e1 w1 ⟨rfl, d2, hd2⟩; have HD : Hid (w1 = w.drewN d2) := hd2; clear hd2 C1))
        go_roundw
        case rel => exact ⟨i + 1, lo + 1, hi + 1, by omega, by go_num, by go_num, by go_num, N1, N2, d2, HD.out⟩
        case measure => simp [intOf]; omega
      · have N1 : Hid (lo = loK14 z p (i + 1)) := by show _ = _; rw [loK14_no hv, HA.out]
        rw [decide_eq_false hv] at C1
        have HS2 : Hid (∀ d, Calls Try.prog 30 #[.slice da n dc, .slice pa m pc, .int .i64 (i : Int)] (w.drewN d) fun e w' => e = .returned (.bool (decide (cv13 (z.drop i) p = 0))) ∧ ∃ d, w' = w.drewN d) := fun d => HST.out i d hin
        by_cases hv2 : cv13 (z.drop i) p = 0
        · have N2 : Hid (hi + 1 = hiK14 z p (i + 1)) := by show _ = _; rw [hiK14_yes (by omega), HC.out]
          rw [decide_eq_true hv2] at HS2
          clear hv hv2 hd
          go_wp2_with (first
            | (go_at_call 29; refine C1.mono ?_; rintro e1 w1 ⟨rfl, d2, hd2⟩; have C2 := HS2.out d2; rw [← hd2] at C2; clear hd2 C1)
            | (go_at_call 30; refine C2.mono ?_; rintro e2 w2 ⟨rfl, d3, hd3⟩; have HD : Hid (w2 = w.drewN d3) := hd3; clear hd3 C2))
          go_roundw
          case rel => exact ⟨i + 1, lo, hi + 1, by omega, by go_num, by go_num, by go_num, N1, N2, d3, HD.out⟩
          case measure => simp [intOf]; omega
        · have N2 : Hid (hi = hiK14 z p (i + 1)) := by show _ = _; rw [hiK14_no (by omega), HC.out]
          rw [decide_eq_false hv2] at HS2
          clear hv hv2 hd
          go_wp2_with (first
            | (go_at_call 29; refine C1.mono ?_; rintro e1 w1 ⟨rfl, d2, hd2⟩; have C2 := HS2.out d2; rw [← hd2] at C2; clear hd2 C1)
            | (go_at_call 30; refine C2.mono ?_; rintro e2 w2 ⟨rfl, d3, hd3⟩; have HD : Hid (w2 = w.drewN d3) := hd3; clear hd3 C2))
          go_roundw
          case rel => exact ⟨i + 1, lo, hi, by omega, by go_num, by go_num, by go_num, N1, N2, d3, HD.out⟩
          case measure => simp [intOf]; omega
    · have h1i : ¬ (i : Int) < (n : Int) := by omega
      obtain rfl : i = n := by omega
      have HD : Hid (wr = w.drewN d) := hd
      clear hd
      go_wp2_with fail
      refine bodyPost_ret (results_tmp2 rfl _ _ _) rfl ?_
      exact ⟨by rw [← HA.out, ← HC.out]; rfl, d, HD.out⟩
end Go.Proofs.Ytidcdbdlaonoeaa
