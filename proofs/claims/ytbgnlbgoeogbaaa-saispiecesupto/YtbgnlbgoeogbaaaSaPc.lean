
import Derived.Test.YtbgnlbgoeogbaaaSaOr
import Derived.Test.YtbgnlbgoeogbaaaSa17
import Derived.Deep.RegionHeld3
namespace Go.Proofs.Ytbgnlbgoeogbaaa
open Go.RowKit
set_option linter.unusedVariables false

/-! SaisPieces: pieceLess. -/
/-- As far as two pieces are alike, the order of the rest is theirs. -/
structure Pl12 (n : Nat) (S : Nat → Int) (sm : Nat → Bool) (x y i : Nat) : Prop where
  p : 0 < i → ((LL12 (tkey12 n S sm (x + i)) (tkey12 n S sm (y + i)) → LL12 (key12 n S sm x) (key12 n S sm y)) ∧ sm (x + i - 1) = sm (y + i - 1))
theorem Pl12.zero (n : Nat) (S : Nat → Int) (sm : Nat → Bool) (x y : Nat) : Pl12 n S sm x y 0 := ⟨fun h => by omega⟩
theorem Pl12.less {n : Nat} {S : Nat → Int} {sm : Nat → Bool} {x y i : Nat} (h : Pl12 n S sm x y i) (hx : x + i < n) (hy : y + i < n) (hc : cd12 S sm (x + i) < cd12 S sm (y + i)) : LL12 (key12 n S sm x) (key12 n S sm y) := by
  by_cases h0 : i = 0
  · subst h0
    unfold key12
    exact .lt hc
  · refine (h.p (by omega)).1 ?_
    obtain ⟨a, ha⟩ := tkey12_head (S := S) (sm := sm) hx
    obtain ⟨b, hb⟩ := tkey12_head (S := S) (sm := sm) hy
    rw [ha, hb]
    exact .lt hc
theorem Pl12.fin {n : Nat} {S : Nat → Int} {sm : Nat → Bool} {x y i : Nat} (h : Pl12 n S sm x y i) (hx : x < n) (h1 : x + i = n) (h2 : y + i < n) : LL12 (key12 n S sm x) (key12 n S sm y) := by
  refine (h.p (by omega)).1 ?_
  rw [tkey12_none (i := x + i) (by omega)]
  obtain ⟨b, hb⟩ := tkey12_head (n := n) (S := S) (sm := sm) (i := y + i) h2
  rw [hb]
  exact .nil
theorem Pl12.turns {n : Nat} {S : Nat → Int} {sm : Nat → Bool} {x y i : Nat} (h : Pl12 n S sm x y i) (hi : 0 < i) (he : sm (x + i) = sm (y + i)) : tn12 sm (x + i) ↔ tn12 sm (y + i) := by
  have := (h.p hi).2
  unfold tn12
  rw [he, this]
  constructor
  · rintro ⟨_, b, c⟩; exact ⟨by omega, b, c⟩
  · rintro ⟨_, b, c⟩; exact ⟨by omega, b, c⟩
theorem Pl12.step {n : Nat} {S : Nat → Int} {sm : Nat → Bool} {x y i : Nat} (h : Pl12 n S sm x y i) (hx : x + i < n) (hy : y + i < n) (e1 : S (x + i) = S (y + i)) (e2 : sm (x + i) = sm (y + i)) (ht : 0 < i → ¬ tn12 sm (x + i)) : Pl12 n S sm x y (i + 1) := by
  refine ⟨fun _ => ⟨fun hl => ?_, e2⟩⟩
  have hcd := cd12_eq.2 ⟨e1, e2⟩
  by_cases h0 : i = 0
  · subst h0
    unfold key12
    simp only [Nat.add_zero] at hcd
    rw [hcd]
    exact .eq hl
  · have ht1 := ht (by omega)
    have ht2 : ¬ tn12 sm (y + i) := fun k => ht1 ((h.turns (by omega) e2).2 k)
    refine (h.p (by omega)).1 ?_
    rw [tkey12_on hx ht1, tkey12_on hy ht2]
    unfold key12
    rw [hcd]
    exact .eq hl
def PlQ12 (w : World) (P : Prop) (e : Ending) (w' : World) : Prop := ∃ B C : Bool, e = .returned (.tuple #[.bool B, .bool C]) ∧ (B = true → P) ∧ ∃ d, w' = w.drewN d
set_option maxRecDepth 100000 in
set_option maxHeartbeats 4000000 in
theorem ppls12 (a sa : Option Addr) (s : List Int) (n cap sc x y : Nat) (w : World) (hs : SegZ w a s) (hn : Hid (s.length = n)) (ht : SegB w sa (typ12 s)) (hb : n ≤ 16777216) (hx : x < n) (hy : y < n) :
    Calls Try.prog 21 #[.slice a n cap, .slice sa n sc, .int .i64 (x : Int), .int .i64 (y : Int)] w (PlQ12 w (LL12 (key12 n (S12 s) (sm12 s) x) (key12 n (S12 s) (sm12 s) y))) := by
  have HKEY : Hid (∀ wr, (∃ d, wr = w.drewN d) → ∀ q, q < n → ∃ b off b2 off2, a = some ⟨b, off, none⟩ ∧ sa = some ⟨b2, off2, none⟩ ∧ wr.cell? ⟨b, off + q, none⟩ = some (.int .i64 (s.getD q 0)) ∧ wr.cell? ⟨b2, off2 + q, none⟩ = some (.bool (sm12 s q))) := by
    rintro wr ⟨d, rfl⟩ q hq
    obtain ⟨b, off, h1, h2⟩ := hs.at_ q (by rw [hn.out]; exact hq)
    obtain ⟨b2, off2, h3, h4⟩ := ht.at_ q (by rw [typ12_len, hn.out]; exact hq)
    rw [typ12_get] at h4
    exact ⟨b, off, b2, off2, h1, h3, h2, h4⟩
  have HBD : Hid (∀ i, -9223372036854775808 ≤ s.getD i 0 ∧ s.getD i 0 ≤ 9223372036854775807) := hs.bd
  obtain ⟨ab, ao, sb, so, rfl, rfl, -, -⟩ := HKEY.out w ⟨0, rfl⟩ x hx
  have HK2 : Hid (∀ wr, (∃ d, wr = w.drewN d) → ∀ q, q < n → wr.cell? ⟨ab, ao + q, none⟩ = some (.int .i64 (s.getD q 0)) ∧ wr.cell? ⟨sb, so + q, none⟩ = some (.bool (sm12 s q))) := by
    intro wr hd q hq
    obtain ⟨b, off, b2, off2, h1, h2, h3, h4⟩ := HKEY.out wr hd q hq
    cases h1
    cases h2
    exact ⟨h3, h4⟩
  clear hs ht HKEY
  obtain ⟨P, hP⟩ : ∃ P, P = LL12 (key12 n (S12 s) (sm12 s) x) (key12 n (S12 s) (sm12 s) y) := ⟨_, rfl⟩
  rw [← hP]
  have HP : Hid (P = LL12 (key12 n (S12 s) (sm12 s) x) (key12 n (S12 s) (sm12 s) y)) := hP
  clear hP
  go_enter Try.func21, Try.ntmps21
  go_wp2_with fail
  go_loopw [10] (fun ti wr => ∃ i : Nat, x + i ≤ n ∧ y + i ≤ n ∧ ti = .int .i64 i ∧ Hid (Pl12 n (S12 s) (sm12 s) x y i) ∧ ∃ d, wr = w.drewN d) (fun ti _ => n + 1 - (intOf ti).toNat)
  case atStart => exact ⟨0, by omega, by omega, rfl, Pl12.zero _ _ _ _ _, 0, rfl⟩
  case round =>
    obtain ⟨i, h1, h2, rfl, HI, hd⟩ := hrel
    have HK3 := HK2.out wr hd
    have HK4 : Hid (∀ q, q < n → wr.cell? ⟨ab, ao + q, none⟩ = some (.int .i64 (s.getD q 0)) ∧ wr.cell? ⟨sb, so + q, none⟩ = some (.bool (sm12 s q))) := HK3
    obtain ⟨d, hd⟩ := hd
    have HD : Hid (wr = w.drewN d) := hd
    clear hd HK3
    have hwr : ∀ k, (wr.drewN k) = w.drewN (d + k) := fun k => by rw [HD.out]; exact World.drewN_drewN w d k
    have HDD : Hid (∀ k, ∃ d2, wr.drewN k = w.drewN d2) := fun k => ⟨d + k, hwr k⟩
    have HDE : Hid (∀ k l, ∃ d2, (wr.drewN k).drewN l = w.drewN d2) := fun k l => ⟨d + (k + l), by rw [World.drewN_drewN, hwr]⟩
    clear hwr
    by_cases hxe : x + i = n
    · have hxi : (x : Int) + (i : Int) = (n : Int) := by omega
      by_cases hye : y + i = n
      · obtain rfl : y = x := by omega
        clear HI HK4 HK2
        go_wp2_with fail
        refine bodyPost_ret (results_tmp2 rfl _ _ _) rfl ?_
        exact ⟨false, true, by first | rfl | (simp; done), fun h => (by cases h), d, HD.out⟩
      · have hyi : (y : Int) + (i : Int) < (n : Int) := by omega
        have hyi2 : ¬ (y : Int) + (i : Int) = (n : Int) := by omega
        have hyx : ¬ (n : Int) = (y : Int) + (i : Int) := by omega
        have HL : Hid P := by show P; rw [HP.out]; exact HI.out.fin hx hxe (by omega)
        clear HI HK4 HK2
        go_wp2_with fail
        refine bodyPost_ret (results_tmp2 rfl _ _ _) rfl ?_
        exact ⟨true, _, rfl, fun _ => HL.out, d, HD.out⟩
    · have hxi : ¬ (x : Int) + (i : Int) = (n : Int) := by omega
      have hxl : (x : Int) + (i : Int) < (n : Int) := by omega
      by_cases hye : y + i = n
      · have hyi : (y : Int) + (i : Int) = (n : Int) := by omega
        clear HI HK4 HK2
        go_wp2_with fail
        refine bodyPost_ret (results_tmp2 rfl _ _ _) rfl ?_
        exact ⟨false, _, rfl, fun h => (by cases h), d, HD.out⟩
      · have hyi : ¬ (y : Int) + (i : Int) = (n : Int) := by omega
        have hyl : (y : Int) + (i : Int) < (n : Int) := by omega
        obtain ⟨c1, c2⟩ := HK4.out (x + i) (by omega)
        obtain ⟨c3, c4⟩ := HK4.out (y + i) (by omega)
        have c5 : 0 < i → wr.cell? ⟨sb, so + (x + i - 1), none⟩ = some (.bool (sm12 s (x + i - 1))) := fun h0 => (HK4.out (x + i - 1) (by omega)).2
        have b1 := HBD.out (x + i)
        have b2 := HBD.out (y + i)
        have HLT : Hid (s.getD (x + i) 0 < s.getD (y + i) 0 → P) := fun h => by rw [HP.out]; exact HI.out.less (by omega) (by omega) (cd12_lt.2 (Or.inl h))
        have HSM : Hid (s.getD (x + i) 0 = s.getD (y + i) 0 → sm12 s (x + i) = false → sm12 s (y + i) = true → P) := fun h h3 h4 => by rw [HP.out]; exact HI.out.less (by omega) (by omega) (cd12_lt.2 (Or.inr ⟨h, h3, h4⟩))
        have HST : Hid (s.getD (x + i) 0 = s.getD (y + i) 0 → sm12 s (x + i) = sm12 s (y + i) → (0 < i → ¬ (sm12 s (x + i) = true ∧ sm12 s (x + i - 1) = false)) → Pl12 n (S12 s) (sm12 s) x y (i + 1)) := fun h h3 h4 => HI.out.step (by omega) (by omega) h h3 (fun h0 k => h4 h0 ⟨k.2.1, k.2.2⟩)
        have c1' : wr.cell? ⟨ab, ao + ((x : Int) + (i : Int)).toNat, none⟩ = some (.int .i64 (s.getD (x + i) 0)) := by rw [show ((x : Int) + (i : Int)).toNat = x + i by omega]; exact c1
        have c2' : wr.cell? ⟨sb, so + ((x : Int) + (i : Int)).toNat, none⟩ = some (.bool (sm12 s (x + i))) := by rw [show ((x : Int) + (i : Int)).toNat = x + i by omega]; exact c2
        have c3' : wr.cell? ⟨ab, ao + ((y : Int) + (i : Int)).toNat, none⟩ = some (.int .i64 (s.getD (y + i) 0)) := by rw [show ((y : Int) + (i : Int)).toNat = y + i by omega]; exact c3
        have c4' : wr.cell? ⟨sb, so + ((y : Int) + (i : Int)).toNat, none⟩ = some (.bool (sm12 s (y + i))) := by rw [show ((y : Int) + (i : Int)).toNat = y + i by omega]; exact c4
        have hxb : ((x : Int) + (i : Int) == (n : Int)) = false := beq_eq_false_iff_ne.2 hxi
        have hyb : ((y : Int) + (i : Int) == (n : Int)) = false := beq_eq_false_iff_ne.2 hyi
        have hxb0 : ((x : Int) == (n : Int)) = false := beq_eq_false_iff_ne.2 (by omega)
        have hyb0 : ((y : Int) == (n : Int)) = false := beq_eq_false_iff_ne.2 (by omega)
        have g1 : (0 : Int) ≤ (x : Int) + (i : Int) := by omega
        have g2 : (0 : Int) ≤ (y : Int) + (i : Int) := by omega
        clear HI HK4 HK2
        generalize s.getD (x + i) 0 = u at *
        generalize s.getD (y + i) 0 = v at *
        generalize sm12 s (x + i) = bu at *
        generalize sm12 s (y + i) = bv at *
        by_cases huv : u = v
        · subst huv
          by_cases hbb : bu = bv
          · subst hbb
            by_cases h0 : i = 0
            · subst h0
              have HS1 : Hid (Pl12 n (S12 s) (sm12 s) x y (0 + 1)) := HST.out rfl rfl (fun h => by omega)
              clear HLT HSM HST c5 c1' c2' c3' c4'
              rw [Nat.add_zero] at c1 c2 c3 c4
              go_wp2_with fail
              go_quiet (fail)
              go_wp2_with fail
              go_quiet (fail)
              go_wp2_with fail
              go_roundw
              case rel => exact ⟨1, by omega, by omega, by go_num, HS1, by first | exact HDD.out _ | exact HDE.out _ _⟩
              case measure => (simp [intOf]; try omega)
            · have h0i : (0 : Int) < (i : Int) := by omega
              have h0n : 0 < i := by omega
              have c6 := c5 h0n
              have e6 : ((x : Int) + (i : Int) - 1).toNat = x + i - 1 := by omega
              have c6' : wr.cell? ⟨sb, so + ((x : Int) + (i : Int) - 1).toNat, none⟩ = some (.bool (sm12 s (x + i - 1))) := by rw [e6]; exact c6
              have g3 : (0 : Int) ≤ (x : Int) + (i : Int) - 1 := by omega
              have g4 : (x : Int) + (i : Int) - 1 < (n : Int) := by omega
              clear c5 e6 HLT HSM
              generalize sm12 s (x + i - 1) = bw at *
              cases bu with
              | false =>
                have HS1 : Hid (Pl12 n (S12 s) (sm12 s) x y (i + 1)) := HST.out rfl rfl (fun _ h => by simp at h)
                clear HST
                go_wp2_with fail
                go_quiet (fail)
                go_wp2_with fail
                go_quiet (fail)
                go_wp2_with fail
                go_roundw
                case rel => exact ⟨i + 1, by omega, by omega, by go_num, HS1, by first | exact HDD.out _ | exact HDE.out _ _⟩
                case measure => simp [intOf]; omega
              | true =>
                cases bw with
                | true =>
                  have HS1 : Hid (Pl12 n (S12 s) (sm12 s) x y (i + 1)) := HST.out rfl rfl (fun _ h => by simp at h)
                  clear HST
                  go_wp2_with fail
                  go_quiet (fail)
                  go_wp2_with fail
                  go_quiet (fail)
                  go_wp2_with fail
                  go_roundw
                  case rel => exact ⟨i + 1, by omega, by omega, by go_num, HS1, by first | exact HDD.out _ | exact HDE.out _ _⟩
                  case measure => simp [intOf]; omega
                | false =>
                  clear HST
                  go_wp2_with fail
                  go_quiet (fail)
                  go_wp2_with fail
                  go_quiet (fail)
                  go_wp2_with fail
                  refine bodyPost_ret (results_tmp2 rfl _ _ _) rfl ?_
                  exact ⟨false, true, rfl, fun h => (by cases h), by first | exact HDD.out _ | exact HDE.out _ _⟩
          · have HS1 : Hid ((!bu) = true → P) := fun h => HSM.out rfl (by simpa using h) (by cases bu <;> cases bv <;> simp_all)
            clear HLT HST HSM c5
            cases bu with
            | false =>
              cases bv with
              | false => exact absurd rfl hbb
              | true =>
                clear hbb
                go_wp2_with fail
                go_quiet (fail)
                go_wp2_with fail
                go_quiet (fail)
                go_wp2_with fail
                refine bodyPost_ret (results_tmp2 rfl _ _ _) rfl ?_
                exact ⟨true, false, rfl, fun _ => HS1.out rfl, by first | exact HDD.out _ | exact HDE.out _ _⟩
            | true =>
              cases bv with
              | true => exact absurd rfl hbb
              | false =>
                clear hbb
                go_wp2_with fail
                go_quiet (fail)
                go_wp2_with fail
                go_quiet (fail)
                go_wp2_with fail
                refine bodyPost_ret (results_tmp2 rfl _ _ _) rfl ?_
                exact ⟨false, false, rfl, fun h => (by cases h), by first | exact HDD.out _ | exact HDE.out _ _⟩
        · have hne : (u != v) = true := bne_iff_ne.2 huv
          have HS1 : Hid (decide (u < v) = true → P) := fun h => HLT.out (of_decide_eq_true h)
          clear HLT HST HSM c5
          go_wp2_with fail
          go_quiet (fail)
          go_wp2_with fail
          go_quiet (fail)
          go_wp2_with fail
          refine bodyPost_ret (results_tmp2 rfl _ _ _) rfl ?_
          exact ⟨decide (u < v), false, rfl, HS1.out, by first | exact HDD.out _ | exact HDE.out _ _⟩
end Go.Proofs.Ytbgnlbgoeogbaaa
