
import Derived.Test.YthplkcdockkiiabSaL1
namespace Go.Proofs.Ythplkcdockkiiab
open Go.RowKit
set_option linter.unusedVariables false

/-! SaisRefuses. -/
set_option maxRecDepth 100000 in
set_option maxHeartbeats 2000000 in
theorem pbkn12 (k : Int) (a : Option Addr) (s : List Int) (n cap : Nat) (w : World) (hs : SegZ w a s) (hn : Hid (s.length = n)) (hb : n ≤ 9223372036854775807) (hk : -9223372036854775808 ≤ k ∧ k ≤ 9223372036854775807) (hr : ¬ ref12 k s = 0) :
    Calls Try.prog 16 #[.int .i64 k, .slice a n cap] w fun e w' => e = .returned (.tuple #[.slice none 0 0, .slice none 0 0, .int .i64 (ref12 k s)]) ∧ Below w.heap.size w w' := by
  have HR := pref12 k a s n cap w hs hn hb hk
  have bd := ref12_bd k s
  generalize ref12 k s = v at *
  go_enter Try.func16, Try.ntmps16
  go_wp2_with (first
    | (go_at_call 17; refine HR.mono ?_; rintro e1 w1 ⟨rfl, B1⟩))
  refine bodyPost_ret (results_tmp3 rfl _ _ _) rfl ?_
  exact ⟨rfl, B1⟩
set_option maxRecDepth 100000 in
set_option maxHeartbeats 2000000 in
theorem pidn12 (k : Int) (a oa : Option Addr) (s : List Int) (n cap m oc : Nat) (w : World) (hs : SegZ w a s) (hn : Hid (s.length = n)) (hb : n ≤ 9223372036854775807) (hk : -9223372036854775808 ≤ k ∧ k ≤ 9223372036854775807) (hr : ¬ ref12 k s = 0) :
    Calls Try.prog 12 #[.int .i64 k, .slice a n cap, .slice oa m oc] w fun e w' => e = .returned (.tuple #[.slice none 0 0, .int .i64 (ref12 k s)]) ∧ Below w.heap.size w w' := by
  have HR := pref12 k a s n cap w hs hn hb hk
  have bd := ref12_bd k s
  generalize ref12 k s = v at *
  go_enter Try.func12, Try.ntmps12
  go_wp2_with (first
    | (go_at_call 17; refine HR.mono ?_; rintro e1 w1 ⟨rfl, B1⟩))
  refine bodyPost_ret (results_tmp2 rfl _ _ _) rfl ?_
  exact ⟨rfl, B1⟩
theorem mayL12 {k : Int} {s : List Int} {n : Nat} (hn : s.length = n) : (decide (ref12 k s = 0)) = true ↔ ¬ (k < 0 ∨ 33554432 < k) ∧ n ≤ 16777216 ∧ vals12 k s = true := by
  rw [decide_eq_true_eq]
  unfold ref12 rv12
  rw [hn]
  constructor
  · intro h
    split at h
    · omega
    · split at h
      · omega
      · split at h
        · rename_i h1 h2 h3; exact ⟨h1, by omega, h3⟩
        · omega
  · rintro ⟨h1, h2, h3⟩
    rw [if_neg h1, if_neg (by omega), if_pos h3]
set_option maxRecDepth 100000 in
set_option maxHeartbeats 2000000 in
theorem pmay12 (k : Int) (a : Option Addr) (s : List Int) (n cap : Nat) (w : World) (hs : SegZ w a s) (hn : Hid (s.length = n)) (hb : n ≤ 9223372036854775807) (hk : -9223372036854775808 ≤ k ∧ k ≤ 9223372036854775807) :
    Calls Try.prog 15 #[.int .i64 k, .slice a n cap] w fun e w' => e = .returned (.bool (decide (ref12 k s = 0))) ∧ Below w.heap.size w w' := by
  have HR : Hid ((decide (ref12 k s = 0)) = true ↔ ¬ (k < 0 ∨ 33554432 < k) ∧ n ≤ 16777216 ∧ vals12 k s = true) := mayL12 hn.out
  generalize decide (ref12 k s = 0) = B at *
  have HF : Hid (¬ (¬ (k < 0 ∨ 33554432 < k) ∧ n ≤ 16777216 ∧ vals12 k s = true) → B = false) := fun h => by
    cases B
    · rfl
    · exact absurd (HR.out.1 rfl) h
  by_cases k1 : k < 0
  · go_enter Try.func15, Try.ntmps15
    go_wp2
    go_ret
    exact ⟨by rw [HF.out (by omega)]; rfl, Below.refl _ _⟩
  by_cases k2 : 33554432 < k
  · go_enter Try.func15, Try.ntmps15
    go_wp2
    go_ret
    exact ⟨by rw [HF.out (by omega)]; rfl, Below.refl _ _⟩
  by_cases k3 : 16777216 < n
  · have k3i : (16777216 : Int) < (n : Int) := by omega
    go_enter Try.func15, Try.ntmps15
    go_wp2
    go_ret
    exact ⟨by rw [HF.out (by omega)]; rfl, Below.refl _ _⟩
  have k3i : ¬ (16777216 : Int) < (n : Int) := by omega
  go_enter Try.func15, Try.ntmps15
  go_wp2
  go_loopw [5] (fun ti wr => ∃ i : Nat, i ≤ n ∧ ti = .int .i64 i ∧ Hid (vals12 k (s.take i) = true) ∧ Below w.heap.size w wr) (fun ti _ => n - (intOf ti).toNat)
  case atStart => exact ⟨0, Nat.zero_le _, rfl, (by simp [vals12] : _ = _), Below.refl _ _⟩
  case round =>
    obtain ⟨i, hi, rfl, HV, hb2⟩ := hrel
    by_cases h1 : i < n
    · have h1i : (i : Int) < (n : Int) := by omega
      have hs2 := hs.old hb2
      obtain ⟨b, off, rfl, c1⟩ := hs2.at_ i (by rw [hn.out]; exact h1)
      have bd := hs2.bd i
      have HS : Hid (vals12 k (s.take (i + 1)) = (vals12 k (s.take i) && (decide (0 ≤ s.getD i 0) && decide (s.getD i 0 < k)))) := vals12_take k s i (by rw [hn.out]; exact h1)
      have HN : Hid (¬ (0 ≤ s.getD i 0 ∧ s.getD i 0 < k) → B = false) := fun h => HF.out (fun q => by rw [vals12_no (by rw [hn.out]; exact h1) h] at q; exact absurd q.2.2 (by simp))
      clear hs2
      generalize s.getD i 0 = v at *
      by_cases v1 : v < 0
      · go_wp2
        go_ret
        exact ⟨by rw [HN.out (by omega)]; rfl, hb2⟩
      · by_cases v2 : k ≤ v
        · go_wp2
          go_ret
          exact ⟨by rw [HN.out (by omega)]; rfl, hb2⟩
        · have v3 : 0 ≤ v := by omega
          have v4 : v < k := by omega
          go_wp2
          go_roundw
          case rel => exact ⟨i + 1, by omega, by go_num, (by rw [HS.out, HV.out]; simp; omega : _ = _), hb2⟩
          case measure => simp [intOf]; omega
    · have h1i : ¬ (i : Int) < (n : Int) := by omega
      go_wp2
      go_ret
      refine ⟨?_, hb2⟩
      have e : s.take i = s := List.take_of_length_le (by rw [hn.out]; omega)
      have h5 := HV.out
      rw [e] at h5
      rw [HR.out.2 ⟨by omega, by omega, h5⟩]; rfl
set_option maxRecDepth 100000 in
set_option maxHeartbeats 4000000 in
theorem saisRefuses_walk (w : World) (k : Int) (hlo : -9223372036854775808 ≤ k) (hhi : k ≤ 9223372036854775807) (a : Option Addr) (s : List Int) (ca : Nat) (hx : SegZ w a s) (hc : s.length ≤ ca) (hna : a = none → ca = 0) (hl : s.length * 8 ≤ 140737488351232) :
    Calls Try.prog 6 #[.int .i64 k, .slice a s.length ca] w fun e w' => e = .returned (.bool true) ∧ Below w.heap.size w w' := by
  generalize hn0 : s.length = n at *
  have hn : Hid (s.length = n) := hn0
  have HRV : Hid (ref12 k s = if k < 0 ∨ 33554432 < k then 1 else if 16777216 < n then 120 else rv12 k s) := by show _ = _; unfold ref12; rw [hn0]
  clear hn0 hc hna
  by_cases h0 : ref12 k s = 0
  · have HM := pmay12 k a s n ca w hx hn (by omega) ⟨hlo, hhi⟩
    rw [h0] at HM
    have HM2 : Calls Try.prog 15 #[.int .i64 k, .slice a n ca] w fun e w' => e = .returned (.bool true) ∧ Below w.heap.size w w' := HM
    clear HM h0
    go_enter Try.func6, Try.ntmps6
    go_wp2_with (first
      | (go_at_call 15; refine HM2.mono ?_; rintro e1 w1 ⟨rfl, B1⟩)
      | (go_at_call 8; refine (pawk12 _).mono ?_; rintro e2 w2 ⟨rfl, B2⟩))
    go_ret
    exact ⟨rfl, B1.trans (B2.mono B1.size)⟩
  have HRW := HRV.out
  by_cases k1 : k < 0
  · have hv : ref12 k s = 1 := by rw [HRW, if_pos (Or.inl k1)]
    by_cases k3 : 16777216 < n
    · have k3i : (16777216 : Int) < (n : Int) := by omega
      clear HRW HRV h0
      have HM : Calls Try.prog 15 #[.int .i64 k, .slice a n ca] w fun e w' => e = .returned (.bool false) ∧ Below w.heap.size w w' := by
        have := pmay12 k a s n ca w hx hn (by omega) ⟨hlo, hhi⟩
        rw [hv] at this
        exact this
      have HA : Hid (∀ w1, Below w.heap.size w w1 → Calls Try.prog 9 #[.int .i64 k, .slice a n ca] w1 fun e w' => e = .returned (.tuple #[.slice none 0 0, .int .i64 1]) ∧ Below w1.heap.size w1 w') := fun w1 b1 => by
        have := parrn12 k a s n ca w1 (hx.old b1) hn (by omega) ⟨hlo, hhi⟩ (by rw [hv]; decide)
        rw [hv] at this
        exact this
      have HB : Hid (∀ w1, Below w.heap.size w w1 → Calls Try.prog 16 #[.int .i64 k, .slice a n ca] w1 fun e w' => e = .returned (.tuple #[.slice none 0 0, .slice none 0 0, .int .i64 1]) ∧ Below w1.heap.size w1 w') := fun w1 b1 => by
        have := pbkn12 k a s n ca w1 (hx.old b1) hn (by omega) ⟨hlo, hhi⟩ (by rw [hv]; decide)
        rw [hv] at this
        exact this
      have HI : Hid (∀ w1, Below w.heap.size w w1 → Calls Try.prog 12 #[.int .i64 k, .slice a n ca, .slice none 0 0] w1 fun e w' => e = .returned (.tuple #[.slice none 0 0, .int .i64 1]) ∧ Below w1.heap.size w1 w') := fun w1 b1 => by
        have := pidn12 k a none s n ca 0 0 w1 (hx.old b1) hn (by omega) ⟨hlo, hhi⟩ (by rw [hv]; decide)
        rw [hv] at this
        exact this
      clear hv
      go_enter Try.func6, Try.ntmps6
      go_wp2_with (first
        | (go_at_call 15; refine HM.mono ?_; rintro e1 w1 ⟨rfl, B1⟩)
        | (go_at_call 9; refine (HA.out w1 B1).mono ?_; rintro e2 w2 ⟨rfl, B2⟩; have C2 := B1.trans (B2.mono B1.size))
        | (go_at_call 16; refine (HB.out w2 C2).mono ?_; rintro e3 w3 ⟨rfl, B3⟩; have C3 := C2.trans (B3.mono C2.size))
        | (go_at_call 12; refine (HI.out w3 C3).mono ?_; rintro e4 w4 ⟨rfl, B4⟩; have C4 := C3.trans (B4.mono C3.size)))
      refine (pawk12 _).mono ?_
      rintro e5 w5 ⟨rfl, B5⟩
      go_wp2_with fail
      go_ret
      exact ⟨rfl, C4.trans (B5.mono C4.size)⟩
    · have k3i : ¬ (16777216 : Int) < (n : Int) := by omega
      clear HRW HRV h0
      have HM : Calls Try.prog 15 #[.int .i64 k, .slice a n ca] w fun e w' => e = .returned (.bool false) ∧ Below w.heap.size w w' := by
        have := pmay12 k a s n ca w hx hn (by omega) ⟨hlo, hhi⟩
        rw [hv] at this
        exact this
      have HA : Hid (∀ w1, Below w.heap.size w w1 → Calls Try.prog 9 #[.int .i64 k, .slice a n ca] w1 fun e w' => e = .returned (.tuple #[.slice none 0 0, .int .i64 1]) ∧ Below w1.heap.size w1 w') := fun w1 b1 => by
        have := parrn12 k a s n ca w1 (hx.old b1) hn (by omega) ⟨hlo, hhi⟩ (by rw [hv]; decide)
        rw [hv] at this
        exact this
      have HB : Hid (∀ w1, Below w.heap.size w w1 → Calls Try.prog 16 #[.int .i64 k, .slice a n ca] w1 fun e w' => e = .returned (.tuple #[.slice none 0 0, .slice none 0 0, .int .i64 1]) ∧ Below w1.heap.size w1 w') := fun w1 b1 => by
        have := pbkn12 k a s n ca w1 (hx.old b1) hn (by omega) ⟨hlo, hhi⟩ (by rw [hv]; decide)
        rw [hv] at this
        exact this
      have HI : Hid (∀ w1, Below w.heap.size w w1 → Calls Try.prog 12 #[.int .i64 k, .slice a n ca, .slice none 0 0] w1 fun e w' => e = .returned (.tuple #[.slice none 0 0, .int .i64 1]) ∧ Below w1.heap.size w1 w') := fun w1 b1 => by
        have := pidn12 k a none s n ca 0 0 w1 (hx.old b1) hn (by omega) ⟨hlo, hhi⟩ (by rw [hv]; decide)
        rw [hv] at this
        exact this
      clear hv
      go_enter Try.func6, Try.ntmps6
      go_wp2_with (first
        | (go_at_call 15; refine HM.mono ?_; rintro e1 w1 ⟨rfl, B1⟩)
        | (go_at_call 9; refine (HA.out w1 B1).mono ?_; rintro e2 w2 ⟨rfl, B2⟩; have C2 := B1.trans (B2.mono B1.size))
        | (go_at_call 16; refine (HB.out w2 C2).mono ?_; rintro e3 w3 ⟨rfl, B3⟩; have C3 := C2.trans (B3.mono C2.size))
        | (go_at_call 12; refine (HI.out w3 C3).mono ?_; rintro e4 w4 ⟨rfl, B4⟩; have C4 := C3.trans (B4.mono C3.size)))
      refine (pawk12 _).mono ?_
      rintro e5 w5 ⟨rfl, B5⟩
      go_wp2_with fail
      go_ret
      exact ⟨rfl, C4.trans (B5.mono C4.size)⟩
  by_cases k2 : 33554432 < k
  · have hv : ref12 k s = 1 := by rw [HRW, if_pos (Or.inr k2)]
    by_cases k3 : 16777216 < n
    · have k3i : (16777216 : Int) < (n : Int) := by omega
      clear HRW HRV h0
      have HM : Calls Try.prog 15 #[.int .i64 k, .slice a n ca] w fun e w' => e = .returned (.bool false) ∧ Below w.heap.size w w' := by
        have := pmay12 k a s n ca w hx hn (by omega) ⟨hlo, hhi⟩
        rw [hv] at this
        exact this
      have HA : Hid (∀ w1, Below w.heap.size w w1 → Calls Try.prog 9 #[.int .i64 k, .slice a n ca] w1 fun e w' => e = .returned (.tuple #[.slice none 0 0, .int .i64 1]) ∧ Below w1.heap.size w1 w') := fun w1 b1 => by
        have := parrn12 k a s n ca w1 (hx.old b1) hn (by omega) ⟨hlo, hhi⟩ (by rw [hv]; decide)
        rw [hv] at this
        exact this
      have HB : Hid (∀ w1, Below w.heap.size w w1 → Calls Try.prog 16 #[.int .i64 k, .slice a n ca] w1 fun e w' => e = .returned (.tuple #[.slice none 0 0, .slice none 0 0, .int .i64 1]) ∧ Below w1.heap.size w1 w') := fun w1 b1 => by
        have := pbkn12 k a s n ca w1 (hx.old b1) hn (by omega) ⟨hlo, hhi⟩ (by rw [hv]; decide)
        rw [hv] at this
        exact this
      have HI : Hid (∀ w1, Below w.heap.size w w1 → Calls Try.prog 12 #[.int .i64 k, .slice a n ca, .slice none 0 0] w1 fun e w' => e = .returned (.tuple #[.slice none 0 0, .int .i64 1]) ∧ Below w1.heap.size w1 w') := fun w1 b1 => by
        have := pidn12 k a none s n ca 0 0 w1 (hx.old b1) hn (by omega) ⟨hlo, hhi⟩ (by rw [hv]; decide)
        rw [hv] at this
        exact this
      clear hv
      go_enter Try.func6, Try.ntmps6
      go_wp2_with (first
        | (go_at_call 15; refine HM.mono ?_; rintro e1 w1 ⟨rfl, B1⟩)
        | (go_at_call 9; refine (HA.out w1 B1).mono ?_; rintro e2 w2 ⟨rfl, B2⟩; have C2 := B1.trans (B2.mono B1.size))
        | (go_at_call 16; refine (HB.out w2 C2).mono ?_; rintro e3 w3 ⟨rfl, B3⟩; have C3 := C2.trans (B3.mono C2.size))
        | (go_at_call 12; refine (HI.out w3 C3).mono ?_; rintro e4 w4 ⟨rfl, B4⟩; have C4 := C3.trans (B4.mono C3.size)))
      refine (pawk12 _).mono ?_
      rintro e5 w5 ⟨rfl, B5⟩
      go_wp2_with fail
      go_ret
      exact ⟨rfl, C4.trans (B5.mono C4.size)⟩
    · have k3i : ¬ (16777216 : Int) < (n : Int) := by omega
      clear HRW HRV h0
      have HM : Calls Try.prog 15 #[.int .i64 k, .slice a n ca] w fun e w' => e = .returned (.bool false) ∧ Below w.heap.size w w' := by
        have := pmay12 k a s n ca w hx hn (by omega) ⟨hlo, hhi⟩
        rw [hv] at this
        exact this
      have HA : Hid (∀ w1, Below w.heap.size w w1 → Calls Try.prog 9 #[.int .i64 k, .slice a n ca] w1 fun e w' => e = .returned (.tuple #[.slice none 0 0, .int .i64 1]) ∧ Below w1.heap.size w1 w') := fun w1 b1 => by
        have := parrn12 k a s n ca w1 (hx.old b1) hn (by omega) ⟨hlo, hhi⟩ (by rw [hv]; decide)
        rw [hv] at this
        exact this
      have HB : Hid (∀ w1, Below w.heap.size w w1 → Calls Try.prog 16 #[.int .i64 k, .slice a n ca] w1 fun e w' => e = .returned (.tuple #[.slice none 0 0, .slice none 0 0, .int .i64 1]) ∧ Below w1.heap.size w1 w') := fun w1 b1 => by
        have := pbkn12 k a s n ca w1 (hx.old b1) hn (by omega) ⟨hlo, hhi⟩ (by rw [hv]; decide)
        rw [hv] at this
        exact this
      have HI : Hid (∀ w1, Below w.heap.size w w1 → Calls Try.prog 12 #[.int .i64 k, .slice a n ca, .slice none 0 0] w1 fun e w' => e = .returned (.tuple #[.slice none 0 0, .int .i64 1]) ∧ Below w1.heap.size w1 w') := fun w1 b1 => by
        have := pidn12 k a none s n ca 0 0 w1 (hx.old b1) hn (by omega) ⟨hlo, hhi⟩ (by rw [hv]; decide)
        rw [hv] at this
        exact this
      clear hv
      go_enter Try.func6, Try.ntmps6
      go_wp2_with (first
        | (go_at_call 15; refine HM.mono ?_; rintro e1 w1 ⟨rfl, B1⟩)
        | (go_at_call 9; refine (HA.out w1 B1).mono ?_; rintro e2 w2 ⟨rfl, B2⟩; have C2 := B1.trans (B2.mono B1.size))
        | (go_at_call 16; refine (HB.out w2 C2).mono ?_; rintro e3 w3 ⟨rfl, B3⟩; have C3 := C2.trans (B3.mono C2.size))
        | (go_at_call 12; refine (HI.out w3 C3).mono ?_; rintro e4 w4 ⟨rfl, B4⟩; have C4 := C3.trans (B4.mono C3.size)))
      refine (pawk12 _).mono ?_
      rintro e5 w5 ⟨rfl, B5⟩
      go_wp2_with fail
      go_ret
      exact ⟨rfl, C4.trans (B5.mono C4.size)⟩
  rw [if_neg (by omega)] at HRW
  by_cases k3 : 16777216 < n
  · have hv : ref12 k s = 120 := by rw [HRW, if_pos k3]
    have k3i : (16777216 : Int) < (n : Int) := by omega
    clear HRW HRV h0
    have HM : Calls Try.prog 15 #[.int .i64 k, .slice a n ca] w fun e w' => e = .returned (.bool false) ∧ Below w.heap.size w w' := by
      have := pmay12 k a s n ca w hx hn (by omega) ⟨hlo, hhi⟩
      rw [hv] at this
      exact this
    have HA : Hid (∀ w1, Below w.heap.size w w1 → Calls Try.prog 9 #[.int .i64 k, .slice a n ca] w1 fun e w' => e = .returned (.tuple #[.slice none 0 0, .int .i64 120]) ∧ Below w1.heap.size w1 w') := fun w1 b1 => by
      have := parrn12 k a s n ca w1 (hx.old b1) hn (by omega) ⟨hlo, hhi⟩ (by rw [hv]; decide)
      rw [hv] at this
      exact this
    have HB : Hid (∀ w1, Below w.heap.size w w1 → Calls Try.prog 16 #[.int .i64 k, .slice a n ca] w1 fun e w' => e = .returned (.tuple #[.slice none 0 0, .slice none 0 0, .int .i64 120]) ∧ Below w1.heap.size w1 w') := fun w1 b1 => by
      have := pbkn12 k a s n ca w1 (hx.old b1) hn (by omega) ⟨hlo, hhi⟩ (by rw [hv]; decide)
      rw [hv] at this
      exact this
    have HI : Hid (∀ w1, Below w.heap.size w w1 → Calls Try.prog 12 #[.int .i64 k, .slice a n ca, .slice none 0 0] w1 fun e w' => e = .returned (.tuple #[.slice none 0 0, .int .i64 120]) ∧ Below w1.heap.size w1 w') := fun w1 b1 => by
      have := pidn12 k a none s n ca 0 0 w1 (hx.old b1) hn (by omega) ⟨hlo, hhi⟩ (by rw [hv]; decide)
      rw [hv] at this
      exact this
    clear hv
    go_enter Try.func6, Try.ntmps6
    go_wp2_with (first
      | (go_at_call 15; refine HM.mono ?_; rintro e1 w1 ⟨rfl, B1⟩)
      | (go_at_call 9; refine (HA.out w1 B1).mono ?_; rintro e2 w2 ⟨rfl, B2⟩; have C2 := B1.trans (B2.mono B1.size))
      | (go_at_call 16; refine (HB.out w2 C2).mono ?_; rintro e3 w3 ⟨rfl, B3⟩; have C3 := C2.trans (B3.mono C2.size))
      | (go_at_call 12; refine (HI.out w3 C3).mono ?_; rintro e4 w4 ⟨rfl, B4⟩; have C4 := C3.trans (B4.mono C3.size)))
    refine (pawk12 _).mono ?_
    rintro e5 w5 ⟨rfl, B5⟩
    go_wp2_with fail
    go_ret
    exact ⟨rfl, C4.trans (B5.mono C4.size)⟩
  rw [if_neg k3] at HRW
  · have hv : ref12 k s = 121 := by
      rw [HRW] at h0 ⊢
      unfold rv12 at h0 ⊢
      by_cases h9 : vals12 k s = true
      · rw [if_pos h9] at h0; exact absurd rfl h0
      · rw [if_neg h9]
    have k3i : ¬ (16777216 : Int) < (n : Int) := by omega
    clear HRW HRV h0
    have HM : Calls Try.prog 15 #[.int .i64 k, .slice a n ca] w fun e w' => e = .returned (.bool false) ∧ Below w.heap.size w w' := by
      have := pmay12 k a s n ca w hx hn (by omega) ⟨hlo, hhi⟩
      rw [hv] at this
      exact this
    have HA : Hid (∀ w1, Below w.heap.size w w1 → Calls Try.prog 9 #[.int .i64 k, .slice a n ca] w1 fun e w' => e = .returned (.tuple #[.slice none 0 0, .int .i64 121]) ∧ Below w1.heap.size w1 w') := fun w1 b1 => by
      have := parrn12 k a s n ca w1 (hx.old b1) hn (by omega) ⟨hlo, hhi⟩ (by rw [hv]; decide)
      rw [hv] at this
      exact this
    have HB : Hid (∀ w1, Below w.heap.size w w1 → Calls Try.prog 16 #[.int .i64 k, .slice a n ca] w1 fun e w' => e = .returned (.tuple #[.slice none 0 0, .slice none 0 0, .int .i64 121]) ∧ Below w1.heap.size w1 w') := fun w1 b1 => by
      have := pbkn12 k a s n ca w1 (hx.old b1) hn (by omega) ⟨hlo, hhi⟩ (by rw [hv]; decide)
      rw [hv] at this
      exact this
    have HI : Hid (∀ w1, Below w.heap.size w w1 → Calls Try.prog 12 #[.int .i64 k, .slice a n ca, .slice none 0 0] w1 fun e w' => e = .returned (.tuple #[.slice none 0 0, .int .i64 121]) ∧ Below w1.heap.size w1 w') := fun w1 b1 => by
      have := pidn12 k a none s n ca 0 0 w1 (hx.old b1) hn (by omega) ⟨hlo, hhi⟩ (by rw [hv]; decide)
      rw [hv] at this
      exact this
    clear hv
    go_enter Try.func6, Try.ntmps6
    go_wp2_with (first
      | (go_at_call 15; refine HM.mono ?_; rintro e1 w1 ⟨rfl, B1⟩)
      | (go_at_call 9; refine (HA.out w1 B1).mono ?_; rintro e2 w2 ⟨rfl, B2⟩; have C2 := B1.trans (B2.mono B1.size))
      | (go_at_call 16; refine (HB.out w2 C2).mono ?_; rintro e3 w3 ⟨rfl, B3⟩; have C3 := C2.trans (B3.mono C2.size))
      | (go_at_call 12; refine (HI.out w3 C3).mono ?_; rintro e4 w4 ⟨rfl, B4⟩; have C4 := C3.trans (B4.mono C3.size)))
    refine (pawk12 _).mono ?_
    rintro e5 w5 ⟨rfl, B5⟩
    go_wp2_with fail
    go_ret
    exact ⟨rfl, C4.trans (B5.mono C4.size)⟩
end Go.Proofs.Ythplkcdockkiiab
