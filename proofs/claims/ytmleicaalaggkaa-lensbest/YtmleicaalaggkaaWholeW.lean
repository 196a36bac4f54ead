import Derived.Test.YtmleicaalaggkaaLnSpace
namespace Go.Proofs.Ytmleicaalaggkaa
open Go.RowKit
set_option linter.unusedVariables false

theorem errL_ok {lim : Int} {zs : List Int} (h : errL lim zs = 0) : ∃ l : Nat, lim = (l : Int) ∧ 1 ≤ l ∧ l ≤ 15 ∧ errOf zs = 0 ∧ nUse zs ≤ 2 ^ l ∧ lensR lim zs = lensL l zs := by
  have h0 := h
  unfold errL at h
  split at h
  · omega
  · rename_i h1
    split at h
    · rename_i h2
      split at h
      · omega
      · rename_i h3
        refine ⟨lim.toNat, by omega, by omega, by omega, h2, by omega, ?_⟩
        unfold lensR
        rw [if_pos h0]
    · omega

set_option maxHeartbeats 1000000 in
theorem lensWhole_walk (w : World) (lim : Int) (hlo : -9223372036854775808 ≤ lim) (hhi : lim ≤ 9223372036854775807) (a : Option Addr) (zs : List Int) (ca : Nat) (hx : SegZ w a zs) (hc : zs.length ≤ ca) (hna : a = none → ca = 0) (hl : zs.length * 8 ≤ 140737488351232) :
    Calls Try.prog 7 #[.int .i64 lim, .slice a zs.length ca] w fun e w' => e = .returned (.bool true) ∧ Below w.heap.size w w' := by
  obtain ⟨n, hn⟩ : ∃ n, zs.length = n := ⟨_, rfl⟩
  have HN : Hid (zs.length = n) := hn
  rw [hn] at hl ⊢
  have C1 := lengths_any lim a zs n ca HN w hx (by omega)
  have HF : Hid (∀ w1 W, Below w.heap.size w w1 → Below w1.heap.size w1 W → Calls Try.prog 19 #[.int .i64 lim, .slice a n ca] W fun e w' => e = .returned (.bool (decide (errL lim zs = 0))) ∧ Below w1.heap.size w1 w') := fun w1 W hw hW => (fits_any lim a zs n ca HN W ((hx.old hw).old hW) (by omega)).mono fun e w' ⟨h1, h2⟩ => ⟨h1, hW.trans (h2.mono hW.size)⟩
  have HA : Hid (∀ w1 W, Below w1.heap.size w1 W → Calls Try.prog 12 #[] W fun e w' => e = .returned (.bool true) ∧ Below w1.heap.size w1 w') := fun w1 W hW => (awake_any W).mono fun e w' ⟨h1, h2⟩ => ⟨h1, hW.trans (h2.mono hW.size)⟩
  unfold LenQ at C1
  clear hn hc
  by_cases he : errL lim zs = 0
  · obtain ⟨l, rfl, h1, h15, hz, hnu, hlr⟩ := errL_ok he
    have hlen : (lensR (l : Int) zs).length = n := by rw [hlr, lens_len]; exact HN.out
    have hn288 : n ≤ 288 := by have := (errOf_zero hz).1; have := HN.out; omega
    rw [hlen, he] at C1
    have e1 : decide (errL (l : Int) zs = 0) = true := decide_eq_true he
    rw [e1] at HF
    have HU : Hid (usedC zs n = nUse zs) := by have := HN.out; show _ = _; rw [nUse_us, ← usedC_us (nn hz), this]
    have HCU : Hid (∀ w1 W, Below w.heap.size w w1 → Below w1.heap.size w1 W → Calls Try.prog 21 #[.slice a n ca] W fun e w' => e = .returned (.int .i64 (nUse zs : Nat)) ∧ Below w1.heap.size w1 w') := fun w1 W hw hW => (used_any a zs n ca HN W ((hx.old hw).old hW) (by omega)).mono fun e w' ⟨h3, h4⟩ => ⟨by rw [h3, HU.out], hW.trans (h4.mono hW.size)⟩
    have HNONE : Hid (∀ i, zs.getD i 0 = 0 → (lensR (l : Int) zs).getD i 0 = 0) := fun i hi => by rw [hlr]; exact lens_none hz hi
    have HIN : Hid (inL l zs (lensR (l : Int) zs) n) := fun i hi hzi => by
      rw [hlr]
      exact lens_bd hz h1 hnu (usI_mem.2 ⟨by have := HN.out; omega, hzi⟩)
    have HSP2 : Hid (2 ≤ nUse zs → spc zs (lensR (l : Int) zs) n = 32768) := fun h => by
      rw [hlr]
      have := lens_kraft hz h1 h15 hnu h
      unfold spc
      rw [← HN.out]; exact this
    have HSP1 : Hid (nUse zs = 1 → spc zs (lensR (l : Int) zs) n = 16384) := fun h => by
      rw [hlr]
      obtain ⟨s, q1, q2, q3⟩ := lens_one hz (lim := l) h
      unfold spc
      rw [← HN.out, q1]
      simp only [List.map_cons, List.map_nil, List.sum_cons, List.sum_nil, q2]
      rfl
    have HRL : Hid ((lensR (l : Int) zs).length = n) := hlen
    have hnul : nUse zs ≤ n := by have := nUse_us zs; have := usedC_le zs n; have := HU.out; omega
    have HSB : Hid (spc zs (lensR (l : Int) zs) n ≤ 11520000) := Nat.le_trans (spc_le _ _ _) (Nat.le_trans (Nat.mul_le_mul_right _ hn288) (by decide))
    have HSPC : Hid (∀ w1 W b c, Below w.heap.size w w1 → SegZ w1 b (lensR (l : Int) zs) → Below w1.heap.size w1 W → Calls Try.prog 20 #[.int .i64 l, .slice a n ca, .slice b n c] W fun e w' => e = .returned (.tuple #[.int .i64 (spc zs (lensR (l : Int) zs) n : Nat), .bool true]) ∧ Below w1.heap.size w1 w') := fun w1 W b c hw hs1 hW => (space_any l a b zs (lensR (l : Int) zs) n n ca c HN HRL (Nat.le_refl _) W ((hx.old hw).old hW) (hs1.old hW) hn288 h15).mono fun e w' h => by
      unfold SpQ at h
      obtain ⟨v, ok, rfl, q1, q2, q3⟩ := h
      obtain rfl := q1.2 HIN.out
      rw [q2 rfl]
      exact ⟨rfl, hW.trans (q3.mono hW.size)⟩
    generalize lensR (l : Int) zs = ls at *
    generalize spc zs ls n = sp at *
    generalize nUse zs = u at *
    clear hlr hlen he e1 HU
    go_enter Try.func7, Try.ntmps7
    go_wp2_with fail
    refine C1.mono ?_
    rintro e w1 ⟨b, c, rfl, s1, B1⟩
    have hx1 := hx.old B1
    go_wp2_with fail
    refine (HF.out w1 w1 B1 (Below.refl _ _)).mono ?_
    rintro e w2 ⟨rfl, B2⟩
    go_wp2_with fail
    refine (HA.out w1 _ B2).mono ?_
    rintro e w3 ⟨rfl, B3⟩
    go_wp2_with fail
    go_loopw [7] (fun ti wr => ∃ k : Nat, k ≤ n ∧ ti = .int .i64 k ∧ Below w1.heap.size w1 wr) (fun ti _ => n - (intOf ti).toNat)
    case atStart => exact ⟨0, Nat.zero_le _, rfl, B3⟩
    case round =>
      obtain ⟨k, hk, rfl, hb⟩ := hrel
      have hs := hx1.old hb
      have ht := s1.old hb
      by_cases hkn : k < n
      · have h1i : (k : Int) < (n : Int) := by omega
        obtain ⟨b1, o1, rfl, c1⟩ := hs.at_ k (by have := HN.out; omega)
        obtain ⟨b2, o2, rfl, c2⟩ := ht.at_ k (by have := HRL.out; omega)
        have HNK : Hid (zs.getD k 0 = 0 → ls.getD k 0 = 0) := HNONE.out k
        have d1 := hs.bd k
        have d2 := ht.bd k
        generalize zs.getD k 0 = z at *
        generalize ls.getD k 0 = y at *
        by_cases hz0 : z = 0
        · subst hz0
          obtain rfl := HNK.out rfl
          go_wp2
          go_roundw
          case rel => exact ⟨k + 1, by omega, by go_num, hb⟩
          case measure => simp [intOf]; omega
        · have hzb : (z == 0) = false := by simpa using hz0
          go_wp2
          go_roundw
          case rel => exact ⟨k + 1, by omega, by go_num, hb⟩
          case measure => simp [intOf]; omega
      · obtain rfl : k = n := by omega
        have hspb := HSB.out
        go_wp2_with fail
        refine (HSPC.out w1 _ b c B1 s1 hb).mono ?_
        rintro e w4 ⟨rfl, B4⟩
        go_wp2_with fail
        refine (HCU.out w1 _ B1 B4).mono ?_
        rintro e w5 ⟨rfl, B5⟩
        have BF : ∀ w', Below w1.heap.size w1 w' → Below w.heap.size w w' := fun w' h => B1.trans (h.mono B1.size)
        by_cases hu2 : 2 ≤ u
        · have hui : ¬ (u : Int) < 2 := by omega
          have hu1 : ((u : Int) == 1) = false := by simp; omega
          obtain rfl := HSP2.out hu2
          go_wp2_with fail
          refine (HCU.out w1 _ B1 B5).mono ?_
          rintro e w6 ⟨rfl, B6⟩
          go_wp2
          go_ret
          exact ⟨rfl, BF _ B6⟩
        · have hui : (u : Int) < 2 := by omega
          by_cases hu1 : u = 1
          · have h3 := HSP1.out hu1
            subst hu1
            subst h3
            go_wp2_with fail
            refine (HCU.out w1 _ B1 B5).mono ?_
            rintro e w6 ⟨rfl, B6⟩
            go_wp2
            go_ret
            exact ⟨rfl, BF _ B6⟩
          · obtain rfl : u = 0 := by omega
            go_wp2_with fail
            refine (HCU.out w1 _ B1 B5).mono ?_
            rintro e w6 ⟨rfl, B6⟩
            go_wp2
            go_ret
            exact ⟨rfl, BF _ B6⟩
  · have e1 : decide (errL lim zs = 0) = false := decide_eq_false he
    rw [e1] at HF
    have hls : lensR lim zs = [] := by unfold lensR; rw [if_neg he]
    rw [hls] at C1
    obtain ⟨E, hE⟩ : ∃ E, errL lim zs = E := ⟨_, rfl⟩
    rw [hE] at C1 he
    have hEr : E = 1 ∨ E = 40 ∨ E = 41 ∨ E = 42 := by
      have h0 := errOf_range zs
      have h2 : E ≠ 0 := he
      rw [← hE] at h2 ⊢
      unfold errL at h2 ⊢
      split
      · omega
      · rename_i h3
        rw [if_neg h3] at h2
        split
        · rename_i h4
          rw [if_pos h4] at h2
          split
          · omega
          · rename_i h5
            rw [if_neg h5] at h2
            omega
        · omega
    clear hE e1 hls he
    rcases hEr with rfl | rfl | rfl | rfl <;>
    · go_enter Try.func7, Try.ntmps7
      go_wp2_with fail
      refine C1.mono ?_
      rintro e w1 ⟨b, c, rfl, s1, B1⟩
      go_wp2_with fail
      refine (HF.out w1 w1 B1 (Below.refl _ _)).mono ?_
      rintro e w2 ⟨rfl, B2⟩
      go_wp2_with fail
      refine (HA.out w1 _ B2).mono ?_
      rintro e w3 ⟨rfl, B3⟩
      go_wp2
      go_ret
      exact ⟨rfl, B1.trans (B3.mono B1.size)⟩
end Go.Proofs.Ytmleicaalaggkaa
