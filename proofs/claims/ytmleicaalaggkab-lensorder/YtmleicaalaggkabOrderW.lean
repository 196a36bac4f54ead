import Derived.Test.YtmleicaalaggkabLnErrL
namespace Go.Proofs.Ytmleicaalaggkab
open Go.RowKit
set_option linter.unusedVariables false

set_option maxHeartbeats 1000000 in
theorem lensOrder_walk (w : World) (lim : Int) (hlo : -9223372036854775808 ≤ lim) (hhi : lim ≤ 9223372036854775807) (a : Option Addr) (zs : List Int) (ca : Nat) (hx : SegZ w a zs) (hc : zs.length ≤ ca) (hna : a = none → ca = 0) (hl : zs.length * 8 ≤ 140737488351232) :
    Calls Try.prog 3 #[.int .i64 lim, .slice a zs.length ca] w fun e w' => e = .returned (.bool true) ∧ Below w.heap.size w w' := by
  obtain ⟨n, hn⟩ : ∃ n, zs.length = n := ⟨_, rfl⟩
  have HN : Hid (zs.length = n) := hn
  rw [hn] at hl ⊢
  have C1 := lengths_any lim a zs n ca HN w hx (by omega)
  have HF : Hid (∀ w1 W, Below w.heap.size w w1 → Below w1.heap.size w1 W → Calls Try.prog 7 #[.int .i64 lim, .slice a n ca] W fun e w' => e = .returned (.bool (decide (errL lim zs = 0))) ∧ Below w1.heap.size w1 w') := fun w1 W hw hW => (fits_any lim a zs n ca HN W ((hx.old hw).old hW) (by omega)).mono fun e w' ⟨h1, h2⟩ => ⟨h1, hW.trans (h2.mono hW.size)⟩
  have HA : Hid (∀ w1 W, Below w1.heap.size w1 W → Calls Try.prog 6 #[] W fun e w' => e = .returned (.bool true) ∧ Below w1.heap.size w1 w') := fun w1 W hW => (awake_any W).mono fun e w' ⟨h1, h2⟩ => ⟨h1, hW.trans (h2.mono hW.size)⟩
  unfold LenQ at C1
  clear hn hc
  by_cases he : errL lim zs = 0
  · obtain ⟨l, rfl, h1, h15, hz, hnu, hlr⟩ := errL_ok he
    have hlen : (lensR (l : Int) zs).length = n := by rw [hlr, lens_len]; exact HN.out
    have hn288 : n ≤ 288 := by have := (errOf_zero hz).1; have := HN.out; omega
    rw [hlen, he] at C1
    have e1 : decide (errL (l : Int) zs = 0) = true := decide_eq_true he
    rw [e1] at HF
    have HORD : Hid (∀ i k, i < n → k < n → 0 < zs.getD i 0 → (zs.getD i 0 < zs.getD k 0 ∨ (zs.getD k 0 = zs.getD i 0 ∧ i < k)) → (lensR (l : Int) zs).getD k 0 ≤ (lensR (l : Int) zs).getD i 0) := fun i k hi hk hzi ho => by
      have hh := HN.out
      rw [hlr]
      exact lens_ord hz h1 hnu (by omega) (by omega) hzi ho
    have HRL : Hid ((lensR (l : Int) zs).length = n) := hlen
    have HBX : Hid (∀ i, 0 ≤ zs.getD i 0 ∧ zs.getD i 0 ≤ 1099511627776) := (errOf_zero hz).2
    generalize lensR (l : Int) zs = ls at *
    clear hlr hlen he e1 hnu hz
    go_enter Try.func3, Try.ntmps3
    go_wp2_with fail
    refine C1.mono ?_
    rintro e w1 ⟨b, c, rfl, s1, B1⟩
    have hx1 := hx.old B1
    have BF : ∀ w', Below w1.heap.size w1 w' → Below w.heap.size w w' := fun w' h => B1.trans (h.mono B1.size)
    go_wp2_with fail
    refine (HA.out w1 w1 (Below.refl _ _)).mono ?_
    rintro e w2 ⟨rfl, B2⟩
    go_wp2_with fail
    refine (HF.out w1 _ B1 B2).mono ?_
    rintro e w3 ⟨rfl, B3⟩
    go_wp2_with fail
    go_loopw [7] (fun ti wr => ∃ i : Nat, i ≤ n ∧ ti = .int .i64 i ∧ Below w1.heap.size w1 wr) (fun ti _ => n - (intOf ti).toNat)
    case atStart => exact ⟨0, Nat.zero_le _, rfl, B3⟩
    case round =>
      obtain ⟨i, hi, rfl, hb⟩ := hrel
      by_cases hin : i < n
      · have hii : (i : Int) < (n : Int) := by omega
        have HOI : Hid _ := fun k => HORD.out i k hin
        go_wp2_with fail
        go_loopw [8] (fun tk wr => ∃ k : Nat, k ≤ n ∧ tk = .int .i64 k ∧ Below w1.heap.size w1 wr) (fun tk _ => n - (intOf tk).toNat)
        case atStart => exact ⟨0, Nat.zero_le _, rfl, hb⟩
        case round =>
          obtain ⟨k, hk, rfl, hb2⟩ := hrel
          by_cases hkn : k < n
          · have hki : (k : Int) < (n : Int) := by omega
            have hs := hx1.old hb2
            have ht := s1.old hb2
            have HO : Hid _ := HOI.out k hkn
            obtain ⟨b1, o1, ea, c1⟩ := hs.at_ i (by have := HN.out; omega)
            obtain ⟨b1', o1', ea', c1'⟩ := hs.at_ k (by have := HN.out; omega)
            obtain ⟨b2, o2, eb, c2⟩ := ht.at_ i (by have := HRL.out; omega)
            obtain ⟨b2', o2', eb', c2'⟩ := ht.at_ k (by have := HRL.out; omega)
            subst ea
            subst eb
            cases ea'
            cases eb'
            have d1 := HBX.out i
            have d2 := HBX.out k
            have d3 := ht.bd i
            have d4 := ht.bd k
            generalize zs.getD i 0 = zi at *
            generalize zs.getD k 0 = zk at *
            generalize ls.getD i 0 = yi at *
            generalize ls.getD k 0 = yk at *
            clear HOI
            by_cases h0 : 0 < zi
            · by_cases h2 : zi < zk
              · have h3 : ¬ yi < yk := by have := HO.out h0 (.inl h2); omega
                go_wp2
                go_quiet (fail)
                have B3 : Below w1.heap.size w1 (wr.drewN nq) := ⟨hb2.os, hb2.tape, hb2.output, hb2.size, hb2.block⟩
                go_wp2
                go_roundw
                case rel => exact ⟨k + 1, by omega, by go_num, B3⟩
                case measure => simp [intOf]; omega
              · by_cases h4 : zk = zi
                · subst h4
                  by_cases h5 : i < k
                  · have h5i : (i : Int) < (k : Int) := by omega
                    have h3 : ¬ yi < yk := by have := HO.out h0 (.inr ⟨rfl, h5⟩); omega
                    go_wp2
                    go_quiet (fail)
                    have B3 : Below w1.heap.size w1 (wr.drewN nq) := ⟨hb2.os, hb2.tape, hb2.output, hb2.size, hb2.block⟩
                    go_wp2
                    go_roundw
                    case rel => exact ⟨k + 1, by omega, by go_num, B3⟩
                    case measure => simp [intOf]; omega
                  · have h5i : ¬ (i : Int) < (k : Int) := by omega
                    go_wp2
                    go_quiet (fail)
                    have B3 : Below w1.heap.size w1 (wr.drewN nq) := ⟨hb2.os, hb2.tape, hb2.output, hb2.size, hb2.block⟩
                    go_wp2
                    go_roundw
                    case rel => exact ⟨k + 1, by omega, by go_num, B3⟩
                    case measure => simp [intOf]; omega
                · have h4b : (zk == zi) = false := by simpa using h4
                  have h2h : Hid (¬ zi < zk) := h2
                  clear h2
                  go_wp2
                  have h2d : decide (zi < zk) = false := decide_eq_false (by have := h2h.out; omega)
                  have h4c : (zk == zi) = false := by simpa using h4
                  go_quiet (fail)
                  have B3 : Below w1.heap.size w1 (wr.drewN nq) := ⟨hb2.os, hb2.tape, hb2.output, hb2.size, hb2.block⟩
                  go_wp2
                  go_roundw
                  case rel => exact ⟨k + 1, by omega, by go_num, B3⟩
                  case measure => simp [intOf]; omega
            · obtain rfl : zi = 0 := by omega
              clear h0
              go_wp2
              go_quiet (fail)
              have B3 : Below w1.heap.size w1 (wr.drewN nq) := ⟨hb2.os, hb2.tape, hb2.output, hb2.size, hb2.block⟩
              go_wp2
              go_roundw
              case rel => exact ⟨k + 1, by omega, by go_num, B3⟩
              case measure => simp [intOf]; omega
          · obtain rfl : k = n := by omega
            go_wp2
            go_roundw
            case rel => exact ⟨i + 1, by omega, by go_num, hb2⟩
            case measure => simp [intOf]; omega
      · obtain rfl : i = n := by omega
        go_wp2
        go_ret
        exact ⟨rfl, BF _ hb⟩
  · have e1 : decide (errL lim zs = 0) = false := decide_eq_false he
    rw [e1] at HF
    have hls : lensR lim zs = [] := by unfold lensR; rw [if_neg he]
    rw [hls] at C1
    obtain ⟨E, hE⟩ : ∃ E, errL lim zs = E := ⟨_, rfl⟩
    have hEr := errL_no he
    rw [hE] at C1 hEr
    clear hE e1 hls he
    rcases hEr with rfl | rfl | rfl | rfl <;>
    · go_enter Try.func3, Try.ntmps3
      go_wp2_with fail
      refine C1.mono ?_
      rintro e w1 ⟨b, c, rfl, s1, B1⟩
      go_wp2_with fail
      refine (HA.out w1 w1 (Below.refl _ _)).mono ?_
      rintro e w2 ⟨rfl, B2⟩
      go_wp2_with fail
      refine (HF.out w1 _ B1 B2).mono ?_
      rintro e w3 ⟨rfl, B3⟩
      go_wp2
      go_ret
      exact ⟨rfl, B1.trans (B3.mono B1.size)⟩
end Go.Proofs.Ytmleicaalaggkab
