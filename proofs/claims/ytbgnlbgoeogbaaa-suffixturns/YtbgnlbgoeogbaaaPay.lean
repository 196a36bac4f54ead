import Derived.Test.YtbgnlbgoeogbaaaPax
import Derived.WalkKit
import Derived.WalkSpells
import Derived.Test.YtbgnlbgoeogbaaaPaa
namespace Go.Proofs.Ytbgnlbgoeogbaaa
open Go.RowKit
set_option linter.unusedVariables false

/-! The document's Unturn. -/
theorem cn12_yes {P : Nat → Prop} {n : Nat} (h : P n) : cn12 P (n + 1) = cn12 P n + 1 := by simp [cn12, h]
theorem cn12_no {P : Nat → Prop} {n : Nat} (h : ¬ P n) : cn12 P (n + 1) = cn12 P n := by simp [cn12, h]
set_option maxRecDepth 100000 in
set_option maxHeartbeats 4000000 in
theorem runt13 (a : Option Addr) (b : List Int) (n cap e : Nat) (w : World) (hs : Seg w a b) (hn : Hid (b.length = n)) (hb : n ≤ 16777216) (he : e ≤ n) :
    Calls Try.prog 30 #[.slice a n cap, .int .i64 (e : Int)] w (UnQ13 w b n e) := by
  have HSD : Hid (∀ W, Below w.heap.size w W → Seg W a b) := fun W hb => hs.old hb
  have hbi : ¬ (16777216 : Int) < (n : Int) := by omega
  have he0 : ¬ (e : Int) < 0 := by omega
  have he1 : ¬ (n : Int) < (e : Int) := by omega
  have HEN : Hid (e ≤ n) := he
  clear hs
  have HM := run_make_zeros n (by omega) w
  have Al : Below w.heap.size w (w.alloc (.cells ((List.replicate n (0 : Int)).map (Value.int .u8)).toArray 5)) := (Below.refl _ _).alloc (Nat.le_refl _) _
  have oO : (w.alloc (.cells ((List.replicate n (0 : Int)).map (Value.int .u8)).toArray 5)).ownsRow w.heap.size 5 1 (.slice (some ⟨w.heap.size, 0, none⟩) n n) n ((List.replicate n (0 : Int)).map (Value.int .u8)) := by
    have h5 := World.ownsRow_lit (base := w.heap.size) (e := 5) (size := 1) w ((List.replicate n (0 : Int)).map (Value.int .u8)).toArray n (Nat.le_refl _) (by unfold maxLen; omega) (by simp)
    simpa using h5
  obtain ⟨w3, hw3⟩ : ∃ w3, w.alloc (.cells ((List.replicate n (0 : Int)).map (Value.int .u8)).toArray 5) = w3 := ⟨_, rfl⟩
  obtain ⟨go, hgo⟩ : ∃ go, w.heap.size = go := ⟨_, rfl⟩
  rw [hw3] at HM Al oO
  have oO2 : w3.ownsRow w.heap.size 5 1 (.slice (some ⟨go, 0, none⟩) n n) n ((List.replicate n (0 : Int)).map (Value.int .u8)) := by rw [← hgo]; exact oO
  have HM2 : (Instr.makeSlice 41 (.int .i64 (n : Int)) (.int .i64 (n : Int))).run Try.prog w = .ok (.slice (some ⟨go, 0, none⟩) n n) w3 := by rw [← hgo]; exact HM
  have HGO : Hid (w.heap.size ≤ go) := by show _ ≤ _; omega
  have HP0 : Hid (Rp13u (S12 b) n e 0 (List.replicate n 0)) := ⟨fun q hq => by omega, fun q hq => by omega, zeros_bd n, Nat.zero_le _⟩
  clear hw3 hgo HM oO
  go_enter Try.func30, Try.ntmps30
  go_wp2_with fail
  go_loopw [7, 8] (fun tr ti wr => ∃ (k : Nat) (t : Int) (L : List Int), k ≤ n ∧ tr = .int .i64 ((rw13 (S12 b) n e k : Nat) : Int) ∧ ti = .int .i64 t ∧ Hid (t = (n : Int) - 1 - (k : Int)) ∧ L.length = n ∧ Hid (Rp13u (S12 b) n e k L) ∧ wr.ownsRow w.heap.size 5 1 (.slice (some ⟨go, 0, none⟩) n n) n (L.map (Value.int .u8)) ∧ Below w.heap.size w wr) (fun _ ti _ => (intOf ti + 1).toNat)
  case atStart => exact ⟨0, (n : Int) - 1, List.replicate n 0, Nat.zero_le _, rfl, rfl, (by show _ = _; omega), by simp, HP0, oO2, Al⟩
  case round =>
    obtain ⟨k, t, L, hk, rfl, rfl, HT, hL, HP, oL, DW⟩ := hrel
    clear oO2 Al HM2
    by_cases h1 : k < n
    · obtain ⟨p, hp⟩ : ∃ p, p = n - 1 - k := ⟨_, rfl⟩
      obtain rfl : t = (p : Int) := by have := HT.out; omega
      have hpn : p < n := by omega
      have hpi : (p : Int) < (n : Int) := by omega
      have hp0 : (0 : Int) ≤ (p : Int) := by omega
      have hr := HP.out.row
      have HNX : Hid (rw13 (S12 b) n e (k + 1) = nx13 (S12 b) n (la13 e (rw13 (S12 b) n e k))) := rfl
      have HRC : Hid (rc13 (S12 b) n e k = S12 b (la13 e (rw13 (S12 b) n e k))) := rfl
      have HST : Hid (rw13 (S12 b) n e k ≠ e → 0 ≤ rc13 (S12 b) n e k ∧ rc13 (S12 b) n e k ≤ 255 → Rp13u (S12 b) n e (k + 1) (L.set (n - 1 - k) (rc13 (S12 b) n e k))) := fun h5 h6 => HP.out.step HEN.out hL h1 h5 h6
      have HNO : Hid (rw13 (S12 b) n e k = e → ¬ Wk13 (S12 b) n e) := fun h5 h6 => h6.run k h1 h5
      generalize rw13 (S12 b) n e k = r at *
      by_cases h2 : r = e
      · have HF : Hid (¬ Wk13 (S12 b) n e) := HNO.out h2
        subst h2
        clear HNO HST HNX HRC hp
        go_wp2_with fail
        refine bodyPost_ret (results_tmp2 rfl _ _ _) rfl ?_
        exact Or.inl ⟨HF.out, rfl, DW⟩
      · have h2i : ¬ (r : Int) = (e : Int) := by omega
        have h2b : ((r : Int) == (e : Int)) = false := beq_eq_false_iff_ne.2 h2i
        have hla := la13_lt (n := n) HEN.out hr h2
        have HSE : Hid (la13 e r = if e < r then r - 1 else r) := rfl
        obtain ⟨db, dof, rfl, c1⟩ := (HSD.out wr DW).at_ (la13 e r) (by rw [hn.out]; exact hla)
        have yb := (HSD.out wr DW).bd (la13 e r)
        have HST2 : Hid (Rp13u (S12 b) n e (k + 1) (L.set p (b.getD (la13 e r) 0))) := by
          have h7 := HRC.out
          have h8 := HST.out h2 (by rw [h7]; exact yb)
          rw [h7, ← hp] at h8
          exact h8
        have c3 := oL.cells (g := go) rfl p (.int .u8 (L.getD p 0)) (by simp [List.getD, hL, hpn])
        have hadd : (⟨go, 0, none⟩ : Addr).add p = ⟨go, p, none⟩ := by unfold Addr.add; split <;> simp_all
        rw [hadd] at c3
        have fz := oL.frozenAt p
        have HSS := oL.stored p (.int .u8 (b.getD (la13 e r) 0))
        rw [← List.map_set] at HSS
        have HS : Hid (((wr.setCell ⟨go, p, none⟩ (.int .u8 (b.getD (la13 e r) 0)))).ownsRow w.heap.size 5 1 (.slice (some ⟨go, 0, none⟩) n n) n ((L.set p (b.getD (la13 e r) 0)).map (Value.int .u8))) := HSS.1
        have HD2 : Hid (Below w.heap.size w (wr.setCell ⟨go, p, none⟩ (.int .u8 (b.getD (la13 e r) 0)))) := DW.trans ((Kp.set (S := fun k => k = go) rfl _).below (fun k e => by have := HGO.out; omega) DW.size)
        have HPT : Hid ((p : Int) - 1 = (n : Int) - 1 - ((k + 1 : Nat) : Int)) := by show _ = _; omega
        have HBY : Hid (S12 b (la13 e r) = b.getD (la13 e r) 0) := rfl
        generalize L.getD p 0 = y0 at c3
        clear oL HSS HNO HST HRC hp HP HT
        generalize hl0 : la13 e r = l at *
        have HL0 : Hid (la13 e r = l) := hl0
        clear hl0
        generalize b.getD l 0 = y at *
        have hcase : (e < r ∧ l + 1 = r) ∨ (¬ e < r ∧ l = r) := by
          have h5 := HSE.out
          by_cases h3 : e < r
          · rw [if_pos h3] at h5; exact Or.inl ⟨h3, by omega⟩
          · rw [if_neg h3] at h5; exact Or.inr ⟨h3, h5⟩
        clear HSE HL0
        have HCS : Hid ((e < r ∧ l + 1 = r) ∨ (¬ e < r ∧ l = r)) := hcase
        clear hcase
        have hli : (l : Int) < (n : Int) := by omega
        rcases HCS.out with ⟨h3, h4⟩ | ⟨h3, h4⟩
        · have h3i : (e : Int) < (r : Int) := by omega
          have er : (r : Int) - 1 = (l : Int) := by omega
          have HH4 : Hid (l + 1 = r) := h4
          clear h4
          go_wp2_with fail
          have HSD2 := HSD.out _ HD2.out
          have HOW := HS.out
          have HDW := HD2.out
          generalize hW2 : wr.setCell ⟨go, p, none⟩ (.int .u8 y) = W2 at *
          clear hW2 HS HD2
          go_loopw [7, 56] (fun tr tj wr => ∃ (j m : Nat), j ≤ n ∧ tr = .int .i64 m ∧ tj = .int .i64 j ∧ Hid (m = cn12 (fun q => lt13 (S12 b) q l) j + 1) ∧ m ≤ j + 1 ∧ wr = W2) (fun _ tj _ => n - (intOf tj).toNat)
          case atStart => exact ⟨0, 1, Nat.zero_le _, rfl, rfl, (rfl : 1 = cn12 _ 0 + 1), Nat.le_refl _, by first | trivial | rfl⟩
          case round =>
            obtain ⟨j, m, hj, rfl, rfl, HMJ, hmj, hw9⟩ := hrel
            subst hw9
            rename World => W2
            by_cases h5 : j < n
            · have h5i : (j : Int) < (n : Int) := by omega
              obtain ⟨db', dof', e9, c5⟩ := HSD2.at_ j (by rw [hn.out]; exact h5)
              cases e9
              have xb := HSD2.bd j
              have HXJ : Hid (S12 b j = b.getD j 0) := rfl
              have HLT : Hid (lt13 (S12 b) j l ↔ (b.getD j 0 < y ∨ (b.getD j 0 = y ∧ j < l))) := by show _ ↔ _; unfold lt13; rw [HXJ.out, HBY.out]
              clear HXJ
              generalize b.getD j 0 = x at *
              by_cases h6 : lt13 (S12 b) j l
              · have HMN : Hid (m + 1 = cn12 (fun q => lt13 (S12 b) q l) (j + 1) + 1) := by show _ = _; rw [cn12_yes (P := fun q => lt13 (S12 b) q l) h6]; have := HMJ.out; omega
                rcases HLT.out.1 h6 with h7 | ⟨h7, h8⟩
                · clear h6 HLT HMJ
                  go_wp2_with fail
                  go_roundw
                  case rel => exact ⟨j + 1, m + 1, by omega, by go_num, by go_num, HMN, by omega, by first | trivial | rfl⟩
                  case measure => simp [intOf]; omega
                · subst h7
                  have h8i : (j : Int) < (l : Int) := by omega
                  clear h6 HLT HMJ
                  go_wp2_with fail
                  go_roundw
                  case rel => exact ⟨j + 1, m + 1, by omega, by go_num, by go_num, HMN, by omega, by first | trivial | rfl⟩
                  case measure => simp [intOf]; omega
              · have HMN : Hid (m = cn12 (fun q => lt13 (S12 b) q l) (j + 1) + 1) := by show _ = _; rw [cn12_no (P := fun q => lt13 (S12 b) q l) h6]; exact HMJ.out
                have h7 : ¬ x < y := fun c => h6 (HLT.out.2 (Or.inl c))
                have h8 : x = y → ¬ j < l := fun c d => h6 (HLT.out.2 (Or.inr ⟨c, d⟩))
                clear h6 HLT HMJ
                by_cases h9 : x = y
                · have h10 : ¬ (j : Int) < (l : Int) := by have := h8 h9; omega
                  subst h9
                  clear h8
                  go_wp2_with fail
                  go_roundw
                  case rel => exact ⟨j + 1, m, by omega, by go_num, by go_num, HMN, by omega, by first | trivial | rfl⟩
                  case measure => simp [intOf]; omega
                · have h9b : (x == y) = false := beq_eq_false_iff_ne.2 h9
                  clear h8
                  go_wp2_with fail
                  go_roundw
                  case rel => exact ⟨j + 1, m, by omega, by go_num, by go_num, HMN, by omega, by first | trivial | rfl⟩
                  case measure => simp [intOf]; omega
            · have h5i : ¬ (j : Int) < (n : Int) := by omega
              obtain rfl : j = n := by omega
              have HMF : Hid (rw13 (S12 b) j e (k + 1) = m) := by show _ = _; rw [HNX.out, HMJ.out]; rfl
              go_wp2_with fail
              go_roundw
              case rel => exact ⟨k + 1, (p : Int) - 1, L.set p y, by omega, by rw [HMF.out], by first | rfl | go_num, HPT, by rw [List.length_set]; exact hL, HST2, HOW, HDW⟩
              case measure => simp [intOf]
        · have h3i : ¬ (e : Int) < (r : Int) := by omega
          subst h4
          go_wp2_with fail
          have HSD2 := HSD.out _ HD2.out
          have HOW := HS.out
          have HDW := HD2.out
          generalize hW2 : wr.setCell ⟨go, p, none⟩ (.int .u8 y) = W2 at *
          clear hW2 HS HD2
          go_loopw [7, 56] (fun tr tj wr => ∃ (j m : Nat), j ≤ n ∧ tr = .int .i64 m ∧ tj = .int .i64 j ∧ Hid (m = cn12 (fun q => lt13 (S12 b) q l) j + 1) ∧ m ≤ j + 1 ∧ wr = W2) (fun _ tj _ => n - (intOf tj).toNat)
          case atStart => exact ⟨0, 1, Nat.zero_le _, rfl, rfl, (rfl : 1 = cn12 _ 0 + 1), Nat.le_refl _, by first | trivial | rfl⟩
          case round =>
            obtain ⟨j, m, hj, rfl, rfl, HMJ, hmj, hw9⟩ := hrel
            subst hw9
            rename World => W2
            by_cases h5 : j < n
            · have h5i : (j : Int) < (n : Int) := by omega
              obtain ⟨db', dof', e9, c5⟩ := HSD2.at_ j (by rw [hn.out]; exact h5)
              cases e9
              have xb := HSD2.bd j
              have HXJ : Hid (S12 b j = b.getD j 0) := rfl
              have HLT : Hid (lt13 (S12 b) j l ↔ (b.getD j 0 < y ∨ (b.getD j 0 = y ∧ j < l))) := by show _ ↔ _; unfold lt13; rw [HXJ.out, HBY.out]
              clear HXJ
              generalize b.getD j 0 = x at *
              by_cases h6 : lt13 (S12 b) j l
              · have HMN : Hid (m + 1 = cn12 (fun q => lt13 (S12 b) q l) (j + 1) + 1) := by show _ = _; rw [cn12_yes (P := fun q => lt13 (S12 b) q l) h6]; have := HMJ.out; omega
                rcases HLT.out.1 h6 with h7 | ⟨h7, h8⟩
                · clear h6 HLT HMJ
                  go_wp2_with fail
                  go_roundw
                  case rel => exact ⟨j + 1, m + 1, by omega, by go_num, by go_num, HMN, by omega, by first | trivial | rfl⟩
                  case measure => simp [intOf]; omega
                · subst h7
                  have h8i : (j : Int) < (l : Int) := by omega
                  clear h6 HLT HMJ
                  go_wp2_with fail
                  go_roundw
                  case rel => exact ⟨j + 1, m + 1, by omega, by go_num, by go_num, HMN, by omega, by first | trivial | rfl⟩
                  case measure => simp [intOf]; omega
              · have HMN : Hid (m = cn12 (fun q => lt13 (S12 b) q l) (j + 1) + 1) := by show _ = _; rw [cn12_no (P := fun q => lt13 (S12 b) q l) h6]; exact HMJ.out
                have h7 : ¬ x < y := fun c => h6 (HLT.out.2 (Or.inl c))
                have h8 : x = y → ¬ j < l := fun c d => h6 (HLT.out.2 (Or.inr ⟨c, d⟩))
                clear h6 HLT HMJ
                by_cases h9 : x = y
                · have h10 : ¬ (j : Int) < (l : Int) := by have := h8 h9; omega
                  subst h9
                  clear h8
                  go_wp2_with fail
                  go_roundw
                  case rel => exact ⟨j + 1, m, by omega, by go_num, by go_num, HMN, by omega, by first | trivial | rfl⟩
                  case measure => simp [intOf]; omega
                · have h9b : (x == y) = false := beq_eq_false_iff_ne.2 h9
                  clear h8
                  go_wp2_with fail
                  go_roundw
                  case rel => exact ⟨j + 1, m, by omega, by go_num, by go_num, HMN, by omega, by first | trivial | rfl⟩
                  case measure => simp [intOf]; omega
            · have h5i : ¬ (j : Int) < (n : Int) := by omega
              obtain rfl : j = n := by omega
              have HMF : Hid (rw13 (S12 b) j e (k + 1) = m) := by show _ = _; rw [HNX.out, HMJ.out]; rfl
              go_wp2_with fail
              go_roundw
              case rel => exact ⟨k + 1, (p : Int) - 1, L.set p y, by omega, by rw [HMF.out], by first | rfl | go_num, HPT, by rw [List.length_set]; exact hL, HST2, HOW, HDW⟩
              case measure => simp [intOf]
    · have h1i : ¬ (k : Int) < (n : Int) := by omega
      obtain rfl : k = n := by omega
      obtain rfl : t = -1 := by have := HT.out; omega
      have HW : Hid (Wk13 (S12 b) k e) := ⟨HEN.out, HP.out.run⟩
      have HX : Hid (Rd13 (S12 b) k e L) := ⟨hL, HP.out.at_⟩
      have HFN : Hid (rw13 (S12 b) k e k = e) := HW.out.fin
      rw [HFN.out]
      have sX := own_seg13 oL HP.out.bd
      have HTN := rturn13 (some ⟨go, 0, none⟩) L k k (ia13 (S12 b) k e) wr sX (Nat.le_refl _) hL (HW.out.ar HX.out) hb
      have HTE : Hid (te13 k (ia13 (S12 b) k e) = e) := HW.out.te HX.out
      have HTB : Hid (tn13 L (k :: ia13 (S12 b) k e) = b) := Wk13.turn_all hn.out HW.out HX.out
      unfold TnQ13 at HTN
      rw [HTE.out, HTB.out] at HTN
      have HBB : Hid (∀ y ∈ b, 0 ≤ y ∧ y ≤ 255) := seg_bd13 (HSD.out wr DW)
      go_wp2_with (first
        | (go_at_call 25; refine HTN.mono ?_; rintro e5 w5 ⟨ra, rc, rfl, o5, B5⟩; have D5 := DW.trans (B5.mono DW.size); have s5 := own_seg13 o5 HBB.out; have y1 := run_conv_segS (P := Try.prog) rc s5 41 5 9 Try.underlying41 Try.underlying5 Try.underlying9; have y2 := run_conv_segS (P := Try.prog) cap (HSD.out w5 D5) 41 5 9 Try.underlying41 Try.underlying5 Try.underlying9; rw [hn.out] at y1 y2))
      refine bodyPost_ret (results_tmp2 rfl _ _ _) rfl ?_
      exact Or.inr ⟨HW.out, some ⟨go, 0, none⟩, k, L, rfl, HX.out, HP.out.bd, own_below oL B5, D5⟩
end Go.Proofs.Ytbgnlbgoeogbaaa

namespace Go.Proofs.Ytbgnlbgoeogbaaa
open Go.RowKit
set_option linter.unusedVariables false

theorem own_less {w : World} {base n g cap : Nat} {e : TypeId} {xs : List Value} {y : Value} (h : w.ownsRow base e 1 (.slice (some ⟨g, 0, none⟩) (n + 1) cap) (n + 1) (xs ++ [y])) : w.ownsRow base e 1 (.slice (some ⟨g, 0, none⟩) n cap) n xs := by
  have hl : xs.length = n := by have := h.1; simp at this; omega
  refine ⟨by omega, ?_⟩
  rcases h.2 with ⟨h0, _⟩ | ⟨g', cap', cur, hv, hb, hg, hc, hm, hs, ht⟩
  · cases h0
  · simp only [Value.slice.injEq, Option.some.injEq, Addr.mk.injEq, and_true, true_and] at hv
    obtain ⟨rfl, rfl⟩ := hv
    refine .inr ⟨g, cap, cur, rfl, hb, hg, by omega, hm, hs, ?_⟩
    have h2 := congrArg (List.take n) ht
    rw [List.take_take, List.take_append_of_le_length (by omega), List.take_of_length_le (by omega : xs.length ≤ n)] at h2
    rw [Nat.mul_one] at h2 ⊢
    rw [Nat.min_eq_left (by omega)] at h2
    exact h2

theorem own_take {w : World} {base m l g cap : Nat} {e : TypeId} {xs : List Value} (h : w.ownsRow base e 1 (.slice (some ⟨g, 0, none⟩) m cap) m xs) (hl : l ≤ m) : w.ownsRow base e 1 (.slice (some ⟨g, 0, none⟩) l cap) l (xs.take l) := by
  have hx : xs.length = m := by have := h.1; simp at this; omega
  refine ⟨by simp; omega, ?_⟩
  rcases h.2 with ⟨h0, _⟩ | ⟨g', cap', cur, hv, hb, hg, hc, hm, hs, ht⟩
  · cases h0
  · simp only [Value.slice.injEq, Option.some.injEq, Addr.mk.injEq, and_true, true_and] at hv
    obtain ⟨rfl, rfl⟩ := hv
    refine .inr ⟨g, cap, cur, rfl, hb, hg, by omega, hm, hs, ?_⟩
    rw [← ht, List.take_take, Nat.mul_one, Nat.mul_one, Nat.min_eq_left hl]

/-- An append of one cell onto a row of the call's own: the row itself stays; the new one is at its place, or in a new block. -/
theorem run_push_st {P : Program} (t ty : TypeId) (base : Nat) (e : TypeId) (i : TypeInfo) (z : Value) (bytes : Nat) (ht : P.underlying t = some (.slice e)) (hi : P.info? e = some i) (hz : i.zero = some z)
    (hsize : i.size = 1) (hby : i.bytes = bytes) (hzs : z.cells.size = 1)
    (w0 : World) (y : Value) (hy : y.oneCell' = true) {v : Value} {n : Nat} {xs : List Value} (hown : w0.ownsRow base e 1 v n xs)
    (h63 : n + 1 ≤ 140737488355328) (hbytes : (n + 1) * bytes ≤ 140737488355328) (hbase : base ≤ w0.heap.size) :
    ∃ v' w', (Builtin.append_ #[t, t] ty #[v, .slice (some ⟨w0.heap.size, 0, none⟩) 1 1]).run P (w0.alloc (.cells #[y] e)) = .ok v' w' ∧ w'.ownsRow base e 1 v' (n + 1) (xs ++ [y]) ∧ w0.grownBy w' v.ownBlock ∧
      w'.ownsRow base e 1 v n xs ∧ ((∃ g c, v = .slice (some ⟨g, 0, none⟩) n c ∧ v' = .slice (some ⟨g, 0, none⟩) (n + 1) c) ∨ ∃ g, v'.ownBlock = some g ∧ w0.heap.size ≤ g) := by
  have hown1 := hown.alloc (.cells #[y] e)
  have hcell := cell_one_new w0 y e
  have h1c : ∀ u ∈ [y], u.oneCell' = true := by intro u hu; simp at hu; subst hu; exact hy
  obtain ⟨v', w', hr, h1, h2, _⟩ := run_append_own (P := P) (w0.alloc (.cells #[y] e)) base t ty e i z 1 bytes ht hi hz hsize hby hzs (by decide) v n xs hown1 ⟨w0.heap.size, 0, none⟩ 1 1 [y] rfl hcell h1c (by unfold maxLen; omega) hbytes (by simp; omega)
  refine ⟨v', w', hr, h1, grownBy_trans (World.grownBy_alloc w0 _ _) h2, ?_⟩
  subst hby
  rcases hown.2 with ⟨rfl, rfl⟩ | ⟨g, cap, cur, rfl, hbg, hg, hnc, hcm, hcs, htake⟩
  · have hx : xs = [] := List.eq_nil_of_length_eq_zero (by simpa using hown.1)
    subst hx
    have hr2 := run_append_nil (P := P) (w0.alloc (.cells #[y] e)) t ty e i z ht hi hz ⟨w0.heap.size, 0, none⟩ 1 1 [y] (by rw [hsize]; rfl) hcell (by decide) (by decide) (by simp only [Nat.zero_add] at hbytes; omega)
    rw [hr] at hr2
    simp only [Result.ok.injEq] at hr2
    obtain ⟨rfl, rfl⟩ := hr2
    exact ⟨World.ownsRow_nil _ _ _ _, .inr ⟨_, rfl, by simp⟩⟩
  · by_cases hroom : n + 1 ≤ cap
    · have hg1 : (w0.alloc (.cells #[y] e)).heap[g]? = some (.cells cur e (0, 0)) := by
        rw [Below.heap_alloc _ _ _ (Array.getElem?_eq_some_iff.1 hg).1]; exact hg
      have hr2 := run_append_room (P := P) (w0.alloc (.cells #[y] e)) t ty e i ht hi g n cap cur hg1 ⟨w0.heap.size, 0, none⟩ 1 1 [y] (by rw [hsize]; rfl) hcell h1c hroom (by rw [hsize]; simp; omega)
      rw [hr] at hr2
      simp only [Result.ok.injEq] at hr2
      obtain ⟨rfl, rfl⟩ := hr2
      exact ⟨own_less h1, .inl ⟨g, cap, rfl, rfl⟩⟩
    · have hr2 := run_append_grow (P := P) (w0.alloc (.cells #[y] e)) t ty e i z ht hi hz ⟨g, 0, none⟩ n cap xs (by rw [hsize]; exact hown.1) (hown1.cells (g := g) rfl) ⟨w0.heap.size, 0, none⟩ 1 1 [y] (by rw [hsize]; rfl) hcell (by omega) (by omega) (growslice_fits (by omega) hbytes)
      rw [hr] at hr2
      simp only [Result.ok.injEq] at hr2
      obtain ⟨rfl, rfl⟩ := hr2
      refine ⟨?_, .inr ⟨_, rfl, by simp⟩⟩
      exact World.ownsRow.alloc (w := (w0.alloc (.cells #[y] e)).drew) hown1 _

theorem wpList_push_st {P : Program} {ops : Array Oper} {rest : List Oper} {o : Oper} {a : Act} {Q : Exit → Act → World → Prop} (hgd : o.guard = none) (s x : Operand) (t : TypeId)
    (ho : o.op = .call { callee := .builtin .append, args := #[s, x], argTypes := #[t, t] })
    (base : Nat) (e : TypeId) (i : TypeInfo) (z : Value) (bytes : Nat) (ht : P.underlying t = some (.slice e)) (hi : P.info? e = some i) (hz : i.zero = some z)
    (hsize : i.size = 1) (hby : i.bytes = bytes) (hzs : z.cells.size = 1)
    (w0 : World) (y : Value) (hy : y.oneCell' = true) {v : Value} {n : Nat} {xs : List Value} (hown : w0.ownsRow base e 1 v n xs) (hs : a.eval s = v) (hx : a.eval x = .slice (some ⟨w0.heap.size, 0, none⟩) 1 1)
    (h63 : n + 1 ≤ 140737488355328) (hbytes : (n + 1) * bytes ≤ 140737488355328) (hbase : base ≤ w0.heap.size)
    (h : ∀ (g c : Nat) (w' : World), w'.ownsRow base e 1 (.slice (some ⟨g, 0, none⟩) (n + 1) c) (n + 1) (xs ++ [y]) → w0.grownBy w' v.ownBlock → w'.ownsRow base e 1 v n xs → (v = .slice (some ⟨g, 0, none⟩) n c ∨ w0.heap.size ≤ g) → wpList P ops Q rest (a.put o.dst (.slice (some ⟨g, 0, none⟩) (n + 1) c)) w') : wpList P ops Q (o :: rest) a (w0.alloc (.cells #[y] e)) := by
  obtain ⟨v', w', hr, h2, h3, h4, h5⟩ := run_push_st (P := P) t o.type base e i z bytes ht hi hz hsize hby hzs w0 y hy hown h63 hbytes hbase
  obtain ⟨g, c, rfl, _⟩ := own_shape h2 (by omega)
  refine wpList_plain hgd fun K hK => ?_
  unfold Oper.wp execOp
  simp only [ho, resolve, invoke, builtin, Sem.run_bind, Sem.run_pure, Result.andThen_ok, List.map_toArray, List.map_cons, List.map_nil, hs, hx, hr]
  refine hK _ _ (h g c w' h2 h3 h4 ?_)
  rcases h5 with ⟨g', c', e1, e2⟩ | ⟨g', e1, e2⟩
  · cases e2; exact .inl e1
  · cases e1; exact .inr e2
end Go.Proofs.Ytbgnlbgoeogbaaa
