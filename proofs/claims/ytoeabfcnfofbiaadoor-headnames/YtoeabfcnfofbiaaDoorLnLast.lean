
import Derived.Test.YtoeabfcnfofbiaaDoorLnMerge
namespace Go.Proofs.YtoeabfcnfofbiaaDoor
open Go.RowKit
set_option linter.unusedVariables false

theorem pk_le (M : Nat) : ∀ l : List It, (∀ t ∈ l, t.1 ≤ M) → ∀ t ∈ pk l, t.1 ≤ 2 * M
  | [], _ => by simp [pk]
  | [_], _ => by simp [pk]
  | a :: b :: r, h => by
    intro t ht
    simp only [pk, List.mem_cons] at ht
    rcases ht with rfl | ht
    · have := h a (by simp)
      have := h b (by simp)
      simp only
      omega
    · exact pk_le M r (fun x hx => h x (by simp [hx])) t ht
theorem row_le (F : List It) (M : Nat) (h : ∀ t ∈ F, t.1 ≤ M) : ∀ k, ∀ t ∈ row F k, t.1 ≤ M * 2 ^ k
  | 0, t, ht => by simpa using h t ht
  | k + 1, t, ht => by
    have ih := pk_le (M * 2 ^ k) (row F k) (row_le F M h k)
    simp only [row] at ht
    rcases List.mem_append.1 ((List.merge_perm_append _).mem_iff.1 ht) with ht | ht
    · have := h t ht
      exact Nat.le_trans this (Nat.le_mul_of_pos_right _ (Nat.two_pow_pos _))
    · have := ih t ht
      rw [Nat.pow_succ]
      have e : M * (2 ^ k * 2) = 2 * (M * 2 ^ k) := by rw [Nat.mul_comm (2 ^ k) 2, Nat.mul_left_comm]
      rw [e]; exact this
theorem row_len_le (F : List It) : ∀ k, (row F k).length ≤ 2 * F.length
  | 0 => by simp [row]; omega
  | k + 1 => by have := row_len_le F k; rw [row_len]; omega
def Gq (o : Nat) (W : World) : Nat → Prop := fun k => k ≠ o ∧ k < W.heap.size
theorem pow14 : ∀ j : Fin 15, 2 ^ j.val ≤ 16384 := by decide

set_option maxRecDepth 100000 in
set_option maxHeartbeats 600000 in
theorem lastRow_any (a : Option Addr) (n ca lim o : Nat) (L : List Im) (F : List It) (w : World) (hn : Hid (L.length = n)) (hR : RL w a L) (hL : ML (Gq o w) w 0 L F) (hao : ∀ x, a = some x → x.block ≠ o) (ho : o < w.heap.size)
    (hF : ∀ t ∈ F, t.1 ≤ 1099511627776) (hl : n ≤ 288) (hca : n ≤ ca) (hna : a = none → ca = 0) (h1 : 1 ≤ lim) (h15 : lim ≤ 15) :
    Calls Tryd.prog 91 #[.slice a n ca, .int .i64 lim] w fun e w' => ∃ b c R, e = .returned (.slice b R.length c) ∧ R.length ≤ c ∧ RL w' b R ∧ (∀ x, b = some x → x.block ≠ o) ∧ ML (Gq o w') w' (lim - 1) R (row F (lim - 1)) ∧ Below w.heap.size w w' := by
  obtain ⟨J, hJ⟩ : ∃ J, lim = J + 1 := ⟨lim - 1, by omega⟩
  have rJ : (lim : Int) - 1 = (J : Int) := by omega
  have HJ : Hid (lim = J + 1) := hJ
  have hJ14 : J ≤ 14 := by omega
  clear hJ
  have hFl := hL.len
  have HFl : Hid (F.length = n) := by have := hn.out; show _ = _; omega
  have HRL : Hid (∀ j, (row F j).length ≤ 576) := fun j => by have := row_len_le F j; have := HFl.out; omega
  have HRB : Hid (∀ j, j ≤ 14 → ∀ t ∈ row F j, t.1 ≤ 1152921504606846976) := fun j hj t ht => by
    have h2 := row_le F 1099511627776 hF j t ht
    have h3 := pow14 ⟨j, by omega⟩
    simp only at h3
    exact Nat.le_trans h2 (Nat.le_trans (Nat.mul_le_mul_left _ h3) (by decide))
  clear hFl
  go_enter Tryd.func91, Tryd.ntmps91
  go_wp2_with fail
  go_loopw [5, 9] (fun tr ti wr => ∃ (j m c : Nat) (b : Option Addr) (R : List Im), j ≤ J ∧ ti = .int .i64 (j : Int) ∧ tr = .slice b m c ∧ Hid (R.length = m) ∧ m ≤ c ∧ RL wr b R ∧ Below w.heap.size w wr ∧ Hid ((∀ x, b = some x → x.block ≠ o) ∧ ML (Gq o wr) wr j R (row F j))) (fun _ ti _ => J - (intOf ti).toNat)
  case atStart => exact ⟨0, n, ca, a, L, Nat.zero_le _, rfl, rfl, hn, hca, hR, Below.refl _ _, (⟨hao, hL⟩ : _ ∧ _)⟩
  case round =>
    obtain ⟨j, m, c, b, R, hj, rfl, rfl, hm, hmc, rr, BR, HX⟩ := hrel
    by_cases hjJ : j < J
    · have hjJi : (j : Int) < (J : Int) := by omega
      have hm576 : m ≤ 576 := by have := HX.out.2.len; have := hm.out; have := HRL.out j; omega
      have CP := packed_any b m c j R (row F j) (Gq o wr) wr hm rr HX.out.2 (fun k hk => hk.2) (HRB.out j (by omega)) (by omega)
      go_wp2_with fail
      refine CP.mono ?_
      rintro e w2 ⟨b2, c2, P, rfl, hPl, ⟨hPc, hPn⟩, rp, mp, B2⟩
      have Bw2 : Below w.heap.size w w2 := BR.trans (B2.mono BR.size)
      have ho2 : o < w2.heap.size := Nat.lt_of_lt_of_le ho Bw2.size
      have rl2 := hR.old Bw2
      have ml2 : ML (Gq o w2) w2 (j + 1) L F := by
        refine ⟨hL.len, fun k hk => ?_⟩
        have := hL.mn k hk
        exact Mn.leaf this _
      have mp2 : ML (Gq o w2) w2 (j + 1) P (pk (row F j)) := by
        by_cases hR0 : 0 < R.length
        · refine mp.mono (fun k hk => ?_)
          rcases hk with ⟨h2, h3⟩ | ⟨off, e⟩
          · exact ⟨h2, Nat.lt_of_lt_of_le h3 B2.size⟩
          · refine ⟨HX.out.1 _ e, ?_⟩
            obtain ⟨b', off', e2, it⟩ := rr.at_ 0 hR0
            rw [e] at e2
            cases e2
            exact Nat.lt_of_lt_of_le it.lt B2.size
        · refine ⟨mp.len, fun k hk => ?_⟩
          have := hm.out
          omega
      obtain ⟨pl, hpl⟩ : ∃ pl, P.length = pl := ⟨_, rfl⟩
      have HPL : Hid (P.length = pl) := hpl
      rw [hpl] at hPc hPl ⊢
      have hpl2 : pl ≤ 576 := by omega
      clear hPl hpl
      have CM := merged_any a b2 n pl ca c2 (j + 1) L P F (pk (row F j)) (Gq o w2) w2 hn HPL rl2 rp ml2 mp2 (fun k hk => hk.2) (by omega) (by omega) hca hPc hna hPn
      clear CP
      go_wp2_with fail
      refine CM.mono ?_
      rintro e w3 ⟨b3, c3, R3, rfl, hR3, hRc3, hRn3, rr3, hb3, m3, B3⟩
      have HX3 : Hid ((∀ x, b3 = some x → x.block ≠ o) ∧ ML (Gq o w3) w3 (j + 1) R3 (row F (j + 1))) := ⟨fun x hx => by have := hb3 x hx; omega, m3.mono (fun k hk => ⟨hk.1, Nat.lt_of_lt_of_le hk.2 B3.size⟩)⟩
      clear CM hR3
      go_wp2
      go_roundw
      case rel => exact ⟨j + 1, R3.length, c3, b3, R3, by omega, by go_num, rfl, (rfl : _ = _), hRc3, rr3, Bw2.trans (B3.mono Bw2.size), HX3.out⟩
      case measure => simp [intOf]; omega
    · obtain rfl : j = J := by omega
      go_wp2
      go_ret
      have e := hm.out
      have ej := HJ.out
      have ej2 : lim - 1 = j := by omega
      rw [ej2]
      exact ⟨b, c, R, by rw [e]; rfl, by rw [e]; exact hmc, rr, HX.out.1, HX.out.2, BR⟩
end Go.Proofs.YtoeabfcnfofbiaaDoor
