import Derived.Test.YtnofaodahcfldabDoorFlipMath
import Derived.Deep.QuietTactic
import Derived.BigQuiet
import Derived.Deep.RegionHeld3
namespace Go.Proofs.YtnofaodahcfldabDoor
open Go.RowKit
set_option linter.unusedVariables false
set_option linter.unusedSimpArgs false

set_option maxHeartbeats 4000000 in
theorem flipped_some (w : World) (a : Option Addr) (zs : List Int) (cap : Nat) (hs : Seg w a zs) (hnil : a = none → cap = 0) (hl : zs.length ≤ 140737488351232) (hpos : 0 < zs.length) (gb cb : Nat) (us : List Int) (hu : SegK .u64 18446744073709551615 w (some ⟨gb, 0, none⟩) us) (hu3 : us.length ≤ 3) :
    Calls Tryd.prog 14 #[.slice a zs.length cap, .slice (some ⟨gb, 0, none⟩) us.length cb] w fun e w' => ∃ q c js, e = .returned (.tuple #[.slice q zs.length c, .int .i64 ((js : List Nat).length : Nat)]) ∧ ∃ ys : List Int, ys.length = zs.length ∧ Seg w' q ys ∧ js.Nodup ∧ (∀ j ∈ js, j < 8 * zs.length) ∧ js.length ≤ us.length ∧ sumW ys = sumW zs ^^^ bitsX (8 * zs.length) js ∧ Below w.heap.size w w' := by
  have hzp : (0 : Int) < (zs.length : Int) := by omega
  go_enter Tryd.func14, Tryd.ntmps14
  go_wp2_with (at_builtin; refine wpList_copy rfl (.tmp 10) 26 rfl 5 Tryd.underlying26 info_u8z hs hnil rfl (by omega) hl ?_; intro g cap' w2 hown hc2 hg hb2)
  go_loopw [7, 8] (fun tn ti wr => ∃ (i : Nat) (js : List Nat) (ys : List Int), i ≤ us.length ∧ tn = .int .i64 (js.length : Nat) ∧ ti = .int .i64 i ∧ js.length ≤ i ∧ ys.length = zs.length ∧ (∀ z ∈ ys, 0 ≤ z ∧ z ≤ 255) ∧ (∀ k, bitOf ys k = (bitOf zs k ^^ decide (k ∈ js))) ∧ js.Nodup ∧ (∀ j ∈ js, j < 8 * zs.length) ∧ sumW ys = sumW zs ^^^ bitsX (8 * zs.length) js ∧ wr.ownsRow w.heap.size 5 1 (.slice (some ⟨g, 0, none⟩) zs.length cap') zs.length (ys.map (Value.int .u8)) ∧ Below w.heap.size w wr) (fun _ ti _ => us.length - (intOf ti).toNat)
  case atStart => exact ⟨0, [], zs, by omega, rfl, rfl, by simp, rfl, hs.mem, by simp, by simp, by simp, by simp [bitsX], hown, hb2⟩
  case round =>
    obtain ⟨i, js, ys, hi, rfl, rfl, hji, hyl, hyb, hbits, hnd, hjl, hsum, hown2, hbw⟩ := hrel
    clear hown hb2
    have HY : Hid (ys.length = zs.length) := hyl
    have HB : Hid (∀ k, bitOf ys k = (bitOf zs k ^^ decide (k ∈ js))) := hbits
    have HD : Hid (js.Nodup) := hnd
    have HJ : Hid (∀ j ∈ js, j < 8 * zs.length) := hjl
    have HS : Hid (sumW ys = sumW zs ^^^ bitsX (8 * zs.length) js) := hsum
    have hjn : (js.length : Int) ≤ 3 := by omega
    clear hyl hbits hnd hjl hsum
    have sr : Seg wr a zs := hs.old hbw
    have ur := hu.old hbw
    by_cases hlt : i < us.length
    · have hlti : (i : Int) < (us.length : Int) := by omega
      obtain ⟨b', o', hbo, hcu⟩ := ur.at_ i hlt
      cases hbo
      rw [Nat.zero_add] at hcu
      have hub := ur.bd i
      generalize us.getD i 0 = u at *
      obtain ⟨J, hJ⟩ := Int.eq_ofNat_of_zero_le (Int.emod_nonneg u (show (8 * (zs.length : Int)) ≠ 0 by omega))
      have hJl : J < 8 * zs.length := by
        have := Int.emod_lt_of_pos u (show (0 : Int) < 8 * (zs.length : Int) by omega)
        omega
      have hK : (J : Int) / 8 = ((J / 8 : Nat) : Int) := by omega
      have hT : (J : Int) % 8 = ((J % 8 : Nat) : Int) := by omega
      have hKl : J / 8 < zs.length := by omega
      have hKi : ((J / 8 : Nat) : Int) < (zs.length : Int) := by omega
      have hT8 : J % 8 < 8 := Nat.mod_lt _ (by decide)
      go_wp2
      rw [hJ]
      clear hJ
      have hcy := hown2.cellAt (J / 8) (by omega)
      have hfz := hown2.frozenAt (J / 8)
      have egd : (ys.map (Value.int .u8))[J / 8]? = some (.int .u8 (ys.getD (J / 8) 0)) := by simp [List.getD, HY.out, hKl]
      rw [egd] at hcy
      obtain ⟨bz, oz, rfl, hcz⟩ := sr.at_ (J / 8) hKl
      have hyd := getD_bd (M := 255) (by decide) hyb (J / 8)
      have hzd := sr.bd (J / 8)
      have hcmp : (bits .and .u8 (ys.getD (J / 8) 0 / 2 ^ (J % 8)) 1 == bits .and .u8 (zs.getD (J / 8) 0 / 2 ^ (J % 8)) 1) = decide (J ∉ js) := by
        rw [bit_look _ _ hyd.1 hyd.2, bit_look _ _ hzd.1 hzd.2]
        have hb := HB.out J
        unfold bitOf at hb
        rw [hb]
        by_cases hm : J ∈ js
        · simp only [hm, decide_true, not_true, decide_false]
          cases (zs.getD (J / 8) 0).toNat.testBit (J % 8) <;> decide
        · simp only [hm, decide_false, not_false_eq_true, decide_true]
          cases (zs.getD (J / 8) 0).toNat.testBit (J % 8) <;> decide
      have HL : Hid (ys.set (J / 8) (bits .xor .u8 (ys.getD (J / 8) 0) (2 ^ (J % 8))) = flipL ys J) := rfl
      have HX : Hid (J ∉ js → sumW (flipL ys J) = sumW zs ^^^ bitsX (8 * zs.length) (J :: js)) := by
        intro _
        rw [flip_sum ys J hyb (by rw [HY.out]; exact hJl), HS.out, HY.out, BitVec.xor_assoc]
        congr 1
        exact BitVec.xor_comm _ _
      have HB2 : Hid (J ∉ js → ∀ k, bitOf (flipL ys J) k = (bitOf zs k ^^ decide (k ∈ J :: js))) := by
        intro hm k
        rw [bitOf_flip ys J k hyb (by rw [HY.out]; exact hJl), HB.out k]
        by_cases e : k = J
        · subst e
          simp [hm]
        · by_cases hk : k ∈ js <;> simp [e, hk]
      have e256 : (2 : Int) ^ (J % 8) % 256 = 2 ^ (J % 8) := by
        have := pow8 ⟨J % 8, hT8⟩
        simp only at this
        exact Int.emod_eq_of_lt this.1 (by omega)
      generalize hKK : J / 8 = K at *
      generalize hTT : J % 8 = T at *
      generalize ys.getD K 0 = zy at *
      generalize zs.getD K 0 = zz at *
      clear egd hKK hTT
      by_cases hm : J ∈ js
      · rw [decide_eq_false (by simpa using hm)] at hcmp
        go_quiet (fail)
        go_wp2
        go_roundw
        case rel => exact ⟨i + 1, js, ys, by omega, rfl, by go_num, by omega, HY.out, hyb, HB.out, HD.out, HJ.out, HS.out, hown2, ⟨hbw.os, hbw.tape, hbw.output, hbw.size, hbw.block⟩⟩
        case measure => simp [intOf]; omega
      · rw [decide_eq_true hm] at hcmp
        go_quiet (fail)
        have o4 : (wr.drewN nq).ownsRow w.heap.size 5 1 (.slice (some ⟨g, 0, none⟩) zs.length cap') zs.length (ys.map (Value.int .u8)) := hown2
        have c4 : (wr.drewN nq).cell? ⟨g, K, none⟩ = some (.int .u8 zy) := hcy
        have f4 : (wr.drewN nq).frozen? ⟨g, K, none⟩ = false := hfz
        have b4 : Below w.heap.size w (wr.drewN nq) := ⟨hbw.os, hbw.tape, hbw.output, hbw.size, hbw.block⟩
        clear hown2 hcy hfz hbw hcz sr ur hcu hcmp
        generalize wr.drewN nq = w4 at *
        have hst := o4.stored K (.int .u8 (bits .xor .u8 zy (2 ^ T)))
        rw [← List.map_set] at hst
        obtain ⟨hown3, hgr3⟩ := hst
        clear o4
        go_wp2
        go_roundw
        case rel => exact ⟨i + 1, J :: js, flipL ys J, by omega, by simp, by go_num, by simp; omega, by rw [flipL_len, HY.out], flipL_bd ys J hyb, HB2.out hm, List.nodup_cons.2 ⟨hm, HD.out⟩, by intro j hj; rcases List.mem_cons.1 hj with rfl | hj; exact hJl; exact HJ.out j hj, HX.out hm, by rw [← HL.out]; exact hown3, b4.trans (below_of_grown hgr3 hg b4.size)⟩
        case measure => simp [intOf]; omega
    · have hlt' : decide ((i : Int) < (us.length : Int)) = false := by simp; omega
      obtain ⟨hj1, a3, c3, hv3, q3, hj2, hj3, hj4⟩ := own_seg hown2 (M := 255) (by decide) hyb
      obtain rfl : a3 = some ⟨g, 0, none⟩ := by simp at hv3; exact hv3.1.symm
      clear hj1 hj2 hj3 hj4 hv3
      go_wp2
      go_ret2
      exact ⟨_, _, js, rfl, ys, HY.out, q3, HD.out, HJ.out, by omega, HS.out, hbw⟩
end Go.Proofs.YtnofaodahcfldabDoor
