
import Derived.Test.YtoeabfcnfofbiaaDoorCdP
namespace Go.Proofs.YtoeabfcnfofbiaaDoor
open Go.RowKit
set_option linter.unusedVariables false

theorem spc_nil : spc [] = 0 := cP_nil 16
theorem tot_nil : tot [] = 0 := cS_nil 16
theorem spc_take {zs : List Int} {k : Nat} (h : zs.length ≤ 288) (hk : LOk (zs.take k)) : spc (zs.take k) ≤ 288 * 16384 := by
  have h1 := spc_tot (zs.take k)
  have h2 := tot_le (zs.take k) hk
  have h3 : (zs.take k).length ≤ 288 := by simp; omega
  have h4 : tot (zs.take k) ≤ 288 := by omega
  exact Nat.le_trans h1 (Nat.mul_le_mul_right _ h4)
theorem LOk.take_of {zs : List Int} {k : Nat} (h : ∀ i, i < k → 0 ≤ zs.getD i 0 ∧ zs.getD i 0 ≤ 15) : LOk (zs.take k) := by
  intro z hz
  obtain ⟨i, hi, rfl⟩ := List.mem_iff_getElem.1 hz
  have hi2 : i < k ∧ i < zs.length := by simp at hi; omega
  have := h i hi2.1
  simpa [List.getD, hi2.2] using this

set_option maxRecDepth 100000 in
set_option maxHeartbeats 1000000 in
theorem r5space_any (a : Option Addr) (zs : List Int) (n cap : Nat) (hn : Hid (zs.length = n)) (w : World) (hs : SegZ w a zs) (hl : n ≤ 9223372036854775807) :
    Calls Tryd.prog 96 #[.slice a n cap] w fun e w' => e = .returned (.tuple #[.int .i64 (spcR zs : Int), .int .i64 (errS zs)]) ∧ w' = w := by
  by_cases h288 : 288 < n
  · have h288i : (288 : Int) < (n : Int) := by omega
    have HE : Hid (errS zs = 50 ∧ spcR zs = 0) := by
      have e := errS_many (show 288 < zs.length by have := hn.out; omega)
      exact ⟨e, by unfold spcR; rw [e, if_neg (by decide)]⟩
    go_enter Tryd.func96, Tryd.ntmps96
    go_wp2_with fail
    go_ret2
    exact ⟨by rw [HE.out.1, HE.out.2]; rfl, rfl⟩
  · have h288i : ¬ (288 : Int) < (n : Int) := by omega
    go_enter Tryd.func96, Tryd.ntmps96
    go_wp2_with fail
    go_loopw [4, 12] (fun tsum tj wr => ∃ j : Nat, j ≤ n ∧ tsum = .int .i64 (spc (zs.take j) : Int) ∧ tj = .int .i64 (j : Int) ∧ wr = w ∧ Hid (∀ i, i < j → 0 ≤ zs.getD i 0 ∧ zs.getD i 0 ≤ 15)) (fun _ tj _ => n - (intOf tj).toNat)
    case atStart => exact ⟨0, by omega, by rw [List.take_zero, spc_nil]; rfl, rfl, rfl, fun i h => by omega⟩
    case round =>
      obtain ⟨j, hj, rfl, rfl, hwr, HOK⟩ := hrel
      subst hwr
      by_cases hjn : j < n
      · have hji : (j : Int) < (n : Int) := by omega
        obtain ⟨b, off, rfl, c0⟩ := hs.at_ j (by have := hn.out; omega)
        have HTK : Hid (zs.take (j + 1) = zs.take j ++ [zs.getD j 0]) := take_snocZ (by have := hn.out; omega)
        have hbd := hs.bd j
        have HZ : Hid (∃ z, z = zs.getD j 0) := ⟨_, rfl⟩
        obtain ⟨z, hz⟩ := HZ.out
        have HZJ : Hid (z = zs.getD j 0) := hz
        rw [← hz] at HTK c0 hbd
        clear HZ hz
        have HER : Hid ((z < 0 ∨ 15 < z) → errS zs = 50 ∧ spcR zs = 0) := by
          intro h
          have e := errS_bad (zs := zs) (i := j) (by have := hn.out; omega) (by rw [← HZJ.out]; omega)
          exact ⟨e, by unfold spcR; rw [e, if_neg (by decide)]⟩
        by_cases hz0 : z < 0
        · go_wp2_with fail
          go_ret2
          exact ⟨by rw [(HER.out (.inl hz0)).1, (HER.out (.inl hz0)).2]; rfl, rfl⟩
        · by_cases hz15 : 15 < z
          · go_wp2_with fail
            go_ret2
            exact ⟨by rw [(HER.out (.inr hz15)).1, (HER.out (.inr hz15)).2]; rfl, rfl⟩
          · have HOK2 : Hid (∀ i, i < j + 1 → 0 ≤ zs.getD i 0 ∧ zs.getD i 0 ≤ 15) := fun i hi => by
              by_cases e : i = j
              · subst e; rw [← HZJ.out]; omega
              · exact HOK.out i (by omega)
            have HSN : Hid (spc (zs.take (j + 1)) = spc (zs.take j) + (if z = 0 then 0 else 2 ^ (15 - z.toNat))) := by
              show _ = _
              rw [HTK.out, spc_snoc _ (by omega)]
            have hsb : spc (zs.take (j + 1)) ≤ 10000000 := Nat.le_trans (spc_take (by have := hn.out; omega) (LOk.take_of HOK2.out)) (by decide)
            have HX : Hid (∃ x, x = spc (zs.take (j + 1))) := ⟨_, rfl⟩
            obtain ⟨x, hx⟩ := HX.out
            have HXX : Hid (x = spc (zs.take (j + 1))) := hx
            rw [← hx] at HSN hsb
            clear hx HX
            generalize spc (zs.take j) = s at *
            by_cases hz00 : z = 0
            · subst hz00
              have e : Hid (x = s) := by show _ = _; have := HSN.out; simpa using this
              go_wp2_with fail
              go_roundw
              case rel => exact ⟨j + 1, by omega, by rw [← HXX.out, e.out], by go_num, trivial, HOK2⟩
              case measure => simp [intOf]; omega
            · obtain ⟨q, hq⟩ : ∃ q : Nat, q = 15 - z.toNat := ⟨_, rfl⟩
              have rq : 15 - z = (q : Int) := by omega
              have HSN2 : Hid (x = s + 2 ^ q) := by have := HSN.out; rw [if_neg hz00, ← hq] at this; exact this
              have hp : 2 ^ q ≤ 2 ^ 15 := Nat.pow_le_pow_right (by decide) (by omega)
              obtain ⟨p, hp2⟩ : ∃ p, p = 2 ^ q := ⟨_, rfl⟩
              have HP : Hid (p = 2 ^ q) := hp2
              rw [← hp2] at hp
              have hw : RowKit.wrap64 ((2 : Int) ^ q) = (p : Int) := by
                have e : ((2 : Int) ^ q) = (p : Int) := by rw [HP.out]; exact (Int.natCast_pow 2 q).symm
                rw [e, ← IntWalk.i64_left]
                exact IntWalk.i64_in _ (by omega)
              have hxe : (s : Int) + (p : Int) = (x : Int) := by have := HSN2.out; rw [← HP.out] at this; omega
              have hq15 : q ≤ 15 := by omega
              have hz1 : (0 : Int) < z := by omega
              clear hq hp2
              go_wp2_with fail
              go_roundw
              case rel => exact ⟨j + 1, by omega, by rw [← HXX.out], by go_num, trivial, HOK2⟩
              case measure => simp [intOf]; omega
      · obtain rfl : j = n := by omega
        have HALL : Hid (zs.take j = zs) := by show _ = _; exact List.take_of_length_le (by have := hn.out; omega)
        have HE : Hid (errS zs = 0 ∧ spcR zs = spc zs) := by
          have hL := LOk.take_of HOK.out
          rw [HALL.out] at hL
          have e := errS_ok (show ¬ 288 < zs.length by have := hn.out; omega) hL
          exact ⟨e, by unfold spcR; rw [if_pos e]⟩
        go_wp2_with fail
        go_ret2
        exact ⟨by rw [HE.out.1, HE.out.2, HALL.out]; rfl, rfl⟩

set_option maxRecDepth 100000 in
set_option maxHeartbeats 1000000 in
theorem rcheck_any (a : Option Addr) (zs : List Int) (n cap : Nat) (hn : Hid (zs.length = n)) (w : World) (hs : SegZ w a zs) (hl : n ≤ 9223372036854775807) :
    Calls Tryd.prog 74 #[.slice a n cap] w fun e w' => e = .returned (.int .i64 (errC zs)) ∧ w' = w := by
  have C := r5space_any a zs n cap hn w hs hl
  rcases errS_two zs with he | he
  · have HE : Hid (errS zs = 0) := he
    have HSP : Hid (spcR zs = spc zs) := by show _ = _; unfold spcR; rw [if_pos he]
    have HL := errS_zero he
    have HLK : Hid (LOk zs) := HL.2
    have hn288 : n ≤ 288 := by have := hn.out; have := HL.1; omega
    rw [he, HSP.out] at C
    have HEC : Hid (errC zs = errR zs) := by show _ = _; unfold errC; rw [if_pos he]
    have hsb : spc zs ≤ 10000000 := by
      have h1 := spc_tot zs
      have h2 := tot_le zs HL.2
      have h3 : tot zs * 16384 ≤ 288 * 16384 := Nat.mul_le_mul_right _ (by omega)
      exact Nat.le_trans h1 (Nat.le_trans h3 (by decide))
    have HRR : Hid (errR zs = if 32768 < spc zs then 51 else if spc zs = 32768 ∨ tot zs = 0 ∨ (tot zs = 1 ∧ spc zs = 16384) then 0 else 52) := by
      show _ = _
      unfold errR
      by_cases c : tot zs = 1
      · have e : (cC zs 1 = 1) = (spc zs = 16384) := propext (one_half c).symm
        simp only [e]
      · have e1 : (tot zs = 1 ∧ cC zs 1 = 1) = False := by simp [c]
        have e2 : (tot zs = 1 ∧ spc zs = 16384) = False := by simp [c]
        simp only [e1, e2]
    clear he HL
    go_enter Tryd.func74, Tryd.ntmps74
    go_wp2_with fail
    refine C.mono ?_
    rintro e w1 ⟨rfl, hw1⟩
    subst w1
    generalize spc zs = s at *
    by_cases h1 : 32768 < s
    · have h1i : (32768 : Int) < (s : Int) := by omega
      go_wp2_with fail
      go_ret
      exact ⟨by rw [HEC.out, HRR.out, if_pos h1]; rfl, rfl⟩
    · have h1i : ¬ (32768 : Int) < (s : Int) := by omega
      go_wp2_with fail
      go_loopw [5, 20] (fun tu tj wr => ∃ j : Nat, j ≤ n ∧ tu = .int .i64 (tot (zs.take j) : Int) ∧ tj = .int .i64 (j : Int) ∧ wr = w) (fun _ tj _ => n - (intOf tj).toNat)
      case atStart => exact ⟨0, by omega, by rw [List.take_zero, tot_nil]; rfl, rfl, rfl⟩
      case round =>
        obtain ⟨j, hj, rfl, rfl, hwr⟩ := hrel
        subst hwr
        by_cases hjn : j < n
        · have hji : (j : Int) < (n : Int) := by omega
          obtain ⟨b, off, rfl, c0⟩ := hs.at_ j (by have := hn.out; omega)
          have HTK : Hid (zs.take (j + 1) = zs.take j ++ [zs.getD j 0]) := take_snocZ (by have := hn.out; omega)
          have HZB : Hid (0 ≤ zs.getD j 0 ∧ zs.getD j 0 ≤ 15) := HLK.out.get j
          have HTS : Hid (tot (zs.take (j + 1)) = tot (zs.take j) + (if zs.getD j 0 = 0 then 0 else 1)) := by
            show _ = _
            rw [HTK.out, tot_snoc _ HZB.out]
          have htb : tot (zs.take j) ≤ 288 := by
            have h1 := tot_le (zs.take j) (LOk.take_of (fun i _ => HLK.out.get i))
            simp at h1
            omega
          have HX : Hid (∃ x, x = tot (zs.take (j + 1))) := ⟨_, rfl⟩
          obtain ⟨x, hx⟩ := HX.out
          have HXX : Hid (x = tot (zs.take (j + 1))) := hx
          rw [← hx] at HTS
          clear hx HX
          generalize tot (zs.take j) = u at *
          generalize zs.getD j 0 = z at *
          by_cases hz0 : z = 0
          · subst hz0
            have e : Hid (x = u) := by show _ = _; have := HTS.out; simpa using this
            go_wp2_with fail
            go_roundw
            case rel => exact ⟨j + 1, by omega, by rw [← HXX.out, e.out], by go_num, trivial⟩
            case measure => simp [intOf]; omega
          · have hz1 : (0 : Int) < z := by have := HZB.out; omega
            have e : Hid (x = u + 1) := by show _ = _; have := HTS.out; rw [if_neg hz0] at this; exact this
            go_wp2_with fail
            go_roundw
            case rel => exact ⟨j + 1, by omega, by rw [← HXX.out, e.out]; go_num, by go_num, trivial⟩
            case measure => simp [intOf]; omega
        · obtain rfl : j = n := by omega
          have HALL : Hid (zs.take j = zs) := by show _ = _; exact List.take_of_length_le (by have := hn.out; omega)
          rw [HALL.out]
          have htb : tot zs ≤ 288 := Nat.le_trans (tot_le zs HLK.out) (by have := hn.out; omega)
          generalize tot zs = u at *
          by_cases c1 : s = 32768
          · subst c1
            have hf : Hid (errC zs = 0) := by show _ = _; rw [HEC.out, HRR.out, if_neg h1, if_pos (.inl rfl)]
            clear HRR
            go_wp2_with fail
            go_ret
            exact ⟨by rw [hf.out]; rfl, rfl⟩
          · have c1i : ¬ (s : Int) = 32768 := by omega
            by_cases c2 : u = 0
            · subst c2
              have hf : Hid (errC zs = 0) := by show _ = _; rw [HEC.out, HRR.out, if_neg h1, if_pos (.inr (.inl rfl))]
              clear HRR
              go_wp2_with fail
              go_ret
              exact ⟨by rw [hf.out]; rfl, rfl⟩
            · have c2i : ¬ (u : Int) = 0 := by omega
              by_cases c3 : u = 1
              · subst c3
                by_cases c4 : s = 16384
                · subst c4
                  have hf : Hid (errC zs = 0) := by show _ = _; rw [HEC.out, HRR.out, if_neg h1, if_pos (.inr (.inr ⟨rfl, rfl⟩))]
                  clear HRR
                  go_wp2_with fail
                  go_ret
                  exact ⟨by rw [hf.out]; rfl, rfl⟩
                · have c4i : ¬ (s : Int) = 16384 := by omega
                  have hf : Hid (errC zs = 52) := by show _ = _; rw [HEC.out, HRR.out, if_neg h1, if_neg (by omega)]
                  have c4b : ((s : Int) == 16384) = false := by simp; omega
                  have c1b : ((s : Int) == 32768) = false := by simp; omega
                  clear HRR
                  go_wp2_with fail
                  go_ret
                  exact ⟨by rw [hf.out]; rfl, rfl⟩
              · have c3i : ¬ (u : Int) = 1 := by omega
                have hf : Hid (errC zs = 52) := by show _ = _; rw [HEC.out, HRR.out, if_neg h1, if_neg (by omega)]
                have c3b : ((u : Int) == 1) = false := by simp; omega
                have c2b : ((u : Int) == 0) = false := by simp; omega
                have c1b : ((s : Int) == 32768) = false := by simp; omega
                clear HRR
                go_wp2_with fail
                go_ret
                exact ⟨by rw [hf.out]; rfl, rfl⟩
  · have HE : Hid (errS zs = 50 ∧ errC zs = 50) := ⟨he, by unfold errC; rw [he, if_neg (by decide)]⟩
    rw [he] at C
    clear he
    go_enter Tryd.func74, Tryd.ntmps74
    go_wp2_with fail
    refine C.mono ?_
    rintro e w1 ⟨rfl, hw1⟩
    subst w1
    go_wp2_with fail
    go_ret
    exact ⟨by rw [HE.out.2]; rfl, rfl⟩
end Go.Proofs.YtoeabfcnfofbiaaDoor
