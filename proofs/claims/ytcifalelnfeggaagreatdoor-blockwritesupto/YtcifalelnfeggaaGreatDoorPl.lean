import Derived.Test.YtcifalelnfeggaaGreatDoorPk
import Derived.Test.YtcifalelnfeggaaGreatDoorPh
import Derived.Test.YtcifalelnfeggaaGreatDoorPc
import Derived.Test.YtcifalelnfeggaaGreatDoorProg
import Derived.Test.YtcifalelnfeggaaGreatDoorPa
import Derived.WalkKit
import Derived.WalkSpells
import Derived.Laws.BytesArg
namespace Go.Proofs.YtcifalelnfeggaaGreatDoor
open Go.RowKit
set_option linter.unusedVariables false

def lent5 (zs : List Int) : List Int := zs ++ [71, 72, 73]
theorem lent5_bd {zs : List Int} (h : ∀ z ∈ zs, -9223372036854775808 ≤ z ∧ z ≤ 9223372036854775807) : ∀ z ∈ lent5 zs, -9223372036854775808 ≤ z ∧ z ≤ 9223372036854775807 := by
  intro z hz
  unfold lent5 at hz
  rw [List.mem_append] at hz
  rcases hz with hz | hz
  · exact h z hz
  · simp at hz; omega
theorem seg_three (w : World) : SegZ (w.alloc (.cells #[.int .i64 71, .int .i64 72, .int .i64 73] 3)) (some ⟨w.heap.size, 0, none⟩) [71, 72, 73] := by
  refine ⟨fun i hi => ⟨w.heap.size, 0, rfl, ?_⟩, getD_bdz (by intro z hz; simp at hz; omega)⟩
  simp only [List.length_cons, List.length_nil] at hi
  match i, hi with
  | 0, _ => simp
  | 1, _ => simp
  | 2, _ => simp
def LenQ5 (w : World) (zs : List Int) (e : Ending) (w' : World) : Prop := ∃ g c, e = .returned (.tuple #[.slice (some ⟨g, 0, none⟩) (lent5 zs).length c, .slice (some ⟨g, 0, none⟩) zs.length c]) ∧ w'.ownsRow w.heap.size 3 1 (.slice (some ⟨g, 0, none⟩) (lent5 zs).length c) (lent5 zs).length ((lent5 zs).map (Value.int .i64)) ∧ (lent5 zs).length ≤ c ∧ Below w.heap.size w w'
end Go.Proofs.YtcifalelnfeggaaGreatDoor

namespace Go.Proofs.YtcifalelnfeggaaGreatDoor
open Go.RowKit
set_option linter.unusedVariables false

theorem spc_nil : spc [] = 0 := cP_nil 16
theorem tot_nil : tot [] = 0 := cS_nil 16
theorem spc_take {zs : List Int} {k : Nat} (h : zs.length ≤ 288) (hk : LOk (zs.take k)) : spc (zs.take k) ≤ 288 * 16384 := by
  have h1 := spc_tot (zs.take k)
  have h2 := tot_le (zs.take k) hk
  have h3 : (zs.take k).length ≤ 288 := by simp; omega
  have h4 : tot (zs.take k) ≤ 288 := by omega
  exact Nat.le_trans h1 (Nat.mul_le_mul_right _ h4)
theorem LOk.take_of {zs : List Int} {k : Nat} (h : ∀ i, i < k → 0 ≤ zs.getD i 0 ∧ zs.getD i 0 ≤ 15) : LOk (zs.take k) := by
  intro z hz
  obtain ⟨i, hi, rfl⟩ := List.mem_iff_getElem.1 hz
  have hi2 : i < k ∧ i < zs.length := by simp at hi; omega
  have := h i hi2.1
  simpa [List.getD, hi2.2] using this

set_option maxRecDepth 100000 in
set_option maxHeartbeats 1000000 in
theorem r5space_any (a : Option Addr) (zs : List Int) (n cap : Nat) (hn : Hid (zs.length = n)) (w : World) (hs : SegZ w a zs) (hl : n ≤ 9223372036854775807) :
    Calls Tryz.prog 90 #[.slice a n cap] w fun e w' => e = .returned (.tuple #[.int .i64 (spcR zs : Int), .int .i64 (errS zs)]) ∧ w' = w := by
  by_cases h288 : 288 < n
  · have h288i : (288 : Int) < (n : Int) := by omega
    have HE : Hid (errS zs = 50 ∧ spcR zs = 0) := by
      have e := errS_many (show 288 < zs.length by have := hn.out; omega)
      exact ⟨e, by unfold spcR; rw [e, if_neg (by decide)]⟩
    go_enter Tryz.func90, Tryz.ntmps90
    go_wp2_with fail
    go_ret2
    exact ⟨by rw [HE.out.1, HE.out.2]; rfl, rfl⟩
  · have h288i : ¬ (288 : Int) < (n : Int) := by omega
    go_enter Tryz.func90, Tryz.ntmps90
    go_wp2_with fail
    go_loopw [4, 12] (fun tsum tj wr => ∃ j : Nat, j ≤ n ∧ tsum = .int .i64 (spc (zs.take j) : Int) ∧ tj = .int .i64 (j : Int) ∧ wr = w ∧ Hid (∀ i, i < j → 0 ≤ zs.getD i 0 ∧ zs.getD i 0 ≤ 15)) (fun _ tj _ => n - (intOf tj).toNat)
    case atStart => exact ⟨0, by omega, by rw [List.take_zero, spc_nil]; rfl, rfl, rfl, fun i h => by omega⟩
    case round =>
      obtain ⟨j, hj, rfl, rfl, hwr, HOK⟩ := hrel
      subst hwr
      by_cases hjn : j < n
      · have hji : (j : Int) < (n : Int) := by omega
        obtain ⟨b, off, rfl, c0⟩ := hs.at_ j (by have := hn.out; omega)
        have HTK : Hid (zs.take (j + 1) = zs.take j ++ [zs.getD j 0]) := take_snocZ (by have := hn.out; omega)
        have hbd := hs.bd j
        have HZ : Hid (∃ z, z = zs.getD j 0) := ⟨_, rfl⟩
        obtain ⟨z, hz⟩ := HZ.out
        have HZJ : Hid (z = zs.getD j 0) := hz
        rw [← hz] at HTK c0 hbd
        clear HZ hz
        have HER : Hid ((z < 0 ∨ 15 < z) → errS zs = 50 ∧ spcR zs = 0) := by
          intro h
          have e := errS_bad (zs := zs) (i := j) (by have := hn.out; omega) (by rw [← HZJ.out]; omega)
          exact ⟨e, by unfold spcR; rw [e, if_neg (by decide)]⟩
        by_cases hz0 : z < 0
        · go_wp2_with fail
          go_ret2
          exact ⟨by rw [(HER.out (.inl hz0)).1, (HER.out (.inl hz0)).2]; rfl, rfl⟩
        · by_cases hz15 : 15 < z
          · go_wp2_with fail
            go_ret2
            exact ⟨by rw [(HER.out (.inr hz15)).1, (HER.out (.inr hz15)).2]; rfl, rfl⟩
          · have HOK2 : Hid (∀ i, i < j + 1 → 0 ≤ zs.getD i 0 ∧ zs.getD i 0 ≤ 15) := fun i hi => by
              by_cases e : i = j
              · subst e; rw [← HZJ.out]; omega
              · exact HOK.out i (by omega)
            have HSN : Hid (spc (zs.take (j + 1)) = spc (zs.take j) + (if z = 0 then 0 else 2 ^ (15 - z.toNat))) := by
              show _ = _
              rw [HTK.out, spc_snoc _ (by omega)]
            have hsb : spc (zs.take (j + 1)) ≤ 10000000 := Nat.le_trans (spc_take (by have := hn.out; omega) (LOk.take_of HOK2.out)) (by decide)
            have HX : Hid (∃ x, x = spc (zs.take (j + 1))) := ⟨_, rfl⟩
            obtain ⟨x, hx⟩ := HX.out
            have HXX : Hid (x = spc (zs.take (j + 1))) := hx
            rw [← hx] at HSN hsb
            clear hx HX
            generalize spc (zs.take j) = s at *
            by_cases hz00 : z = 0
            · subst hz00
              have e : Hid (x = s) := by show _ = _; have := HSN.out; simpa using this
              go_wp2_with fail
              go_roundw
              case rel => exact ⟨j + 1, by omega, by rw [← HXX.out, e.out], by go_num, trivial, HOK2⟩
              case measure => simp [intOf]; omega
            · obtain ⟨q, hq⟩ : ∃ q : Nat, q = 15 - z.toNat := ⟨_, rfl⟩
              have rq : 15 - z = (q : Int) := by omega
              have HSN2 : Hid (x = s + 2 ^ q) := by have := HSN.out; rw [if_neg hz00, ← hq] at this; exact this
              have hp : 2 ^ q ≤ 2 ^ 15 := Nat.pow_le_pow_right (by decide) (by omega)
              obtain ⟨p, hp2⟩ : ∃ p, p = 2 ^ q := ⟨_, rfl⟩
              have HP : Hid (p = 2 ^ q) := hp2
              rw [← hp2] at hp
              have hw : RowKit.wrap64 ((2 : Int) ^ q) = (p : Int) := by
                have e : ((2 : Int) ^ q) = (p : Int) := by rw [HP.out]; exact (Int.natCast_pow 2 q).symm
                rw [e, ← IntWalk.i64_left]
                exact IntWalk.i64_in _ (by omega)
              have hxe : (s : Int) + (p : Int) = (x : Int) := by have := HSN2.out; rw [← HP.out] at this; omega
              have hq15 : q ≤ 15 := by omega
              have hz1 : (0 : Int) < z := by omega
              clear hq hp2
              go_wp2_with fail
              go_roundw
              case rel => exact ⟨j + 1, by omega, by rw [← HXX.out], by go_num, trivial, HOK2⟩
              case measure => simp [intOf]; omega
      · obtain rfl : j = n := by omega
        have HALL : Hid (zs.take j = zs) := by show _ = _; exact List.take_of_length_le (by have := hn.out; omega)
        have HE : Hid (errS zs = 0 ∧ spcR zs = spc zs) := by
          have hL := LOk.take_of HOK.out
          rw [HALL.out] at hL
          have e := errS_ok (show ¬ 288 < zs.length by have := hn.out; omega) hL
          exact ⟨e, by unfold spcR; rw [if_pos e]⟩
        go_wp2_with fail
        go_ret2
        exact ⟨by rw [HE.out.1, HE.out.2, HALL.out]; rfl, rfl⟩

set_option maxRecDepth 100000 in
set_option maxHeartbeats 1000000 in
theorem rcheck_any (a : Option Addr) (zs : List Int) (n cap : Nat) (hn : Hid (zs.length = n)) (w : World) (hs : SegZ w a zs) (hl : n ≤ 9223372036854775807) :
    Calls Tryz.prog 63 #[.slice a n cap] w fun e w' => e = .returned (.int .i64 (errC zs)) ∧ w' = w := by
  have C := r5space_any a zs n cap hn w hs hl
  rcases errS_two zs with he | he
  · have HE : Hid (errS zs = 0) := he
    have HSP : Hid (spcR zs = spc zs) := by show _ = _; unfold spcR; rw [if_pos he]
    have HL := errS_zero he
    have HLK : Hid (LOk zs) := HL.2
    have hn288 : n ≤ 288 := by have := hn.out; have := HL.1; omega
    rw [he, HSP.out] at C
    have HEC : Hid (errC zs = errR zs) := by show _ = _; unfold errC; rw [if_pos he]
    have hsb : spc zs ≤ 10000000 := by
      have h1 := spc_tot zs
      have h2 := tot_le zs HL.2
      have h3 : tot zs * 16384 ≤ 288 * 16384 := Nat.mul_le_mul_right _ (by omega)
      exact Nat.le_trans h1 (Nat.le_trans h3 (by decide))
    have HRR : Hid (errR zs = if 32768 < spc zs then 51 else if spc zs = 32768 ∨ tot zs = 0 ∨ (tot zs = 1 ∧ spc zs = 16384) then 0 else 52) := by
      show _ = _
      unfold errR
      by_cases c : tot zs = 1
      · have e : (cC zs 1 = 1) = (spc zs = 16384) := propext (one_half c).symm
        simp only [e]
      · have e1 : (tot zs = 1 ∧ cC zs 1 = 1) = False := by simp [c]
        have e2 : (tot zs = 1 ∧ spc zs = 16384) = False := by simp [c]
        simp only [e1, e2]
    clear he HL
    go_enter Tryz.func63, Tryz.ntmps63
    go_wp2_with fail
    refine C.mono ?_
    rintro e w1 ⟨rfl, hw1⟩
    subst w1
    generalize spc zs = s at *
    by_cases h1 : 32768 < s
    · have h1i : (32768 : Int) < (s : Int) := by omega
      go_wp2_with fail
      go_ret
      exact ⟨by rw [HEC.out, HRR.out, if_pos h1]; rfl, rfl⟩
    · have h1i : ¬ (32768 : Int) < (s : Int) := by omega
      go_wp2_with fail
      go_loopw [5, 20] (fun tu tj wr => ∃ j : Nat, j ≤ n ∧ tu = .int .i64 (tot (zs.take j) : Int) ∧ tj = .int .i64 (j : Int) ∧ wr = w) (fun _ tj _ => n - (intOf tj).toNat)
      case atStart => exact ⟨0, by omega, by rw [List.take_zero, tot_nil]; rfl, rfl, rfl⟩
      case round =>
        obtain ⟨j, hj, rfl, rfl, hwr⟩ := hrel
        subst hwr
        by_cases hjn : j < n
        · have hji : (j : Int) < (n : Int) := by omega
          obtain ⟨b, off, rfl, c0⟩ := hs.at_ j (by have := hn.out; omega)
          have HTK : Hid (zs.take (j + 1) = zs.take j ++ [zs.getD j 0]) := take_snocZ (by have := hn.out; omega)
          have HZB : Hid (0 ≤ zs.getD j 0 ∧ zs.getD j 0 ≤ 15) := HLK.out.get j
          have HTS : Hid (tot (zs.take (j + 1)) = tot (zs.take j) + (if zs.getD j 0 = 0 then 0 else 1)) := by
            show _ = _
            rw [HTK.out, tot_snoc _ HZB.out]
          have htb : tot (zs.take j) ≤ 288 := by
            have h1 := tot_le (zs.take j) (LOk.take_of (fun i _ => HLK.out.get i))
            simp at h1
            omega
          have HX : Hid (∃ x, x = tot (zs.take (j + 1))) := ⟨_, rfl⟩
          obtain ⟨x, hx⟩ := HX.out
          have HXX : Hid (x = tot (zs.take (j + 1))) := hx
          rw [← hx] at HTS
          clear hx HX
          generalize tot (zs.take j) = u at *
          generalize zs.getD j 0 = z at *
          by_cases hz0 : z = 0
          · subst hz0
            have e : Hid (x = u) := by show _ = _; have := HTS.out; simpa using this
            go_wp2_with fail
            go_roundw
            case rel => exact ⟨j + 1, by omega, by rw [← HXX.out, e.out], by go_num, trivial⟩
            case measure => simp [intOf]; omega
          · have hz1 : (0 : Int) < z := by have := HZB.out; omega
            have e : Hid (x = u + 1) := by show _ = _; have := HTS.out; rw [if_neg hz0] at this; exact this
            go_wp2_with fail
            go_roundw
            case rel => exact ⟨j + 1, by omega, by rw [← HXX.out, e.out]; go_num, by go_num, trivial⟩
            case measure => simp [intOf]; omega
        · obtain rfl : j = n := by omega
          have HALL : Hid (zs.take j = zs) := by show _ = _; exact List.take_of_length_le (by have := hn.out; omega)
          rw [HALL.out]
          have htb : tot zs ≤ 288 := Nat.le_trans (tot_le zs HLK.out) (by have := hn.out; omega)
          generalize tot zs = u at *
          by_cases c1 : s = 32768
          · subst c1
            have hf : Hid (errC zs = 0) := by show _ = _; rw [HEC.out, HRR.out, if_neg h1, if_pos (.inl rfl)]
            clear HRR
            go_wp2_with fail
            go_ret
            exact ⟨by rw [hf.out]; rfl, rfl⟩
          · have c1i : ¬ (s : Int) = 32768 := by omega
            by_cases c2 : u = 0
            · subst c2
              have hf : Hid (errC zs = 0) := by show _ = _; rw [HEC.out, HRR.out, if_neg h1, if_pos (.inr (.inl rfl))]
              clear HRR
              go_wp2_with fail
              go_ret
              exact ⟨by rw [hf.out]; rfl, rfl⟩
            · have c2i : ¬ (u : Int) = 0 := by omega
              by_cases c3 : u = 1
              · subst c3
                by_cases c4 : s = 16384
                · subst c4
                  have hf : Hid (errC zs = 0) := by show _ = _; rw [HEC.out, HRR.out, if_neg h1, if_pos (.inr (.inr ⟨rfl, rfl⟩))]
                  clear HRR
                  go_wp2_with fail
                  go_ret
                  exact ⟨by rw [hf.out]; rfl, rfl⟩
                · have c4i : ¬ (s : Int) = 16384 := by omega
                  have hf : Hid (errC zs = 52) := by show _ = _; rw [HEC.out, HRR.out, if_neg h1, if_neg (by omega)]
                  have c4b : ((s : Int) == 16384) = false := by simp; omega
                  have c1b : ((s : Int) == 32768) = false := by simp; omega
                  clear HRR
                  go_wp2_with fail
                  go_ret
                  exact ⟨by rw [hf.out]; rfl, rfl⟩
              · have c3i : ¬ (u : Int) = 1 := by omega
                have hf : Hid (errC zs = 52) := by show _ = _; rw [HEC.out, HRR.out, if_neg h1, if_neg (by omega)]
                have c3b : ((u : Int) == 1) = false := by simp; omega
                have c2b : ((u : Int) == 0) = false := by simp; omega
                have c1b : ((s : Int) == 32768) = false := by simp; omega
                clear HRR
                go_wp2_with fail
                go_ret
                exact ⟨by rw [hf.out]; rfl, rfl⟩
  · have HE : Hid (errS zs = 50 ∧ errC zs = 50) := ⟨he, by unfold errC; rw [he, if_neg (by decide)]⟩
    rw [he] at C
    clear he
    go_enter Tryz.func63, Tryz.ntmps63
    go_wp2_with fail
    refine C.mono ?_
    rintro e w1 ⟨rfl, hw1⟩
    subst w1
    go_wp2_with fail
    go_ret
    exact ⟨by rw [HE.out.2]; rfl, rfl⟩
end Go.Proofs.YtcifalelnfeggaaGreatDoor

namespace Go.Proofs.YtcifalelnfeggaaGreatDoor
set_option linter.unusedVariables false

/-! The lengths that lens makes are the lengths of a code. -/
theorem spc_us {Z : List Int} (hok : LOk Z) : ∀ k, k ≤ Z.length → spc (Z.take k) = ((usI Z k).map fun i => 2 ^ (15 - (Z.getD i 0).toNat)).sum ∧ tot (Z.take k) = (usI Z k).length
  | 0, _ => by
    rw [List.take_zero, spc_nil, tot_nil]
    simp [usI]
  | k + 1, hk => by
    obtain ⟨i1, i2⟩ := spc_us hok k (by omega)
    have hb := hok.get k
    rw [take_snocZ (by omega), spc_snoc _ hb, tot_snoc _ hb, i1, i2, usI_snoc]
    by_cases h : Z.getD k 0 = 0
    · rw [if_pos h, if_pos h, if_pos h, List.append_nil]
      exact ⟨rfl, rfl⟩
    · rw [if_neg h, if_neg h, if_neg h, List.map_append, List.sum_append, List.length_append]
      refine ⟨?_, rfl⟩
      simp only [List.map_cons, List.map_nil, List.sum_cons, List.sum_nil, Nat.add_zero]
theorem us_same {Y Z : List Int} : ∀ k, (∀ i, i < k → (Y.getD i 0 = 0 ↔ Z.getD i 0 = 0)) → usI Y k = usI Z k
  | 0, _ => rfl
  | k + 1, h => by
    rw [usI_snoc, usI_snoc, us_same k fun i hi => h i (by omega)]
    have := h k (by omega)
    by_cases c : Y.getD k 0 = 0
    · rw [if_pos c, if_pos (this.1 c)]
    · rw [if_neg c, if_neg (fun e => c (this.2 e))]
/-- The lengths are a code's. -/
theorem lens_code {zs : List Int} (he : errOf zs = 0) {lim : Nat} (h1 : 1 ≤ lim) (h15 : lim ≤ 15) (hl : nUse zs ≤ 2 ^ lim) : errC (lensL lim zs) = 0 ∧ (∀ i, i < zs.length → (lensL lim zs).getD i 0 ≤ lim) ∧ ∀ i, i < zs.length → (zs.getD i 0 ≠ 0 → (lensL lim zs).getD i 0 ≠ 0) := by
  have hlen := lens_len (zs := zs) lim
  have hz : ∀ i, i < zs.length → ((lensL lim zs).getD i 0 = 0 ↔ zs.getD i 0 = 0) ∧ 0 ≤ (lensL lim zs).getD i 0 ∧ (lensL lim zs).getD i 0 ≤ lim := by
    intro i hi
    by_cases c : zs.getD i 0 = 0
    · have := lens_none he (lim := lim) c
      refine ⟨⟨fun _ => c, fun _ => this⟩, by omega, by omega⟩
    · have := lens_bd he h1 hl (usI_mem.2 ⟨hi, c⟩)
      refine ⟨⟨fun e => by omega, fun e => absurd e c⟩, by omega, by omega⟩
  have hok : LOk (lensL lim zs) := by
    intro z hzm
    obtain ⟨i, hi, rfl⟩ := List.mem_iff_getElem.1 hzm
    have := (hz i (by omega)).2
    simp only [List.getD, List.getElem?_eq_getElem hi, Option.getD_some] at this
    omega
  have hus : usI (lensL lim zs) zs.length = usI zs zs.length := us_same _ fun i hi => (hz i hi).1
  obtain ⟨s1, s2⟩ := spc_us hok zs.length (by omega)
  rw [List.take_of_length_le (by omega), hus] at s1 s2
  refine ⟨?_, fun i hi => (hz i hi).2.2, fun i hi h e => h ((hz i hi).1.1 e)⟩
  have hS : errS (lensL lim zs) = 0 := by
    unfold errS
    rw [if_neg (by rw [hlen]; have := (errOf_zero he).1; omega), if_pos (okL_iff.2 hok)]
  unfold errC
  rw [if_pos hS]
  have hn := nUse_us zs
  unfold errR
  by_cases n0 : nUse zs = 0
  · have ht : tot (lensL lim zs) = 0 := by rw [s2, ← hn]; exact n0
    have := spc_tot (lensL lim zs)
    rw [if_neg (by omega), if_pos (.inr (.inl ht))]
  · by_cases n1 : nUse zs = 1
    · obtain ⟨s, e1, e2, _⟩ := lens_one he (lim := lim) n1
      have ht : tot (lensL lim zs) = 1 := by rw [s2, ← hn]; exact n1
      have hsp : spc (lensL lim zs) = 16384 := by
        rw [s1, e1]
        simp only [List.map_cons, List.map_nil, List.sum_cons, List.sum_nil, Nat.add_zero, e2]
        rfl
      rw [if_neg (by omega), if_pos (.inr (.inr ⟨ht, (one_half ht).1 hsp⟩))]
    · have hk := lens_kraft he h1 h15 hl (by omega)
      rw [← s1] at hk
      rw [if_neg (by omega), if_pos (.inl hk)]
end Go.Proofs.YtcifalelnfeggaaGreatDoor

namespace Go.Proofs.YtcifalelnfeggaaGreatDoor
open Go.RowKit
set_option linter.unusedVariables false

/-! As LnLen2's contract of Lengths, but with the row of the answer as the call's own. -/
set_option maxRecDepth 100000 in
set_option maxHeartbeats 2000000 in
theorem lengths_okO (lim : Nat) (a : Option Addr) (zs : List Int) (n cap : Nat) (hn : Hid (zs.length = n)) (w : World) (hs : SegZ w a zs) (h1 : 1 ≤ lim) (h15 : lim ≤ 15) (he : errOf zs = 0) :
    Calls Tryz.prog 68 #[.int .i64 lim, .slice a n cap] w fun e w' => ∃ b c, e = .returned (.tuple #[.slice b (lensR lim zs).length c, .int .i64 (errL lim zs)]) ∧ w'.ownsRow w.heap.size 3 1 (.slice b (lensR lim zs).length c) (lensR lim zs).length ((lensR lim zs).map (Value.int .i64)) ∧ Below w.heap.size w w' := by
  obtain ⟨h288, hbx⟩ := errOf_zero he
  have hn288 : n ≤ 288 := by have := hn.out; omega
  have HC : Hid (∀ W, SegZ W a zs → Calls Tryz.prog 92 #[.slice a n cap] W fun e w' => e = .returned (.int .i64 0) ∧ w' = W) := fun W hW => by
    have := refusal_any a zs cap W hW (by have := hn.out; omega)
    rw [he, hn.out] at this
    exact this
  have HE : Hid (errOf zs = 0) := he
  clear he h288
  have l1 : ¬ (lim : Int) < 1 := by omega
  have l2 : ¬ (15 : Int) < (lim : Int) := by omega
  go_enter Tryz.func68, Tryz.ntmps68
  go_wp2_with fail
  refine (HC.out _ hs).mono ?_
  rintro e w' ⟨rfl, hw'⟩
  subst w'
  go_wp2_with fail
  refine (leaves_any a zs n cap hn _ hs hn288).mono ?_
  rintro e w1 ⟨b, m, c, Y, rfl, LF, B1⟩
  obtain ⟨P, hP⟩ : ∃ P : Nat, P = 2 ^ lim := ⟨_, rfl⟩
  have hPb : P ≤ 32768 := by rw [hP]; exact Nat.le_trans (Nat.pow_le_pow_right (by decide) h15) (by decide)
  have hPw : RowKit.wrap64 ((2 : Int) ^ lim) = (P : Int) := by
    have e : ((2 : Int) ^ lim) = (P : Int) := by rw [hP]; exact (Int.natCast_pow 2 lim).symm
    rw [e, ← IntWalk.i64_left]
    exact IntWalk.i64_in _ (by omega)
  have HSRT : Hid ((lst Y 0 m).map toP = LFz zs) := sorted_LF (fun i => (hbx i).1) LF.pm LF.ord
  have HNU : Hid (nUse zs = m) := by show _ = _; unfold nUse; rw [← HSRT.out]; simp [lst]
  have HM288 : Hid (m ≤ 288) := by
    have h3 := LF.len
    have h4 := leafL_len zs zs.length
    have := hn.out
    show _ ≤ _
    omega
  have HPP : Hid (P = 2 ^ lim) := hP
  have hm288 : m ≤ 288 := HM288.out
  clear hP
  by_cases hmP : P < m
  · have hmPi : (P : Int) < (m : Int) := by omega
    have HER : Hid (errL lim zs = 41 ∧ lensR lim zs = []) := by
      have e1 : errL lim zs = 41 := by
        unfold errL
        rw [if_neg (by omega), if_pos HE.out, if_pos (by rw [HNU.out, Int.toNat_natCast, ← HPP.out]; exact hmP)]
      exact ⟨e1, by unfold lensR; rw [e1]; rfl⟩
    go_wp2
    go_ret2
    exact ⟨none, 0, by rw [HER.out.1, HER.out.2]; rfl, by rw [HER.out.2]; exact World.ownsRow_nil _ _ _ _, B1⟩
  · have hmPi : ¬ (P : Int) < (m : Int) := by omega
    have HER : Hid (errL lim zs = 0 ∧ lensR lim zs = lensL lim zs) := by
      have e1 : errL lim zs = 0 := by
        unfold errL
        rw [if_neg (by omega), if_pos HE.out, if_neg (by rw [HNU.out, Int.toNat_natCast, ← HPP.out]; exact hmP)]
      exact ⟨e1, by unfold lensR; rw [if_pos e1, Int.toNat_natCast]⟩
    have hmk := run_make_ints n (by omega) w1
    have O2 := own_zeros w1 n (by omega)
    have B2 : Below w1.heap.size w1 (w1.alloc (.cells (Array.replicate n (.int .i64 0)) 3)) := (Below.refl _ _).alloc (Nat.le_refl _) _
    have hsz2 : w1.heap.size < (w1.alloc (.cells (Array.replicate n (.int .i64 0)) 3)).heap.size := by simp
    obtain ⟨o, ho⟩ : ∃ o, o = w1.heap.size := ⟨_, rfl⟩
    have HO : Hid (o = w1.heap.size) := ho
    generalize w1.alloc (.cells (Array.replicate n (.int .i64 0)) 3) = w2 at *
    rw [← ho] at O2 hmk hsz2
    have B12 : Below w.heap.size w w2 := B1.trans (B2.mono B1.size)
    have hzb : ∀ z ∈ List.replicate n (0 : Int), -9223372036854775808 ≤ z ∧ z ≤ 9223372036854775807 := fun z hz => by obtain ⟨_, rfl⟩ := List.mem_replicate.1 hz; omega
    clear ho
    by_cases hm0 : m = 0
    · subst hm0
      have HLL : Hid (lensL lim zs = List.replicate n 0) := by show _ = _; unfold lensL; rw [if_pos HNU.out, hn.out]
      go_wp2
      go_ret2
      refine ⟨some ⟨o, 0, none⟩, n, ?_, ?_, B12⟩
      · rw [HER.out.1, HER.out.2, HLL.out, List.length_replicate]; rfl
      · rw [HER.out.2, HLL.out, List.length_replicate]
        exact own_base O2 (by have := HO.out; have := B1.size; omega)
    · obtain ⟨g, rfl, S1, hgB, hgs, hmc⟩ := LF.row (by omega)
      have S2 := S1.old hgs B2
      have hgo : g ≠ o := by have := HO.out; omega
      by_cases hm1 : m = 1
      · subst hm1
        have it0' := S2.it (k := 0) (by omega)
        have hy : Y 0 ∈ leafL zs zs.length := LF.pm.mem_iff.1 (mem_lst.2 ⟨0, Nat.le_refl _, by omega, rfl⟩)
        obtain ⟨g1, g2, g3, g4, g5, g6⟩ := leaf_good (fun i => (hbx i).1) _ hy
        obtain ⟨s, hsy⟩ : ∃ s : Nat, (Y 0).sy = (s : Int) := ⟨(Y 0).sy.toNat, by omega⟩
        have HLL : Hid (lensL lim zs = (List.replicate n 0).set s 1) := by
          show _ = _
          unfold lensL
          rw [if_neg (by rw [HNU.out]; decide), if_pos HNU.out, ← HSRT.out, hn.out]
          have : lst Y 0 1 = [Y 0] := rfl
          rw [this]
          simp [toP, hsy]
        have hsn : s < n := by have := hn.out; omega
        obtain ⟨c0, c1, c2, c3⟩ := it0'
        rw [hsy] at c1
        simp only [Nat.zero_mul, Nat.zero_add] at c0 c1 c2 c3
        obtain ⟨a0, fz⟩ := own_cell1 O2 (i := s) (by simp; omega)
        have f0 := fz s
        have HST := O2.stored s (.int .i64 1)
        rw [← List.map_set] at HST
        have HSS : Hid _ := HST
        clear HST
        have zi : (s : Int) < (n : Int) := by omega
        have hl9 : ((List.replicate n (0 : Int)).set s 1).length = n := by simp
        clear hsy g1 g2 g3 g4 g5 g6 hy
        generalize (List.replicate n (0 : Int)).getD s 0 = zz at *
        go_wp2
        go_ret2
        obtain ⟨o3, g3⟩ := HSS.out
        refine ⟨some ⟨o, 0, none⟩, n, ?_, ?_, B12.trans ((Below.refl _ _).grown g3 B12.size (by intro k e; simp at e; have := HO.out; have := B1.size; omega))⟩
        · rw [HER.out.1, HER.out.2, HLL.out, hl9]; rfl
        · rw [HER.out.2, HLL.out, hl9]
          exact own_base o3 (by have := HO.out; have := B1.size; omega)
      · have hm2 : 2 ≤ m := by omega
        have hLl := lst_len Y m
        have hLFl : (LFz zs).length = m := HNU.out
        have hFl : (itF (LFz zs)).length = m := by rw [itF_len]; exact hLFl
        have CL := lastRow_any (some ⟨g, 0, none⟩) m c lim o (lst Y 0 m) (itF (LFz zs)) w2 hLl (lst_RL S2) (leaf_row (fun i => (hbx i).1) LF.pm LF.ord) (by intro x hx; cases hx; exact hgo) hsz2 (fun t ht => by
          unfold itF at ht
          obtain ⟨x, hx, rfl⟩ := List.mem_map.1 ht
          have h3 := LF_mem (fun i => (hbx i).1) hx
          have h4 := hbx x.2
          simp only
          omega) hm288 hmc (by intro h; cases h) h1 h15
        have HHAS : Hid (2 * m - 2 ≤ (row (itF (LFz zs)) (lim - 1)).length) := by
          have h3 := row_has (itF (LFz zs)) lim h1 (by rw [hFl, ← HPP.out]; omega)
          rw [hFl] at h3
          exact h3
        have HLL : Hid (lensL lim zs = bumps (List.replicate n 0) (taken (LFz zs) lim)) := by
          show _ = _
          unfold lensL
          rw [if_neg (by rw [HNU.out]; omega), if_neg (by rw [HNU.out]; omega), hn.out]
        obtain ⟨q, hq⟩ : ∃ q, q = 2 * m - 2 := ⟨_, rfl⟩
        have rq : 2 * (m : Int) - 2 = (q : Int) := by omega
        have HQ : Hid (q = 2 * m - 2) := hq
        have HTK : Hid (taken (LFz zs) lim = syms ((row (itF (LFz zs)) (lim - 1)).take q) q) := by
          show _ = _
          unfold taken syms
          rw [List.take_take, Nat.min_self, hq, hLFl]
        have HSY : Hid (∀ s ∈ taken (LFz zs) lim, s < n) := by
          intro s hs
          unfold taken at hs
          obtain ⟨t, ht, hst⟩ := List.mem_flatMap.1 hs
          have h3 := row_sym (itF (LFz zs)) (fun s => s < n) (fun t ht s hs => by
            unfold itF at ht
            obtain ⟨x, hx, rfl⟩ := List.mem_map.1 ht
            simp at hs
            subst hs
            have := (LF_mem (fun i => (hbx i).1) hx).1
            have := hn.out
            omega) (lim - 1) t (List.mem_of_mem_take ht)
          exact h3 s hst
        have HLN : Hid ((taken (LFz zs) lim).length ≤ 4611686018427387904) := by
          unfold taken
          have h3 := flat_len 16384 ((row (itF (LFz zs)) (lim - 1)).take (2 * (LFz zs).length - 2)) (fun t ht => by
            have h4 := row_sl (itF (LFz zs)) (fun t ht => by
              unfold itF at ht
              obtain ⟨x, hx, rfl⟩ := List.mem_map.1 ht
              simp) (lim - 1) t (List.mem_of_mem_take ht)
            have h5 := pow14 ⟨lim - 1, by omega⟩
            simp only at h5
            omega)
          have h6 : ((row (itF (LFz zs)) (lim - 1)).take (2 * (LFz zs).length - 2)).length ≤ 576 := by
            rw [hLFl, List.length_take]; omega
          show _ ≤ _
          have h7 := Nat.mul_le_mul_right 16384 h6
          omega
        have hmi1 : ¬ (m : Int) = 1 := by omega
        have hmi2 : (1 : Int) < (m : Int) := by omega
        clear hq hLl hFl hLFl
        go_wp2_with fail
        refine CL.mono ?_
        rintro e w3 ⟨b3, c3, R, rfl, hRc, rr, hbo, mr, B3⟩
        have hRl : q ≤ R.length := by have := mr.len; have := HHAS.out; have := HQ.out; omega
        have hqc : (q : Int) ≤ (c3 : Int) := by omega
        have CT := tally_any o n o b3 q c3 (lim - 1) (List.replicate n 0) (R.take q) ((row (itF (LFz zs)) (lim - 1)).take q) w3 (by show _ = _; simp; omega) (rr.takeL q) (mr.takeL q) hbo (own_below O2 B3) (Nat.lt_of_lt_of_le hsz2 B3.size) (by show _ = _; simp) (by omega) (by omega) (by rw [← HTK.out]; exact HSY.out) (fun i => by
          by_cases h : i < n
          · simp [List.getD, h]
          · simp [List.getD, h]) (by rw [← HTK.out]; exact HLN.out)
        rw [← HTK.out] at CT
        clear CL
        go_wp2_with fail
        refine CT.mono ?_
        rintro e w4 ⟨rfl, O4, g4⟩
        go_wp2
        go_ret2
        have hbl : (bumps (List.replicate n (0 : Int)) (taken (LFz zs) lim)).length = n := by rw [bumps_len]; simp
        refine ⟨some ⟨o, 0, none⟩, n, ?_, ?_, ?_⟩
        · rw [HER.out.1, HER.out.2, HLL.out, hbl]; rfl
        · rw [HER.out.2, HLL.out, hbl]
          exact own_base O4 (by have := HO.out; have := B1.size; omega)
        · have B13 : Below w.heap.size w w3 := B12.trans (B3.mono B12.size)
          exact B13.trans ((Below.refl _ _).grown g4 B13.size (by intro k e; simp at e; have := HO.out; have := B1.size; omega))

def LenO (w : World) (lim : Int) (zs : List Int) (e : Ending) (w' : World) : Prop := ∃ b c, e = .returned (.tuple #[.slice b (lensR lim zs).length c, .int .i64 (errL lim zs)]) ∧ w'.ownsRow w.heap.size 3 1 (.slice b (lensR lim zs).length c) (lensR lim zs).length ((lensR lim zs).map (Value.int .i64)) ∧ Below w.heap.size w w'
set_option maxRecDepth 100000 in
theorem lengths_own (lim : Int) (a : Option Addr) (zs : List Int) (n cap : Nat) (hn : Hid (zs.length = n)) (w : World) (hs : SegZ w a zs) (hl : n ≤ 9223372036854775807) :
    Calls Tryz.prog 68 #[.int .i64 lim, .slice a n cap] w fun e w' => LenO w lim zs e w' := by
  by_cases h1 : lim < 1
  · have HER : Hid (errL lim zs = 1 ∧ lensR lim zs = []) := by
      have e1 : errL lim zs = 1 := by unfold errL; rw [if_pos (.inl h1)]
      exact ⟨e1, by unfold lensR; rw [e1]; rfl⟩
    go_enter Tryz.func68, Tryz.ntmps68
    go_wp2
    go_ret2
    exact ⟨none, 0, by rw [HER.out.1, HER.out.2]; rfl, by rw [HER.out.2]; exact World.ownsRow_nil _ _ _ _, Below.refl _ _⟩
  · by_cases h2 : 15 < lim
    · have HER : Hid (errL lim zs = 1 ∧ lensR lim zs = []) := by
        have e1 : errL lim zs = 1 := by unfold errL; rw [if_pos (.inr h2)]
        exact ⟨e1, by unfold lensR; rw [e1]; rfl⟩
      go_enter Tryz.func68, Tryz.ntmps68
      go_wp2
      go_ret2
      exact ⟨none, 0, by rw [HER.out.1, HER.out.2]; rfl, by rw [HER.out.2]; exact World.ownsRow_nil _ _ _ _, Below.refl _ _⟩
    · by_cases he : errOf zs = 0
      · obtain ⟨l, rfl⟩ : ∃ l : Nat, lim = (l : Int) := ⟨lim.toNat, by omega⟩
        exact lengths_okO l a zs n cap hn w hs (by omega) (by omega) he
      · have HER : Hid (errL lim zs = errOf zs ∧ lensR lim zs = []) := by
          have e1 : errL lim zs = errOf zs := by unfold errL; rw [if_neg (by omega), if_neg he]
          exact ⟨e1, by unfold lensR; rw [e1, if_neg he]⟩
        have HC := refusal_any a zs cap w hs (by have := hn.out; omega)
        rw [hn.out] at HC
        generalize errOf zs = E at *
        go_enter Tryz.func68, Tryz.ntmps68
        go_wp2_with fail
        refine HC.mono ?_
        rintro e w' ⟨rfl, hw'⟩
        subst w'
        go_wp2
        go_ret2
        exact ⟨none, 0, by rw [HER.out.1, HER.out.2]; rfl, by rw [HER.out.2]; exact World.ownsRow_nil _ _ _ _, Below.refl _ _⟩
end Go.Proofs.YtcifalelnfeggaaGreatDoor

namespace Go.Proofs.YtcifalelnfeggaaGreatDoor
open Go.RowKit
set_option linter.unusedVariables false

/-! What is laid down of a head, as mathematics; the landed head: planned. -/
def rw8 (lit dist : List Int) : List Int := sht8 lit 257 ++ sht8 dist 1
def rs8 (lit dist : List Int) : List Rn8 := runs8 (rw8 lit dist)
def fr8 (lit dist : List Int) : List Int := tly8 (rs8 lit dist)
def sz8 (lit dist : List Int) : List Int := lensL 7 (fr8 lit dist)
theorem sht8_mem {zs : List Int} {k : Nat} (h : ∀ z ∈ zs, 0 ≤ z ∧ z ≤ 15) : ∀ z ∈ sht8 zs k, 0 ≤ z ∧ z ≤ 15 := by
  intro z hz
  unfold sht8 at hz
  rcases List.mem_append.1 hz with hz | hz
  · exact h z (List.mem_of_mem_take hz)
  · rw [List.eq_of_mem_replicate hz]; omega
theorem sht8_len {zs : List Int} {k m : Nat} (h : zs.length ≤ m) (hk : k ≤ m) : k ≤ (sht8 zs k).length ∧ (sht8 zs k).length ≤ m := by
  unfold sht8
  have := cut8_le zs zs.length
  rw [List.length_append, List.length_take, List.length_replicate]
  omega
theorem tld8_ok {lit dist : List Int} (h : tld8 errC lit dist) : LOk lit ∧ LOk dist ∧ may8 (rw8 lit dist) ∧ (257 ≤ (sht8 lit 257).length ∧ (sht8 lit 257).length ≤ 286) ∧ (1 ≤ (sht8 dist 1).length ∧ (sht8 dist 1).length ≤ 30) := by
  obtain ⟨h1, h2, h3, h4, h5, h6⟩ := h
  have a := (errS_zero (errC_zero h4).1).2
  have b := (errS_zero (errC_zero h5).1).2
  have la := sht8_len (zs := lit) (k := 257) (m := 286) h2 (by omega)
  have lb := sht8_len (zs := dist) (k := 1) (m := 30) h3 (by omega)
  refine ⟨a, b, ⟨?_, ?_⟩, la, lb⟩
  · unfold rw8
    rw [List.length_append]
    omega
  · intro z hz
    unfold rw8 at hz
    rcases List.mem_append.1 hz with hz | hz
    · exact sht8_mem a z hz
    · exact sht8_mem b z hz
theorem fr8_err (lit dist : List Int) (h : tld8 errC lit dist) : errOf (fr8 lit dist) = 0 ∧ nUse (fr8 lit dist) ≤ 2 ^ 7 ∧ errL 7 (fr8 lit dist) = 0 ∧ lensR 7 (fr8 lit dist) = sz8 lit dist := by
  have hm := (tld8_ok h).2.2.1
  have hrl := (runs8_ok hm).2
  have hl : (fr8 lit dist).length = 19 := tly8_len _
  have he : errOf (fr8 lit dist) = 0 := by
    unfold errOf
    rw [if_neg (by omega), if_pos]
    rw [List.all_eq_true]
    intro z hz
    have := tly8_bd _ z hz
    have h320 := hm.1
    have hr2 : (rs8 lit dist).length ≤ 320 := by unfold rs8; omega
    unfold okF
    simp only [decide_eq_true_eq]
    omega
  have hn : nUse (fr8 lit dist) ≤ 19 := by
    rw [nUse_us]
    unfold usI
    have := List.length_filter_le (fun i => decide ((fr8 lit dist).getD i 0 ≠ 0)) (List.range (fr8 lit dist).length)
    rw [List.length_range, hl] at this
    rw [hl]
    exact this
  have hL : errL 7 (fr8 lit dist) = 0 := by
    unfold errL
    rw [if_neg (by omega), if_pos he, if_neg]
    have : (2 : Nat) ^ (7 : Int).toNat = 128 := rfl
    omega
  refine ⟨he, by have : (2 : Nat) ^ 7 = 128 := rfl; omega, hL, ?_⟩
  unfold lensR
  rw [if_pos hL]
  rfl
theorem sz8_ok {lit dist : List Int} (h : tld8 errC lit dist) : errC (sz8 lit dist) = 0 ∧ (sz8 lit dist).length = 19 ∧ (∀ i, i < 19 → 0 ≤ (sz8 lit dist).getD i 0 ∧ (sz8 lit dist).getD i 0 ≤ 7) ∧ ∀ r ∈ rs8 lit dist, (sz8 lit dist).getD r.sy.toNat 0 ≠ 0 := by
  obtain ⟨he, hn, _, _⟩ := fr8_err lit dist h
  have hl : (fr8 lit dist).length = 19 := tly8_len _
  obtain ⟨c1, c2, c3⟩ := lens_code he (lim := 7) (by omega) (by omega) hn
  have hok := (errS_zero (errC_zero c1).1).2
  refine ⟨c1, by unfold sz8; rw [lens_len, hl], fun i hi => ⟨(hok.get i).1, c2 i (by omega)⟩, fun r hr => ?_⟩
  have hrok := (runs8_ok (tld8_ok h).2.2.1).1 r hr
  have hs : r.sy.toNat < 19 := by unfold ok8 at hrok; omega
  refine c3 r.sy.toNat (by omega) ?_
  unfold fr8
  rw [tly8_get _ hs]
  have : r ∈ (rs8 lit dist).filter fun q => q.sy == ((r.sy.toNat : Nat) : Int) := by
    refine List.mem_filter.2 ⟨hr, ?_⟩
    unfold ok8 at hrok
    rw [beq_iff_eq]
    omega
  have hp := List.length_pos_of_mem this
  omega
end Go.Proofs.YtcifalelnfeggaaGreatDoor

namespace Go.Proofs.YtcifalelnfeggaaGreatDoor
open Go.RowKit
set_option linter.unusedVariables false

/-! The landed head: planned. -/
def PlQ (w : World) (lit dist : List Int) (e : Ending) (w' : World) : Prop :=
  (tld8 errC lit dist → ∃ za zc ra rc, e = .returned (.tuple #[.agg #[.int .i64 ((sht8 lit 257).length : Int), .int .i64 ((sht8 dist 1).length : Int), .slice za 19 zc, .int .i64 (tol8 (sz8 lit dist) 19 : Int), .slice ra (rs8 lit dist).length rc], .int .i64 0]) ∧ w'.ownsRow w.heap.size 3 1 (.slice za 19 zc) 19 ((sz8 lit dist).map (Value.int .i64)) ∧ w'.ownsRow w.heap.size 211 2 (.slice ra (rs8 lit dist).length rc) (rs8 lit dist).length (flatN (rs8 lit dist))) ∧
  (¬ tld8 errC lit dist → e = .returned (.tuple #[.agg #[.int .i64 0, .int .i64 0, .slice none 0 0, .int .i64 0, .slice none 0 0], .int .i64 80])) ∧ Below w.heap.size w w'
def five8 (w : World) (r : Nat) (x0 x1 x2 x3 x4 : Value) : World := ((((w.setCell ⟨r, 0, none⟩ x0).setCell ⟨r, 1, none⟩ x1).setCell ⟨r, 2, none⟩ x2).setCell ⟨r, 3, none⟩ x3).setCell ⟨r, 4, none⟩ x4
theorem five8_heap {w : World} {r : Nat} {a b c d e : Value} {t : TypeId} (h : w.heap[r]? = some (.cells #[a, b, c, d, e] t (0, 0))) (x0 x1 x2 x3 x4 : Value) : (five8 w r x0 x1 x2 x3 x4).heap[r]? = some (.cells #[x0, x1, x2, x3, x4] t (0, 0)) := by
  have h1 := heap_setCell_same w r 0 _ t x0 h
  have h2 := heap_setCell_same _ r 1 _ t x1 h1
  have h3 := heap_setCell_same _ r 2 _ t x2 h2
  have h4 := heap_setCell_same _ r 3 _ t x3 h3
  have h5 := heap_setCell_same _ r 4 _ t x4 h4
  unfold five8
  rw [h5]
  rfl
theorem five8_kp (w : World) (r : Nat) (x0 x1 x2 x3 x4 : Value) : Kp (fun k => k = r) w (five8 w r x0 x1 x2 x3 x4) :=
  ((((Kp.set (S := fun k => k = r) rfl x0).trans (S' := fun k => k = r) (Kp.set (S := fun k => k = r) rfl x1) (fun _ _ e => e)).trans (S' := fun k => k = r) (Kp.set (S := fun k => k = r) rfl x2) (fun _ _ e => e)).trans (S' := fun k => k = r) (Kp.set (S := fun k => k = r) rfl x3) (fun _ _ e => e)).trans (S' := fun k => k = r) (Kp.set (S := fun k => k = r) rfl x4) (fun _ _ e => e)
theorem five_cells {w : World} {r : Nat} {a b c d e : Value} {t : TypeId} (h : w.heap[r]? = some (.cells #[a, b, c, d, e] t (0, 0))) : (w.cell? ⟨r, 0, none⟩ = some a ∧ w.cell? ⟨r, 1, none⟩ = some b ∧ w.cell? ⟨r, 2, none⟩ = some c ∧ w.cell? ⟨r, 3, none⟩ = some d ∧ w.cell? ⟨r, 4, none⟩ = some e) ∧ w.frozen? ⟨r, 0, none⟩ = false ∧ w.frozen? ⟨r, 1, none⟩ = false ∧ w.frozen? ⟨r, 2, none⟩ = false ∧ w.frozen? ⟨r, 3, none⟩ = false ∧ w.frozen? ⟨r, 4, none⟩ = false :=
  ⟨⟨(cell_of_row w r 0 _ _ _ h).trans rfl, (cell_of_row w r 1 _ _ _ h).trans rfl, (cell_of_row w r 2 _ _ _ h).trans rfl, (cell_of_row w r 3 _ _ _ h).trans rfl, (cell_of_row w r 4 _ _ _ h).trans rfl⟩, frozen_of_row w r 0 _ _ h, frozen_of_row w r 1 _ _ h, frozen_of_row w r 2 _ _ h, frozen_of_row w r 3 _ _ h, frozen_of_row w r 4 _ _ h⟩
theorem own_kp8 {w w' : World} {S : Nat → Prop} {base n sz : Nat} {e : TypeId} {v : Value} {xs : List Value} (h : w.ownsRow base e sz v n xs) (hk : Kp S w w') (hne : ∀ k, v.ownBlock = some k → ¬ S k) : w'.ownsRow base e sz v n xs := by
  refine ⟨h.1, ?_⟩
  rcases h.2 with h | ⟨g, cap, cur, h1, h2, h3, h4⟩
  · exact .inl h
  · exact .inr ⟨g, cap, cur, h1, h2, (hk.block g (Array.getElem?_eq_some_iff.1 h3).1 (hne g (by rw [h1]; rfl))).trans h3, h4⟩
theorem row5_set {w : World} {r : Nat} {a b c d e : Value} {t : TypeId} (h : w.heap[r]? = some (.cells #[a, b, c, d, e] t (0, 0))) (x : Array Value) : (w.setRow r x).heap[r]? = some (.cells x t (0, 0)) := setRow_heap _ _ _ _ _ _ h
theorem results_ct8 {P : Program} {fn : Func} {p u : Tmp} {ty : TypeId} (h : fn.results = #[.cell p ty, .tmp u]) (tmps : Array Value) (w : World) (g : Nat) (t : TypeId) (cs : Array Value) (fr : Nat × Nat) (d : TypeDesc)
    (hp : tmps.getD p undef = .pointer (some ⟨g, 0, none⟩)) (hg : w.heap[g]? = some (.cells cs t fr))
    (hu : P.underlying ty = some d) (hd : (match d with | .struct _ | .array _ _ => true | _ => false) = true) (hi : (P.info? ty).map (·.size) = some cs.size) :
    (results fn tmps).run P w = .ok (.tuple #[.agg cs, tmps.getD u undef]) w := results_ct h tmps w g t cs fr d hp hg hu hd hi
theorem own_baseZ {w : World} {base base' n sz : Nat} {e : TypeId} {v : Value} {xs : List Value} (h : w.ownsRow base e sz v n xs) (hb : base' ≤ base) : w.ownsRow base' e sz v n xs := own_baseN h hb
set_option maxRecDepth 100000 in
set_option maxHeartbeats 1000000 in
theorem pplan8 (lit dist : List Int) (a b : Option Addr) (n m ca cb : Nat) (hn : Hid (lit.length = n)) (hm : Hid (dist.length = m)) (w : World) (hx : SegZ w a lit) (hy : SegZ w b dist) (hca : n ≤ ca) (hcb : m ≤ cb) (T : TabS w) (O : TabO w) :
    Calls Tryz.prog 128 #[.slice a n ca, .slice b m cb] w (PlQ w lit dist) := by
  obtain ⟨i0, hi, hz0, hz1, hz2⟩ := info_parts info_int
  have HX : Hid (SegZ w a lit) := hx
  have HY : Hid (SegZ w b dist) := hy
  have HTS : Hid (TabS w) := T
  have HTO : Hid (TabO w) := O
  obtain ⟨w0, hw0⟩ : ∃ w0, w0 = w.alloc (.cells #[.int .i64 0, .int .i64 0, .slice none 0 0, .int .i64 0, .slice none 0 0] 208) := ⟨_, rfl⟩
  have HW0 : Hid (w.alloc (.cells #[.int .i64 0, .int .i64 0, .slice none 0 0, .int .i64 0, .slice none 0 0] 208) = w0) := hw0.symm
  have h0 : w0.heap[w.heap.size]? = some (.cells #[.int .i64 0, .int .i64 0, .slice none 0 0, .int .i64 0, .slice none 0 0] 208 (0, 0)) := by rw [hw0]; exact heap_alloc_new w _
  have B0 : Below w.heap.size w w0 := by rw [hw0]; exact below_box8 w _
  have hw0s : w.heap.size < w0.heap.size := by rw [hw0]; simp
  have CT := ptell8 lit dist a b n m ca cb hn hm w0 (hx.old B0) (hy.old B0)
  clear hx hy T O hw0
  by_cases ht : tld8 errC lit dist
  · rw [decide_eq_true ht] at CT
    have HT : Hid (tld8 errC lit dist) := ht
    obtain ⟨_, _, hmay, hal, hbl⟩ := tld8_ok ht
    have hR := runs8_ok hmay
    have hE := fr8_err lit dist ht
    have hZ := sz8_ok ht
    have hn286 : n ≤ 286 ∧ m ≤ 30 := by
      obtain ⟨_, h2, h3, _⟩ := ht
      rw [hn.out] at h2
      rw [hm.out] at h3
      exact ⟨h2, h3⟩
    go_enter Tryz.func128, Tryz.ntmps128
    go_wp2_with fail
    rw [HW0.out]
    refine CT.mono ?_
    rintro e w1 ⟨rfl, B1⟩
    have x1 : Below w.heap.size w w1 := B0.trans (B1.mono B0.size)
    have g1 : w1.heap[w.heap.size]? = some (.cells #[.int .i64 0, .int .i64 0, .slice none 0 0, .int .i64 0, .slice none 0 0] 208 (0, 0)) := (B1.block _ hw0s).trans h0
    have s1 : w.heap.size < w1.heap.size := by have := B1.size; omega
    clear CT B0 B1 h0
    go_wp2_with fail
    refine (ptrim8 lit 257 a n ca hn w1 ((show SegZ w a lit from HX.out).old x1) hca (by omega) (by omega)).mono ?_
    rintro e w2 ⟨oa, oc, rfl, OA2, B2⟩
    have x2 : Below w.heap.size w w2 := x1.trans (B2.mono x1.size)
    obtain ⟨A, hA⟩ : ∃ A, A = sht8 lit 257 := ⟨_, rfl⟩
    obtain ⟨B, hB⟩ : ∃ B, B = sht8 dist 1 := ⟨_, rfl⟩
    have HAB : Hid (sht8 lit 257 = A ∧ sht8 dist 1 = B) := ⟨hA.symm, hB.symm⟩
    obtain ⟨nA, hnA⟩ : ∃ nA, nA = A.length := ⟨_, rfl⟩
    obtain ⟨nB, hnB⟩ : ∃ nB, nB = B.length := ⟨_, rfl⟩
    have HLA : Hid (A.length = nA) := hnA.symm
    have HLB : Hid (B.length = nB) := hnB.symm
    have hbA : 257 ≤ nA ∧ nA ≤ 286 ∧ 1 ≤ nB ∧ nB ≤ 30 := by
      rw [hA] at hnA
      rw [hB] at hnB
      omega
    rw [HAB.out.1, HLA.out] at OA2
    rw [HAB.out.1, HLA.out]
    clear hA hB hnA hnB
    go_wp2_with fail
    refine (ptrim8 dist 1 b m cb hm w2 ((show SegZ w b dist from HY.out).old x2) hcb (by omega) (by omega)).mono ?_
    rintro e w3 ⟨pa, pc, rfl, OB3, B3⟩
    have x3 : Below w.heap.size w w3 := x2.trans (B3.mono x2.size)
    rw [HAB.out.2, HLB.out] at OB3
    rw [HAB.out.2, HLB.out]
    have hAM : ∀ z ∈ A, -9223372036854775808 ≤ z ∧ z ≤ 9223372036854775807 := fun z hz => by
      have := hmay.2 z (by unfold rw8; rw [HAB.out.1]; exact List.mem_append_left _ hz)
      omega
    have hBM : ∀ z ∈ B, -9223372036854775808 ≤ z ∧ z ≤ 9223372036854775807 := fun z hz => by
      have := hmay.2 z (by unfold rw8; rw [HAB.out.2]; exact List.mem_append_right _ hz)
      omega
    have OA3 := own_below OA2 B3
    have SB3 := own_segZ OB3 hBM
    have hpnil : pa = none → pc = 0 := fun e => by
      obtain ⟨g, cp, hv, _⟩ := own_shape OB3 (by omega)
      rw [e] at hv
      simp at hv
    have g3 : w3.heap[w.heap.size]? = some (.cells #[.int .i64 0, .int .i64 0, .slice none 0 0, .int .i64 0, .slice none 0 0] 208 (0, 0)) := by
      rw [B3.block _ (by have := B2.size; omega), B2.block _ s1]
      exact g1
    have hs13 : w1.heap.size ≤ w3.heap.size := by have := B2.size; have := B3.size; omega
    clear OA2 OB3 B2 B3 g1
    rw [← HLB.out]
    go_wp2_with (first | (at_builtin; refine wpList_appZ rfl (.tmp 20) (.tmp 21) 39 rfl w1.heap.size 3 i0 (.int .i64 0) 8 Tryz.underlying39 hi hz0 hz1 hz2 rfl OA3 SB3 hpnil rfl rfl (by rw [HLB.out]; omega) (by rw [HLB.out]; omega) hs13 ?_; intro qa qc w4 OQ4 hg4 _ _))
    rw [HLB.out] at OQ4
    rw [HLB.out]
    have x4 : Below w1.heap.size w3 w4 := (Below.refl _ _).grown hg4 hs13 (fun k hk => (OA3.lt k hk).1)
    have g4 : w4.heap[w.heap.size]? = some (.cells #[.int .i64 0, .int .i64 0, .slice none 0 0, .int .i64 0, .slice none 0 0] 208 (0, 0)) := (x4.block _ s1).trans g3
    have y4 : Below w.heap.size w w4 := x3.trans (x4.mono x1.size)
    have hs4 : w1.heap.size ≤ w4.heap.size := by have := x4.size; omega
    clear x4 hg4 g3 OA3 SB3
    have HRW : Hid (A ++ B = rw8 lit dist) := by show _ = _; unfold rw8; rw [HAB.out.1, HAB.out.2]
    rw [← List.map_append, HRW.out] at OQ4
    have SQ4 : SegZ w4 qa (rw8 lit dist) := own_segZ OQ4 (fun z hz => by have := hmay.2 z hz; omega)
    have HLQ : Hid ((rw8 lit dist).length = nA + nB) := by show _ = _; rw [← HRW.out, List.length_append, HLA.out, HLB.out]
    have hqc : nA + nB ≤ qc := by
      obtain ⟨g, cp, hv, h2, _⟩ := own_shape OQ4 (by omega)
      simp only [Value.slice.injEq] at hv
      omega
    clear OQ4
    have CR := pruns8 (rw8 lit dist) qa (nA + nB) qc HLQ hqc w4 SQ4 (SegZ.old HTS.out y4)
    have HRR : Hid (rns8 (rw8 lit dist) = rs8 lit dist ∧ rer8 (rw8 lit dist) = 0) := by
      unfold rns8 rer8
      rw [if_pos hmay, if_pos hmay]
      exact ⟨rfl, rfl⟩
    rw [HRR.out.1, HRR.out.2] at CR
    obtain ⟨nR, hnR⟩ : ∃ nR, nR = (rs8 lit dist).length := ⟨_, rfl⟩
    have HNR : Hid ((rs8 lit dist).length = nR) := hnR.symm
    have hnR3 : nR ≤ 320 := by have := hR.2; have := hmay.1; unfold rs8 at hnR; omega
    clear hnR SQ4
    go_wp2_with fail
    refine CR.mono ?_
    rintro e w5 ⟨ra, rc, rfl, OR5, B5⟩
    rw [HNR.out] at OR5
    rw [HNR.out]
    have y5 : Below w.heap.size w w5 := y4.trans (B5.mono y4.size)
    have g5 := (B5.block w.heap.size (by omega)).trans g4
    have SR5 : SegN w5 ra (rs8 lit dist) := own_segN OR5 HNR.out
    have hRok : ∀ r ∈ rs8 lit dist, 0 ≤ r.sy ∧ r.sy ≤ 18 := fun r hr => by have := hR.1 r hr; unfold ok8 at this; omega
    have s5 : w1.heap.size ≤ w5.heap.size := by have := B5.size; omega
    clear CR g4
    go_wp2_with fail
    refine (ptally8 (rs8 lit dist) ra nR rc HNR w5 SR5 hRok (by omega)).mono ?_
    rintro e w6 ⟨fa, fc, rfl, OF6, B6⟩
    have HF19 : Hid ((tly8 (rs8 lit dist)).length = 19) := tly8_len _
    rw [HF19.out] at OF6
    rw [HF19.out]
    have y6 : Below w.heap.size w w6 := y5.trans (B6.mono y5.size)
    have g6 := (B6.block w.heap.size (by omega)).trans g5
    have OR6 := own_belowN OR5 B6
    have SF6 : SegZ w6 fa (fr8 lit dist) := own_segZ OF6 (fun z hz => by have := tly8_bd _ z hz; have h3 := HNR.out; omega)
    have s6 : w1.heap.size ≤ w6.heap.size := by have := B6.size; omega
    have CL := lengths_own 7 fa (fr8 lit dist) 19 fc HF19 w6 SF6 (by omega)
    unfold LenO at CL
    rw [hE.2.2.2, hE.2.2.1, hZ.2.1] at CL
    have s46 : w4.heap.size ≤ w6.heap.size := by have := B5.size; have := B6.size; omega
    clear g5 OR5 SR5 OF6
    go_wp2_with fail
    refine CL.mono ?_
    rintro e w7 ⟨za, zc, rfl, OZ7, B7⟩
    have y7 : Below w.heap.size w w7 := y6.trans (B7.mono y6.size)
    have g7 := (B7.block w.heap.size (by omega)).trans g6
    have OR7 := own_belowN OR6 B7
    have SZ7 : SegZ w7 za (sz8 lit dist) := own_segZ OZ7 (fun z hz => by
      obtain ⟨i, hi, rfl⟩ := List.mem_iff_getElem.1 hz
      have := hZ.2.2.1 i (by rw [hZ.2.1] at hi; exact hi)
      simp only [List.getD, List.getElem?_eq_getElem hi, Option.getD_some] at this
      omega)
    have CO := ptoldof8 (sz8 lit dist) za zc hZ.2.1 w7 SZ7 (SegZ.old HTO.out y7)
    clear CL g6 OR6 SF6
    obtain ⟨tq, htq⟩ : ∃ tq, tq = tol8 (sz8 lit dist) 19 := ⟨_, rfl⟩
    have HTQ : Hid (tol8 (sz8 lit dist) 19 = tq) := htq.symm
    rw [HTQ.out] at CO
    clear htq
    obtain ⟨⟨k0, k1, k2, k3, k4⟩, f0, f1, f2, f3, f4⟩ := five_cells g7
    go_wp2_with ((go_at_call 150; refine CO.mono ?_; rintro e w' ⟨rfl, hw'⟩; subst w'))
    have KF := five8_kp w7 w.heap.size (.int .i64 (nA : Int)) (.int .i64 (nB : Int)) (.slice za 19 zc) (.int .i64 (tq : Int)) (.slice ra nR rc)
    refine bodyPost_ret (v := .tuple #[.agg #[.int .i64 (nA : Int), .int .i64 (nB : Int), .slice za 19 zc, .int .i64 (tq : Int), .slice ra nR rc], .int .i64 0]) (results_ct8 (fn := Tryz.f128) (p := 4) (u := 5) (ty := 208) rfl _ _ w.heap.size _ _ _ _ rfl (five8_heap g7 _ _ _ _ _) Tryz.underlying208 rfl (by kernel_rfl)) rfl ?_
    refine ⟨fun _ => ⟨za, zc, ra, rc, ?_, ?_, ?_⟩, fun h => absurd HT.out h, y7.trans (KF.below (fun k e => by omega) y7.size)⟩
    · rw [HAB.out.1, HAB.out.2, HLA.out, HLB.out, HNR.out, HTQ.out]
    · refine own_kp8 (own_baseZ OZ7 y6.size) KF (fun k e e2 => ?_)
      have := (OZ7.lt _ e).1
      omega
    · rw [HNR.out]
      refine own_kp8 (own_baseN OR7 y4.size) KF (fun k e e2 => ?_)
      have := (OR7.lt _ e).1
      omega
  · rw [decide_eq_false ht] at CT
    have HF : Hid (¬ tld8 errC lit dist) := ht
    clear ht
    go_enter Tryz.func128, Tryz.ntmps128
    go_wp2_with fail
    rw [HW0.out]
    refine CT.mono ?_
    rintro e w1 ⟨rfl, B1⟩
    have x1 : Below w.heap.size w w1 := B0.trans (B1.mono B0.size)
    have g1 : w1.heap[w.heap.size]? = some (.cells #[.int .i64 0, .int .i64 0, .slice none 0 0, .int .i64 0, .slice none 0 0] 208 (0, 0)) := (B1.block _ hw0s).trans h0
    clear CT B0 B1 h0
    obtain ⟨⟨k0, k1, k2, k3, k4⟩, f0, f1, f2, f3, f4⟩ := five_cells g1
    go_wp2_with fail
    have KF := five8_kp w1 w.heap.size (.int .i64 0) (.int .i64 0) (.slice none 0 0) (.int .i64 0) (.slice none 0 0)
    refine bodyPost_ret (v := .tuple #[.agg #[.int .i64 0, .int .i64 0, .slice none 0 0, .int .i64 0, .slice none 0 0], .int .i64 80]) (results_ct8 (fn := Tryz.f128) (p := 4) (u := 5) (ty := 208) rfl _ _ w.heap.size _ _ _ _ rfl (five8_heap g1 _ _ _ _ _) Tryz.underlying208 rfl (by kernel_rfl)) rfl ?_
    exact ⟨fun h => absurd h HF.out, fun _ => rfl, x1.trans (KF.below (fun k e => by omega) x1.size)⟩
end Go.Proofs.YtcifalelnfeggaaGreatDoor

namespace Go.Proofs.YtcifalelnfeggaaGreatDoor
open Go.RowKit
set_option linter.unusedVariables false

/-! The landed head: Cost. -/
def cb8 (Z : List Int) : List Rn8 → Nat
  | [] => 0
  | r :: R => (Z.getD r.sy.toNat 0).toNat + mor8 r.sy + cb8 Z R
theorem cb8_app (Z : List Int) (b : List Rn8) : ∀ a, cb8 Z (a ++ b) = cb8 Z a + cb8 Z b
  | [] => by simp [cb8]
  | r :: a => by simp only [List.cons_append, cb8, cb8_app Z b a]; omega
def cst8 (lit dist : List Int) : Nat := 14 + 3 * tol8 (sz8 lit dist) 19 + cb8 (sz8 lit dist) (rs8 lit dist)
def CsQ (w : World) (lit dist : List Int) (e : Ending) (w' : World) : Prop := e = .returned (.tuple (if tld8 errC lit dist then #[.int .i64 (cst8 lit dist : Int), .int .i64 0] else #[.int .i64 0, .int .i64 80])) ∧ Below w.heap.size w w'
theorem own_shape1 {w : World} {base n : Nat} {e : TypeId} {a : Option Addr} {cap : Nat} {xs : List Value} (h : w.ownsRow base e 1 (.slice a n cap) n xs) (hn : 0 < n) : ∃ g, a = some ⟨g, 0, none⟩ ∧ n ≤ cap ∧ base ≤ g ∧ g < w.heap.size := by
  obtain ⟨g, cp, hv, h1, h2, h3⟩ := own_shape h hn
  simp only [Value.slice.injEq] at hv
  obtain ⟨rfl, _, rfl⟩ := hv
  exact ⟨g, rfl, h1, h2, h3⟩
set_option maxRecDepth 100000 in
set_option maxHeartbeats 4000000 in
theorem pcost8 (lit dist : List Int) (a b : Option Addr) (n m ca cb : Nat) (hn : Hid (lit.length = n)) (hm : Hid (dist.length = m)) (w : World) (hx : SegZ w a lit) (hy : SegZ w b dist) (hca : n ≤ ca) (hcb : m ≤ cb) (T : TabS w) (O : TabO w) :
    Calls Tryz.prog 104 #[.slice a n ca, .slice b m cb] w (CsQ w lit dist) := by
  have CP := pplan8 lit dist a b n m ca cb hn hm w hx hy hca hcb T O
  have HTS : Hid (TabS w) := T
  clear hx hy T O
  by_cases ht : tld8 errC lit dist
  · have hZ := sz8_ok ht
    have hR := runs8_ok (tld8_ok ht).2.2.1
    have hR3 : (rs8 lit dist).length ≤ 320 := by have := (tld8_ok ht).2.2.1.1; unfold rs8; omega
    have hto := tol8_bd (sz8 lit dist) 19 (by omega)
    have HCS : Hid (cst8 lit dist = 14 + 3 * tol8 (sz8 lit dist) 19 + cb8 (sz8 lit dist) (rs8 lit dist)) := rfl
    have HQ : Hid (∀ t w', t = cst8 lit dist → Below w.heap.size w w' → CsQ w lit dist (.returned (.tuple #[.int .i64 (t : Int), .int .i64 0])) w') := fun t w' ht2 hb => by
      subst ht2
      unfold CsQ
      rw [if_pos ht]
      exact ⟨rfl, hb⟩
    go_enter Tryz.func104, Tryz.ntmps104
    go_wp2_with fail
    refine CP.mono ?_
    rintro e w1 ⟨hyes, _, B1⟩
    obtain ⟨za, zc, ra, rc, rfl, OZ, OR⟩ := hyes ht
    have HOKR : Hid (∀ r ∈ rs8 lit dist, ok8 r) := fun r hr => hR.1 r hr
    clear hyes ht CP hR
    generalize (sht8 lit 257).length = nA at *
    generalize (sht8 dist 1).length = nB at *
    obtain ⟨Z, hZe⟩ : ∃ Z, Z = sz8 lit dist := ⟨_, rfl⟩
    obtain ⟨R, hRe⟩ : ∃ R, R = rs8 lit dist := ⟨_, rfl⟩
    rw [← hZe, ← hRe] at HCS
    rw [← hZe] at hZ hto OZ ⊢
    rw [← hRe] at hZ hR3 OR HOKR ⊢
    clear hZe hRe
    generalize tol8 Z 19 = tq at *
    obtain ⟨nR, hnR⟩ : ∃ nR, nR = R.length := ⟨_, rfl⟩
    have HNR : Hid (R.length = nR) := hnR.symm
    rw [← hnR] at hR3 OR ⊢
    clear hnR
    obtain ⟨zg, rfl, hzc, hzg, hzl⟩ := own_shape1 OZ (by omega)
    have SZ1 : SegZ w1 (some ⟨zg, 0, none⟩) Z := own_segZ OZ (fun z hz => by
      obtain ⟨i, hi, rfl⟩ := List.mem_iff_getElem.1 hz
      have := hZ.2.2.1 i (by rw [hZ.2.1] at hi; exact hi)
      simp only [List.getD, List.getElem?_eq_getElem hi, Option.getD_some] at this
      omega)
    have SR1 : SegN w1 ra R := own_segN OR HNR.out
    obtain ⟨W, hW⟩ : ∃ W, W = w1.alloc (.cells #[.int .i64 (nA : Int), .int .i64 (nB : Int), .slice (some ⟨zg, 0, none⟩) 19 zc, .int .i64 (tq : Int), .slice ra nR rc] 208) := ⟨_, rfl⟩
    have HWE : Hid (w1.alloc (.cells #[.int .i64 (nA : Int), .int .i64 (nB : Int), .slice (some ⟨zg, 0, none⟩) 19 zc, .int .i64 (tq : Int), .slice ra nR rc] 208) = W) := hW.symm
    have BW : Below w1.heap.size w1 W := by rw [hW]; exact below_box8 _ _
    have hPW : W.heap[w1.heap.size]? = some (.cells #[.int .i64 (nA : Int), .int .i64 (nB : Int), .slice (some ⟨zg, 0, none⟩) 19 zc, .int .i64 (tq : Int), .slice ra nR rc] 208 (0, 0)) := by rw [hW]; exact heap_alloc_new _ _
    have hlW : w1.heap.size < W.heap.size := (Array.getElem?_eq_some_iff.1 hPW).1
    have p2 : W.cell? ⟨w1.heap.size, 2, none⟩ = some (.slice (some ⟨zg, 0, none⟩) 19 zc) := (cell_of_row W _ 2 _ _ _ hPW).trans rfl
    have SZW := SZ1.old BW
    have SRW := SR1.old BW
    have TW : TabS W := SegZ.old (SegZ.old HTS.out B1) BW
    have xW : Below w.heap.size w W := B1.trans (BW.mono B1.size)
    clear hW BW OZ OR SZ1 SR1 hPW
    go_wp2_with fail
    rw [HWE.out]
    clear HWE
    go_loopw [8, 27] (fun tt ti wr => ∃ (i t : Nat), i ≤ nR ∧ ti = .int .i64 (i : Int) ∧ tt = .int .i64 (t : Int) ∧ Hid (t = 14 + 3 * tq + cb8 Z (R.take i)) ∧ t ≤ 71 + 14 * i ∧ Below W.heap.size W wr) (fun _ ti _ => nR - (intOf ti).toNat)
    case atStart => exact ⟨0, 14 + 3 * tq, by omega, rfl, by go_num, (by show _ = _; simp [cb8]), by omega, Below.refl _ _⟩
    case round =>
      obtain ⟨i, t, hin, rfl, rfl, HTT, htb, BR⟩ := hrel
      by_cases hlt : i < nR
      · have hlti : (i : Int) < (nR : Int) := by omega
        have hil : i < R.length := by rw [HNR.out]; exact hlt
        obtain ⟨rb, off, rfl, cs, cc⟩ := (SRW.old BR).at_ i hil
        have HTK : Hid (R.take (i + 1) = R.take i ++ [R.getD i ⟨0, 0⟩]) := take_snocN hil
        have hok := HOKR.out (R.getD i ⟨0, 0⟩) (by simp [List.getD, hil])
        generalize R.getD i ⟨0, 0⟩ = r at *
        obtain ⟨sy, ct⟩ := r
        simp only [ok8] at cs cc hok
        obtain ⟨s, rfl⟩ : ∃ s : Nat, sy = (s : Int) := ⟨sy.toNat, by omega⟩
        have hs19 : (s : Int) < 19 := by omega
        obtain ⟨_, _, hZb, _⟩ := hZ
        have hzb := hZb s (by omega)
        obtain ⟨zg', off', ez, cz⟩ := (SZW.old BR).at_ s (by omega)
        cases ez
        rw [Nat.zero_add] at cz
        obtain ⟨_, _, c2⟩ := TabS.at8 (SegZ.old TW BR) s (by omega)
        have hmb := mor8_in (s : Int)
        have hTn : Hid (14 + 3 * tq + cb8 Z (R.take (i + 1)) = t + ((Z.getD s 0).toNat + mor8 (s : Int))) := by
          show _ = _
          rw [HTK.out, cb8_app, HTT.out]
          simp only [cb8, Int.toNat_natCast]
          omega
        generalize Z.getD s 0 = z at *
        generalize mor8 (s : Int) = mo at *
        obtain ⟨zn, rfl⟩ : ∃ zn : Nat, z = (zn : Int) := ⟨z.toNat, by omega⟩
        rw [Int.toNat_natCast] at hTn
        have pr := (BR.cell (p := ⟨w1.heap.size, 2, none⟩) hlW).trans p2
        have hlr : w1.heap.size < wr.heap.size := by have := BR.size; omega
        have h0r : 0 < wr.heap.size := by omega
        have hzr : zg < wr.heap.size := by omega
        have hBn := BR.alloc BR.size (.cells #[.int .i64 (s : Int), .int .i64 ct] 211)
        clear SRW SZW TW HTT HTK
        go_wp2_with fail
        go_region
        go_wp2_with fail
        go_roundw
        case rel => exact ⟨i + 1, t + (zn + mo), by omega, by go_num, by go_num, hTn.out.symm, by omega, hBn.drew⟩
        case measure => simp [intOf]; omega
      · have hge : ¬ (i : Int) < (nR : Int) := by omega
        have hTA : R.take i = R := List.take_of_length_le (by rw [HNR.out]; omega)
        rw [hTA] at HTT
        have HF := HQ.out t wr (by rw [HTT.out, HCS.out]) (xW.trans (BR.mono xW.size))
        clear HQ HTT HCS
        go_wp2_with fail
        go_ret2
        exact HF
  · have HF : Hid (∀ w', Below w.heap.size w w' → CsQ w lit dist (.returned (.tuple #[.int .i64 0, .int .i64 80])) w') := fun w' hb => by
      unfold CsQ
      rw [if_neg ht]
      exact ⟨rfl, hb⟩
    go_enter Tryz.func104, Tryz.ntmps104
    go_wp2_with fail
    refine CP.mono ?_
    rintro e w1 ⟨_, hno, B1⟩
    obtain rfl := hno ht
    clear CP hno ht
    go_wp2_with fail
    go_ret2
    exact HF.out _ (B1.trans ((below_box8 w1 _).mono B1.size))
end Go.Proofs.YtcifalelnfeggaaGreatDoor

namespace Go.Proofs.YtcifalelnfeggaaGreatDoor
open Go.RowKit
set_option linter.unusedVariables false

/-- The codes that have been given out when length n has come to symbol s. -/
def cdn (zs : List Int) (N n s : Nat) : List Int := (List.range N).map fun t => if 0 < ln zs t ∧ (ln zs t < n ∨ (ln zs t = n ∧ t < s)) then (cd zs t : Int) else 0
theorem cdn_len (zs : List Int) (N n s : Nat) : (cdn zs N n s).length = N := by simp [cdn]
theorem cdn_zero (zs : List Int) (N : Nat) : cdn zs N 1 0 = List.replicate N 0 := by
  apply List.ext_getElem (by simp [cdn])
  intro i h1 h2
  simp only [cdn, List.getElem_map, List.getElem_range, List.getElem_replicate]
  rw [if_neg (by omega)]
theorem cdn_next (zs : List Int) (n : Nat) : cdn zs zs.length n zs.length = cdn zs zs.length (n + 1) 0 := by
  unfold cdn
  apply List.map_congr_left
  intro t ht
  rw [List.mem_range] at ht
  have e : (0 < ln zs t ∧ (ln zs t < n ∨ ln zs t = n ∧ t < zs.length)) = (0 < ln zs t ∧ (ln zs t < n + 1 ∨ ln zs t = n + 1 ∧ t < 0)) := propext (by omega)
  simp only [e]
theorem cdn_skip {zs : List Int} {N n s : Nat} (h : ln zs s ≠ n) : cdn zs N n (s + 1) = cdn zs N n s := by
  unfold cdn
  apply List.map_congr_left
  intro t _
  have e : (0 < ln zs t ∧ (ln zs t < n ∨ ln zs t = n ∧ t < s + 1)) = (0 < ln zs t ∧ (ln zs t < n ∨ ln zs t = n ∧ t < s)) := by
    apply propext
    by_cases c : t = s
    · subst c; omega
    · omega
  simp only [e]
theorem cdn_put {zs : List Int} {N n s : Nat} (h : ln zs s = n) (h0 : 0 < n) : (cdn zs N n s).set s (cd zs s : Int) = cdn zs N n (s + 1) := by
  apply List.ext_getElem (by simp [cdn])
  intro i h1 h2
  simp only [List.getElem_set, cdn, List.getElem_map, List.getElem_range]
  by_cases e : s = i
  · subst e
    rw [if_pos rfl, if_pos (by omega)]
  · rw [if_neg e]
    have e2 : (0 < ln zs i ∧ (ln zs i < n ∨ ln zs i = n ∧ i < s)) = (0 < ln zs i ∧ (ln zs i < n ∨ ln zs i = n ∧ i < s + 1)) := propext (by omega)
    simp only [e2]
theorem cdn_all {zs : List Int} (h : LOk zs) : cdn zs zs.length 16 0 = cds zs := by
  unfold cdn cds
  apply List.map_congr_left
  intro t ht
  have hl := (h.ln t).2
  by_cases c : 0 < ln zs t
  · rw [if_pos (by omega)]
  · rw [if_neg (by omega)]
    have : zs.getD t 0 = 0 := by have := (h.ln t).1; omega
    rw [cd_none this]
    rfl
/-- What the document's two numbers mean at length n, symbol s. -/
def NL (zs : List Int) (n s nx la : Nat) : Prop := (la = 0 → nx = 0 ∧ cF zs n + cC (zs.take s) n = 0) ∧ (0 < la → la ≤ n ∧ (nx + 1) * 2 ^ (n - la) = cF zs n + cC (zs.take s) n)
theorem NL.start (zs : List Int) : NL zs 1 0 0 0 := by
  refine ⟨fun _ => ⟨rfl, ?_⟩, fun h => by omega⟩
  rw [cF_succ, cC_zero, List.take_zero]
  unfold cC
  simp [cF]
theorem NL.next {zs : List Int} {n nx la : Nat} (h : NL zs n zs.length nx la) : NL zs (n + 1) 0 nx la := by
  have e0 : cC (zs.take 0) (n + 1) = 0 := by rw [List.take_zero]; unfold cC; split <;> simp
  have e1 : zs.take zs.length = zs := List.take_length
  unfold NL at h ⊢
  rw [e1] at h
  rw [e0, cF_succ]
  refine ⟨fun hl => ⟨(h.1 hl).1, by have := (h.1 hl).2; omega⟩, fun hl => ⟨by have := (h.2 hl).1; omega, ?_⟩⟩
  have h2 := h.2 hl
  rw [show n + 1 - la = (n - la) + 1 by omega, Nat.pow_succ, ← Nat.mul_assoc, h2.2]
  omega
theorem NL.skip {zs : List Int} {n s nx la : Nat} {z : Int} (h : NL zs n s nx la) (ht : zs.take (s + 1) = zs.take s ++ [z]) (hz : z ≠ (n : Int)) : NL zs n (s + 1) nx la := by
  unfold NL at h ⊢
  rw [ht, cC_snoc, if_neg (fun e => hz e.2), Nat.add_zero]
  exact h
theorem NL.code {zs : List Int} {n s nx la : Nat} (h : NL zs n s nx la) (hz : zs.getD s 0 = (n : Int)) (h0 : 0 < n) : cd zs s = (if la = 0 then nx else (nx + 1) * 2 ^ (n - la)) := by
  have e := cd_nxt hz h0
  by_cases c : la = 0
  · rw [if_pos c]
    have := h.1 c
    omega
  · rw [if_neg c]
    have := (h.2 (by omega)).2
    omega
theorem NL.put {zs : List Int} {n s : Nat} (ht : zs.take (s + 1) = zs.take s ++ [(n : Int)]) (hz : zs.getD s 0 = (n : Int)) (h0 : 0 < n) : NL zs n (s + 1) (cd zs s) n := by
  have e := cd_nxt hz h0
  refine ⟨fun h => by omega, fun _ => ⟨Nat.le_refl _, ?_⟩⟩
  rw [ht, cC_snoc, if_pos ⟨by omega, rfl⟩, Nat.sub_self, Nat.pow_zero, Nat.mul_one]
  omega

theorem NL.bd {zs : List Int} {n s nx la : Nat} (h : NL zs n s nx la) (hf : cF zs n ≤ 100000000) (hc : cC (zs.take s) n ≤ 288) : nx ≤ 100001000 := by
  by_cases c : la = 0
  · have := (h.1 c).1; omega
  · have h1 := (h.2 (by omega)).2
    have h2 : (nx + 1) * 1 ≤ (nx + 1) * 2 ^ (n - la) := Nat.mul_le_mul_left _ Nat.one_le_two_pow
    omega
def RodQ (w : World) (zs : List Int) (e : Ending) (w' : World) : Prop := ∃ b c, e = .returned (.tuple #[.slice b (cdsR zs).length c, .int .i64 (errC zs)]) ∧ w'.ownsRow w.heap.size 3 1 (.slice b (cdsR zs).length c) (cdsR zs).length ((cdsR zs).map (Value.int .i64)) ∧ Below w.heap.size w w'
set_option maxRecDepth 100000 in
set_option maxHeartbeats 2000000 in
theorem rcodes_any (a : Option Addr) (zs : List Int) (n cap : Nat) (hn : Hid (zs.length = n)) (w : World) (hs : SegZ w a zs) (hl : n ≤ 9223372036854775807) :
    Calls Tryz.prog 111 #[.slice a n cap] w fun e w' => RodQ w zs e w' := by
  have HC := rcheck_any a zs n cap hn w hs hl
  by_cases hok : errC zs = 0
  · have HOK : Hid (errC zs = 0) := hok
    have HL := errS_zero (errC_zero hok).1
    have HLK : Hid (LOk zs) := HL.2
    have hn288 : n ≤ 288 := by have := hn.out; have := HL.1; omega
    rw [hok] at HC
    clear hok HL
    have hb : ∀ l, cC zs l ≤ 288 := cC_288 (errC_zero HOK.out).1
    have HFB : Hid (∀ l, l ≤ 15 → cF zs l ≤ 100000000) := cF_bd hb
    have hmk := run_make_ints n (by omega)
    go_enter Tryz.func111, Tryz.ntmps111
    go_wp2_with fail
    refine HC.mono ?_
    rintro e w1 ⟨rfl, hw1⟩
    subst w1
    go_wp2_with fail
    have hO := own_zeros w n (by omega)
    have B5 : Below w.heap.size w (w.alloc (.cells (Array.replicate n (.int .i64 0)) 3)) := (Below.refl _ _).alloc (Nat.le_refl _) _
    generalize w.alloc (.cells (Array.replicate n (.int .i64 0)) 3) = W5 at *
    obtain ⟨g, eg⟩ : ∃ g, g = w.heap.size := ⟨_, rfl⟩
    have HG : Hid (w.heap.size ≤ g) := Nat.le_of_eq eg.symm
    rw [← eg]
    rw [show (Value.slice (some ⟨w.heap.size, 0, none⟩) n n) = .slice (some ⟨g, 0, none⟩) n n by rw [← eg]] at hO
    rw [← cdn_zero zs n] at hO
    clear eg
    go_loopw [6, 7, 8] (fun tn ta tl wr => ∃ nx la lv : Nat, 1 ≤ lv ∧ lv ≤ 16 ∧ tn = .int .i64 (nx : Int) ∧ ta = .int .i64 (la : Int) ∧ tl = .int .i64 (lv : Int) ∧ wr.ownsRow w.heap.size 3 1 (.slice (some ⟨g, 0, none⟩) n n) n ((cdn zs n lv 0).map (Value.int .i64)) ∧ Below w.heap.size w wr ∧ Hid (NL zs lv 0 nx la)) (fun _ _ tl _ => 16 - (intOf tl).toNat)
    case atStart => exact ⟨0, 0, 1, by omega, by omega, rfl, rfl, rfl, hO, B5, NL.start zs⟩
    case round =>
      obtain ⟨nx, la, lv, hlv1, hlv2, rfl, rfl, rfl, O1, B1, HNL⟩ := hrel
      by_cases hlv : lv ≤ 15
      · have hlvi : (lv : Int) ≤ 15 := by omega
        have hfb := HFB.out lv hlv
        have HFL : Hid (cF zs lv ≤ 100000000) := hfb
        clear hfb
        go_wp2_with fail
        go_loopw [6, 7, 25] (fun tn ta tj wr => ∃ nx la j : Nat, j ≤ n ∧ tn = .int .i64 (nx : Int) ∧ ta = .int .i64 (la : Int) ∧ tj = .int .i64 (j : Int) ∧ wr.ownsRow w.heap.size 3 1 (.slice (some ⟨g, 0, none⟩) n n) n ((cdn zs n lv j).map (Value.int .i64)) ∧ Below w.heap.size w wr ∧ Hid (NL zs lv j nx la)) (fun _ _ tj _ => n - (intOf tj).toNat)
        case atStart => exact ⟨nx, la, 0, by omega, rfl, rfl, rfl, O1, B1, HNL⟩
        case round =>
          obtain ⟨nx, la, j, hj, rfl, rfl, rfl, OJ, Bw, HN⟩ := hrel
          clear O1 B1 HNL
          by_cases hjn : j < n
          · have hji : (j : Int) < (n : Int) := by omega
            obtain ⟨b, off, rfl, c0⟩ := (hs.old Bw).at_ j (by have := hn.out; omega)
            have HTK : Hid (zs.take (j + 1) = zs.take j ++ [zs.getD j 0]) := take_snocZ (by have := hn.out; omega)
            have hzl := HLK.out.ln j
            have HZL : Hid (zs.getD j 0 = (ln zs j : Int)) := hzl.1
            have HZ : Hid (∃ z, z = zs.getD j 0) := ⟨_, rfl⟩
            obtain ⟨z, hz⟩ := HZ.out
            have HZJ : Hid (z = zs.getD j 0) := hz
            have hbz : 0 ≤ z ∧ z ≤ 15 := by rw [hz]; exact HLK.out.get j
            rw [← hz] at HTK c0
            clear HZ hz hzl
            by_cases hzl : z = (lv : Int)
            · have HLJ : Hid (ln zs j = lv) := by have h1 := HZJ.out; have h2 := HZL.out; show _ = _; omega
              have HZV : Hid (zs.getD j 0 = (lv : Int)) := by show _ = _; rw [← HZJ.out]; exact hzl
              have HCD : Hid (cd zs j = if la = 0 then nx else (nx + 1) * 2 ^ (lv - la)) := HN.out.code HZV.out (by omega)
              have hnb : nx ≤ 100001000 := HN.out.bd HFL.out (Nat.le_trans (cC_le _ _) (by have := hn.out; simp; omega))
              have hcdb : cd zs j < 32768 := (cd_small HOK.out (by have := hn.out; omega)).2.2
              have HTK2 : Hid (zs.take (j + 1) = zs.take j ++ [(lv : Int)]) := by have := HTK.out; rw [hzl] at this; exact this
              have HNP : Hid (NL zs lv (j + 1) (cd zs j) lv) := NL.put HTK2.out HZV.out (by omega)
              obtain ⟨a0, fz⟩ := own_cell1 OJ (i := j) (by rw [cdn_len]; omega)
              have f0 := fz j
              obtain ⟨OS, GS⟩ := OJ.stored j (.int .i64 (cd zs j : Int))
              rw [← List.map_set, cdn_put HLJ.out (by omega)] at OS
              have HOS : Hid _ := OS
              have HBS : Hid _ := Bw.grown GS Bw.size (fun k hk => by cases hk; exact HG.out)
              clear OS GS fz
              generalize (cdn zs n lv j).getD j 0 = zz at *
              have HC2 : Hid (∃ c, c = cd zs j) := ⟨_, rfl⟩
              obtain ⟨c, hc⟩ := HC2.out
              have HCJ : Hid (c = cd zs j) := hc
              rw [← hc] at HCD hcdb HNP HOS HBS
              clear hc HC2
              subst hzl
              by_cases hla : la = 0
              · subst hla
                have e : Hid (c = nx) := by show _ = _; have := HCD.out; simpa using this
                have e2 := e.out
                subst e2
                clear HCD
                go_wp2_with fail
                go_roundw
                case rel => exact ⟨c, lv, j + 1, by omega, rfl, rfl, by go_num, HOS.out, HBS.out, HNP⟩
                case measure => simp [intOf]; omega
              · have hlai : (0 : Int) < (la : Int) := by omega
                have hlal : la ≤ lv := (HN.out.2 (by omega)).1
                obtain ⟨q, hq⟩ : ∃ q : Nat, q = lv - la := ⟨_, rfl⟩
                have rq : (lv : Int) - (la : Int) = (q : Int) := by omega
                obtain ⟨y, hy⟩ : ∃ y, y = nx + 1 := ⟨_, rfl⟩
                have ry : (nx : Int) + 1 = (y : Int) := by omega
                have HCE : Hid (c = y * 2 ^ q) := by have := HCD.out; rw [if_neg hla, ← hq, ← hy] at this; exact this
                have hw : RowKit.wrap64 ((y : Int) * 2 ^ q) = (c : Int) := by
                  have e : ((y : Int) * 2 ^ q) = (c : Int) := by rw [HCE.out]; simp
                  rw [e, ← IntWalk.i64_left]
                  exact IntWalk.i64_in _ (by omega)
                have hq15 : q ≤ 15 := by omega
                have hyb : y ≤ 100001001 := by omega
                clear hq hy HCD
                go_wp2_with fail
                go_roundw
                case rel => exact ⟨c, lv, j + 1, by omega, by rw [hw], rfl, by go_num, HOS.out, HBS.out, HNP⟩
                case measure => simp [intOf]; omega
            · have HLJ : Hid (ln zs j ≠ lv) := by have h1 := HZJ.out; have h2 := HZL.out; show _ ≠ _; omega
              have HNS : Hid (NL zs lv (j + 1) nx la) := HN.out.skip HTK.out hzl
              go_wp2_with fail
              go_roundw
              case rel => exact ⟨nx, la, j + 1, by omega, rfl, rfl, by go_num, by rw [cdn_skip HLJ.out]; exact OJ, Bw, HNS⟩
              case measure => simp [intOf]; omega
          · obtain rfl : j = n := by omega
            have HNX : Hid (NL zs (lv + 1) 0 nx la) := by have := HN.out; rw [← hn.out] at this; exact this.next
            have e : cdn zs j lv j = cdn zs j (lv + 1) 0 := by have := cdn_next zs lv; rw [hn.out] at this; exact this
            rw [e] at OJ
            clear e
            go_wp2_with fail
            go_roundw
            case rel => exact ⟨nx, la, lv + 1, by omega, by omega, rfl, rfl, by go_num, OJ, Bw, HNX⟩
            case measure => simp [intOf]; omega
      · obtain rfl : lv = 16 := by omega
        go_wp2_with fail
        go_ret2
        have e1 : cdsR zs = cds zs := by unfold cdsR; rw [if_pos HOK.out]
        have e2 : cdn zs n 16 0 = cds zs := by have := cdn_all HLK.out; rw [hn.out] at this; exact this
        have e3 : (cds zs).length = n := by rw [cds_len]; exact hn.out
        refine ⟨some ⟨g, 0, none⟩, n, ?_, ?_, B1⟩
        · rw [e1, e3, HOK.out]; rfl
        · rw [e1, e3, ← e2]; exact O1
  · have HNK : Hid (¬ errC zs = 0) := hok
    have e1 : Hid (cdsR zs = []) := by show _ = _; unfold cdsR; rw [if_neg hok]
    have key : ∀ E : Int, E = 50 ∨ E = 51 ∨ E = 52 → errC zs = E → Calls Tryz.prog 111 #[.slice a n cap] w fun e w' => RodQ w zs e w' := by
      intro E hE hEE
      have HEE : Hid (errC zs = E) := hEE
      rw [hEE] at HC
      clear hEE hok
      rcases hE with rfl | rfl | rfl
      all_goals
        go_enter Tryz.func111, Tryz.ntmps111
        go_wp2_with fail
        refine HC.mono ?_
        rintro e w1 ⟨rfl, hw1⟩
        subst w1
        go_wp2_with fail
        go_ret2
        refine ⟨none, 0, ?_, ?_, Below.refl _ _⟩
        · rw [e1.out, HEE.out]; rfl
        · rw [e1.out]; exact World.ownsRow_nil _ _ _ _
    rcases errC_cases zs with h | h | h | h
    · exact absurd h hok
    · exact key 50 (.inl rfl) h
    · exact key 51 (.inr (.inl rfl)) h
    · exact key 52 (.inr (.inr rfl)) h
end Go.Proofs.YtcifalelnfeggaaGreatDoor

namespace Go.Proofs.YtcifalelnfeggaaGreatDoor
open Go.RowKit
set_option linter.unusedVariables false

theorem run_conv_seg {P : Program} {w : World} {a : Option Addr} {zs : List Int} (cap : Nat) (h : Seg w a zs) (src e dst : TypeId) (hs : P.underlying src = some (.slice e)) (he : P.underlying e = some (.int .u8)) (hd : P.underlying dst = some .string) :
    (convert src dst (.slice a zs.length cap)).run P w = .ok (.string (strOfNums zs)) w := by
  by_cases hz : 0 < zs.length
  · obtain ⟨b, off, rfl, _⟩ := h.at_ 0 hz
    refine run_convert_bytes_arg w src e hs he b off zs.length cap zs rfl (fun i hi => ?_) dst hd
    obtain ⟨b', off', hb, hc⟩ := h.at_ i hi
    cases hb
    exact hc
  · have : zs = [] := List.eq_nil_of_length_eq_zero (by omega)
    subst this
    cases a with
    | none => exact run_convert_bytes_nil w src e hs he _ _ dst hd
    | some x =>
      rw [run_convert_bytes_string w src dst e _ _ cap hs he hd]
      have hl : (loadCells x 0).run P w = .ok (([] : List Int).map (Value.int .u8)).toArray w := by simp [loadCells, loadCellsFrom]
      have := run_bytesToString (P := P) w x 0 cap [] hl
      exact this

theorem str_inj {xs ys : List Int} (hx : ∀ z ∈ xs, 0 ≤ z ∧ z ≤ 255) (hy : ∀ z ∈ ys, 0 ≤ z ∧ z ≤ 255) : ((strOfNums xs).toList == (strOfNums ys).toList) = (xs == ys) := by
  rw [ByteArray.toList_eq, ByteArray.toList_eq, strOfNums_data, strOfNums_data]
  have key : ∀ (xs ys : List Int), (∀ z ∈ xs, 0 ≤ z ∧ z ≤ 255) → (∀ z ∈ ys, 0 ≤ z ∧ z ≤ 255) → (xs.map fun n => UInt8.ofNat n.toNat) = (ys.map fun n => UInt8.ofNat n.toNat) → xs = ys := by
    intro xs
    induction xs with
    | nil => intro ys _ _ h; cases ys with
      | nil => rfl
      | cons y r => simp at h
    | cons x r ih =>
      intro ys hx hy h
      cases ys with
      | nil => simp at h
      | cons y t =>
        simp only [List.map_cons, List.cons.injEq] at h
        have h1 := hx x (by simp)
        have h2 := hy y (by simp)
        have h3 := congrArg UInt8.toNat h.1
        simp at h3
        have h4 : x = y := by omega
        rw [h4, ih t (fun z hz => hx z (by simp [hz])) (fun z hz => hy z (by simp [hz])) h.2]
  rw [Bool.eq_iff_iff, beq_iff_eq, beq_iff_eq]
  exact ⟨key xs ys hx hy, fun h => by rw [h]⟩

set_option maxRecDepth 100000 in
theorem bsame_any (a b : Option Addr) (xs ys : List Int) (ca cb : Nat) (w : World) (hx : Seg w a xs) (hy : Seg w b ys) :
    Calls Tryz.prog 38 #[.slice a xs.length ca, .slice b ys.length cb] w fun e w' => e = .returned (.bool (xs == ys)) ∧ w' = w := by
  have h1 := run_conv_seg (P := Tryz.prog) ca hx 59 5 9 Tryz.underlying59 Tryz.underlying5 Tryz.underlying9
  have h2 := run_conv_seg (P := Tryz.prog) cb hy 59 5 9 Tryz.underlying59 Tryz.underlying5 Tryz.underlying9
  have HE : Hid (((strOfNums xs).toList == (strOfNums ys).toList) = (xs == ys)) := str_inj hx.mem hy.mem
  go_enter Tryz.func38, Tryz.ntmps38
  go_wp2
  go_ret
  exact ⟨by rw [← HE.out]; rfl, rfl⟩
end Go.Proofs.YtcifalelnfeggaaGreatDoor

namespace Go.Proofs.YtcifalelnfeggaaGreatDoor
open Go.RowKit
set_option linter.unusedVariables false

theorem own_less {w : World} {base n g cap : Nat} {e : TypeId} {xs : List Value} {y : Value} (h : w.ownsRow base e 1 (.slice (some ⟨g, 0, none⟩) (n + 1) cap) (n + 1) (xs ++ [y])) : w.ownsRow base e 1 (.slice (some ⟨g, 0, none⟩) n cap) n xs := by
  have hl : xs.length = n := by have := h.1; simp at this; omega
  refine ⟨by omega, ?_⟩
  rcases h.2 with ⟨h0, _⟩ | ⟨g', cap', cur, hv, hb, hg, hc, hm, hs, ht⟩
  · cases h0
  · simp only [Value.slice.injEq, Option.some.injEq, Addr.mk.injEq, and_true, true_and] at hv
    obtain ⟨rfl, rfl⟩ := hv
    refine .inr ⟨g, cap, cur, rfl, hb, hg, by omega, hm, hs, ?_⟩
    have h2 := congrArg (List.take n) ht
    rw [List.take_take, List.take_append_of_le_length (by omega), List.take_of_length_le (by omega : xs.length ≤ n)] at h2
    rw [Nat.mul_one] at h2 ⊢
    rw [Nat.min_eq_left (by omega)] at h2
    exact h2

theorem own_take {w : World} {base m l g cap : Nat} {e : TypeId} {xs : List Value} (h : w.ownsRow base e 1 (.slice (some ⟨g, 0, none⟩) m cap) m xs) (hl : l ≤ m) : w.ownsRow base e 1 (.slice (some ⟨g, 0, none⟩) l cap) l (xs.take l) := by
  have hx : xs.length = m := by have := h.1; simp at this; omega
  refine ⟨by simp; omega, ?_⟩
  rcases h.2 with ⟨h0, _⟩ | ⟨g', cap', cur, hv, hb, hg, hc, hm, hs, ht⟩
  · cases h0
  · simp only [Value.slice.injEq, Option.some.injEq, Addr.mk.injEq, and_true, true_and] at hv
    obtain ⟨rfl, rfl⟩ := hv
    refine .inr ⟨g, cap, cur, rfl, hb, hg, by omega, hm, hs, ?_⟩
    rw [← ht, List.take_take, Nat.mul_one, Nat.mul_one, Nat.min_eq_left hl]

/-- An append of one cell onto a row of the call's own: the row itself stays; the new one is at its place, or in a new block. -/
theorem run_push_st {P : Program} (t ty : TypeId) (base : Nat) (e : TypeId) (i : TypeInfo) (z : Value) (bytes : Nat) (ht : P.underlying t = some (.slice e)) (hi : P.info? e = some i) (hz : i.zero = some z)
    (hsize : i.size = 1) (hby : i.bytes = bytes) (hzs : z.cells.size = 1)
    (w0 : World) (y : Value) (hy : y.oneCell' = true) {v : Value} {n : Nat} {xs : List Value} (hown : w0.ownsRow base e 1 v n xs)
    (h63 : n + 1 ≤ 140737488355328) (hbytes : (n + 1) * bytes ≤ 140737488355328) (hbase : base ≤ w0.heap.size) :
    ∃ v' w', (Builtin.append_ #[t, t] ty #[v, .slice (some ⟨w0.heap.size, 0, none⟩) 1 1]).run P (w0.alloc (.cells #[y] e)) = .ok v' w' ∧ w'.ownsRow base e 1 v' (n + 1) (xs ++ [y]) ∧ w0.grownBy w' v.ownBlock ∧
      w'.ownsRow base e 1 v n xs ∧ ((∃ g c, v = .slice (some ⟨g, 0, none⟩) n c ∧ v' = .slice (some ⟨g, 0, none⟩) (n + 1) c) ∨ ∃ g, v'.ownBlock = some g ∧ w0.heap.size ≤ g) := by
  have hown1 := hown.alloc (.cells #[y] e)
  have hcell := cell_one_new w0 y e
  have h1c : ∀ u ∈ [y], u.oneCell' = true := by intro u hu; simp at hu; subst hu; exact hy
  obtain ⟨v', w', hr, h1, h2, _⟩ := run_append_own (P := P) (w0.alloc (.cells #[y] e)) base t ty e i z 1 bytes ht hi hz hsize hby hzs (by decide) v n xs hown1 ⟨w0.heap.size, 0, none⟩ 1 1 [y] rfl hcell h1c (by unfold maxLen; omega) hbytes (by simp; omega)
  refine ⟨v', w', hr, h1, grownBy_trans (World.grownBy_alloc w0 _ _) h2, ?_⟩
  subst hby
  rcases hown.2 with ⟨rfl, rfl⟩ | ⟨g, cap, cur, rfl, hbg, hg, hnc, hcm, hcs, htake⟩
  · have hx : xs = [] := List.eq_nil_of_length_eq_zero (by simpa using hown.1)
    subst hx
    have hr2 := run_append_nil (P := P) (w0.alloc (.cells #[y] e)) t ty e i z ht hi hz ⟨w0.heap.size, 0, none⟩ 1 1 [y] (by rw [hsize]; rfl) hcell (by decide) (by decide) (by simp only [Nat.zero_add] at hbytes; omega)
    rw [hr] at hr2
    simp only [Result.ok.injEq] at hr2
    obtain ⟨rfl, rfl⟩ := hr2
    exact ⟨World.ownsRow_nil _ _ _ _, .inr ⟨_, rfl, by simp⟩⟩
  · by_cases hroom : n + 1 ≤ cap
    · have hg1 : (w0.alloc (.cells #[y] e)).heap[g]? = some (.cells cur e (0, 0)) := by
        rw [Below.heap_alloc _ _ _ (Array.getElem?_eq_some_iff.1 hg).1]; exact hg
      have hr2 := run_append_room (P := P) (w0.alloc (.cells #[y] e)) t ty e i ht hi g n cap cur hg1 ⟨w0.heap.size, 0, none⟩ 1 1 [y] (by rw [hsize]; rfl) hcell h1c hroom (by rw [hsize]; simp; omega)
      rw [hr] at hr2
      simp only [Result.ok.injEq] at hr2
      obtain ⟨rfl, rfl⟩ := hr2
      exact ⟨own_less h1, .inl ⟨g, cap, rfl, rfl⟩⟩
    · have hr2 := run_append_grow (P := P) (w0.alloc (.cells #[y] e)) t ty e i z ht hi hz ⟨g, 0, none⟩ n cap xs (by rw [hsize]; exact hown.1) (hown1.cells (g := g) rfl) ⟨w0.heap.size, 0, none⟩ 1 1 [y] (by rw [hsize]; rfl) hcell (by omega) (by omega) (growslice_fits (by omega) hbytes)
      rw [hr] at hr2
      simp only [Result.ok.injEq] at hr2
      obtain ⟨rfl, rfl⟩ := hr2
      refine ⟨?_, .inr ⟨_, rfl, by simp⟩⟩
      exact World.ownsRow.alloc (w := (w0.alloc (.cells #[y] e)).drew) hown1 _

theorem wpList_push_st {P : Program} {ops : Array Oper} {rest : List Oper} {o : Oper} {a : Act} {Q : Exit → Act → World → Prop} (hgd : o.guard = none) (s x : Operand) (t : TypeId)
    (ho : o.op = .call { callee := .builtin .append, args := #[s, x], argTypes := #[t, t] })
    (base : Nat) (e : TypeId) (i : TypeInfo) (z : Value) (bytes : Nat) (ht : P.underlying t = some (.slice e)) (hi : P.info? e = some i) (hz : i.zero = some z)
    (hsize : i.size = 1) (hby : i.bytes = bytes) (hzs : z.cells.size = 1)
    (w0 : World) (y : Value) (hy : y.oneCell' = true) {v : Value} {n : Nat} {xs : List Value} (hown : w0.ownsRow base e 1 v n xs) (hs : a.eval s = v) (hx : a.eval x = .slice (some ⟨w0.heap.size, 0, none⟩) 1 1)
    (h63 : n + 1 ≤ 140737488355328) (hbytes : (n + 1) * bytes ≤ 140737488355328) (hbase : base ≤ w0.heap.size)
    (h : ∀ (g c : Nat) (w' : World), w'.ownsRow base e 1 (.slice (some ⟨g, 0, none⟩) (n + 1) c) (n + 1) (xs ++ [y]) → w0.grownBy w' v.ownBlock → w'.ownsRow base e 1 v n xs → (v = .slice (some ⟨g, 0, none⟩) n c ∨ w0.heap.size ≤ g) → wpList P ops Q rest (a.put o.dst (.slice (some ⟨g, 0, none⟩) (n + 1) c)) w') : wpList P ops Q (o :: rest) a (w0.alloc (.cells #[y] e)) := by
  obtain ⟨v', w', hr, h2, h3, h4, h5⟩ := run_push_st (P := P) t o.type base e i z bytes ht hi hz hsize hby hzs w0 y hy hown h63 hbytes hbase
  obtain ⟨g, c, rfl, _⟩ := own_shape h2 (by omega)
  refine wpList_plain hgd fun K hK => ?_
  unfold Oper.wp execOp
  simp only [ho, resolve, invoke, builtin, Sem.run_bind, Sem.run_pure, Result.andThen_ok, List.map_toArray, List.map_cons, List.map_nil, hs, hx, hr]
  refine hK _ _ (h g c w' h2 h3 h4 ?_)
  rcases h5 with ⟨g', c', e1, e2⟩ | ⟨g', e1, e2⟩
  · cases e2; exact .inl e1
  · cases e1; exact .inr e2
end Go.Proofs.YtcifalelnfeggaaGreatDoor
