import Derived.Test.YtkjccbihdinlkaaPl
namespace Go.Proofs.Ytkjccbihdinlkaa
open Go.RowKit
set_option linter.unusedVariables false

set_option maxRecDepth 100000 in
set_option maxHeartbeats 400000 in
theorem same5_any (a b : Option Addr) (xs ys : List Int) (ca cb : Nat) (w : World) (hx : SegZ w a xs) (hy : SegZ w b ys) (hl : xs.length ≤ 9223372036854775807) (hl2 : ys.length ≤ 9223372036854775807) :
    Calls Try.prog 17 #[.slice a xs.length ca, .slice b ys.length cb] w fun e w' => e = .returned (.bool (xs == ys)) ∧ Below w.heap.size w w' := by
  by_cases hlen : xs.length = ys.length
  · have hleni : (xs.length : Int) = (ys.length : Int) := by omega
    have HLEN : Hid (xs.length = ys.length) := hlen
    have hyl : ys.length ≤ xs.length ∧ xs.length ≤ ys.length := by omega
    obtain ⟨n, hn⟩ : ∃ n, n = xs.length := ⟨_, rfl⟩
    have HN : Hid (n = xs.length ∧ n = ys.length) := ⟨hn, by omega⟩
    rw [← hlen, ← hn]
    rw [← hn] at hl
    clear hlen hleni hyl hn hl2
    go_enter Try.func17, Try.ntmps17
    go_wp2_with fail
    go_loopw [13] (fun ti wr => ∃ k : Nat, k ≤ n ∧ ti = .int .i64 k ∧ Hid (xs.take k = ys.take k) ∧ Below w.heap.size w wr) (fun ti _ => n - (intOf ti).toNat)
    case atStart => exact ⟨0, Nat.zero_le _, rfl, (by simp : _ = _), Below.refl _ _⟩
    case round =>
      obtain ⟨k, hk, rfl, HE, hb⟩ := hrel
      have hx := hx.old hb
      have hy := hy.old hb
      by_cases h1 : k < n
      · have h1i : (k : Int) < (n : Int) := by omega
        have hkx : k < xs.length := by have := HN.out; omega
        have hky : k < ys.length := by have := HN.out; omega
        obtain ⟨b1, o1, rfl, c1⟩ := hx.at_ k hkx
        obtain ⟨b2, o2, rfl, c2⟩ := hy.at_ k hky
        have b1 := hx.bd k
        have b2 := hy.bd k
        have HT : Hid (xs.take (k + 1) = xs.take k ++ [xs.getD k 0] ∧ ys.take (k + 1) = ys.take k ++ [ys.getD k 0]) := ⟨take_snocZ hkx, take_snocZ hky⟩
        have HNE : Hid (xs.getD k 0 ≠ ys.getD k 0 → xs ≠ ys) := by
          intro hne e; rw [e] at hne; exact hne rfl
        clear hkx hky
        generalize xs.getD k 0 = z1 at *
        generalize ys.getD k 0 = z2 at *
        by_cases hz : z1 = z2
        · subst hz
          go_wp2
          go_region
          go_wp2
          go_roundw
          case rel => exact ⟨k + 1, by omega, by go_num, (by rw [HT.out.1, HT.out.2, HE.out] : _ = _), hb.drew⟩
          case measure => simp [intOf]; omega
        · go_wp2
          go_region
          go_wp2
          go_ret
          exact ⟨by have := HNE.out hz; simp [this], hb.drew⟩
      · obtain rfl : k = n := by omega
        go_wp2
        go_ret
        have e : xs = ys := take_all_eq HLEN.out (.inl HN.out.1) HE.out
        exact ⟨by rw [e]; simp, hb⟩
  · have hleni : ¬ (xs.length : Int) = (ys.length : Int) := by omega
    have hne : Hid ((xs == ys) = false) := by show _ = _; simp; intro e; rw [e] at hlen; exact hlen rfl
    go_enter Try.func17, Try.ntmps17
    go_wp2_with fail
    go_ret
    exact ⟨by rw [hne.out]; rfl, Below.refl _ _⟩

def lent5 (zs : List Int) : List Int := zs ++ [71, 72, 73]
theorem lent5_bd {zs : List Int} (h : ∀ z ∈ zs, -9223372036854775808 ≤ z ∧ z ≤ 9223372036854775807) : ∀ z ∈ lent5 zs, -9223372036854775808 ≤ z ∧ z ≤ 9223372036854775807 := by
  intro z hz
  unfold lent5 at hz
  rw [List.mem_append] at hz
  rcases hz with hz | hz
  · exact h z hz
  · simp at hz; omega
theorem seg_three (w : World) : SegZ (w.alloc (.cells #[.int .i64 71, .int .i64 72, .int .i64 73] 3)) (some ⟨w.heap.size, 0, none⟩) [71, 72, 73] := by
  refine ⟨fun i hi => ⟨w.heap.size, 0, rfl, ?_⟩, getD_bdz (by intro z hz; simp at hz; omega)⟩
  simp only [List.length_cons, List.length_nil] at hi
  match i, hi with
  | 0, _ => simp
  | 1, _ => simp
  | 2, _ => simp
def LenQ5 (w : World) (zs : List Int) (e : Ending) (w' : World) : Prop := ∃ g c, e = .returned (.tuple #[.slice (some ⟨g, 0, none⟩) (lent5 zs).length c, .slice (some ⟨g, 0, none⟩) zs.length c]) ∧ w'.ownsRow w.heap.size 3 1 (.slice (some ⟨g, 0, none⟩) (lent5 zs).length c) (lent5 zs).length ((lent5 zs).map (Value.int .i64)) ∧ (lent5 zs).length ≤ c ∧ Below w.heap.size w w'
set_option maxRecDepth 100000 in
set_option maxHeartbeats 1000000 in
theorem lend5_any (a : Option Addr) (zs : List Int) (cap : Nat) (w : World) (hs : SegZ w a zs) (hnil : a = none → cap = 0) (hl : zs.length * 8 ≤ 140737488351232) :
    Calls Try.prog 10 #[.slice a zs.length cap] w fun e w' => LenQ5 w zs e w' := by
  obtain ⟨i0, hi, hz0, hz1, hz2⟩ := info_parts info_int
  have HL : Hid (zs.length + 3 = (lent5 zs).length) := by show _ = _; simp [lent5]
  have hm0 : (w.alloc (.cells #[] 3)).ownsRow w.heap.size 3 1 (.slice (some ⟨w.heap.size, 0, none⟩) 0 0) 0 [] := World.ownsRow_made w #[] 0 (Nat.le_refl _) (by decide) rfl
  have hb0 : Below w.heap.size w (w.alloc (.cells #[] 3)) := (Below.refl _ _).alloc (Nat.le_refl _) _
  go_enter Try.func10, Try.ntmps10
  go_wp2_with (first
    | (at_builtin; refine wpList_appZ rfl (.tmp 5) (.tmp 6) 23 rfl w.heap.size 3 i0 (.int .i64 0) 8 Try.underlying23 hi hz0 hz1 hz2 rfl hm0 (hs.alloc _) hnil rfl rfl (by omega) (by omega) (by simp) ?_; intro a1 c1 w1 hown1 hg1 hf1 hn1; have hb1 := hb0.trans (below_own hm0 hg1 (by simp)); clear hf1 hn1 hg1; rw [Nat.zero_add, List.nil_append] at hown1)
    | (at_builtin; refine wpList_appZ rfl (.tmp 7) (.tmp 8) 23 rfl w.heap.size 3 i0 (.int .i64 0) 8 Try.underlying23 hi hz0 hz1 hz2 rfl (hown1.alloc _) (seg_three w1) (by intro h; cases h) rfl rfl (by simp; omega) (by simp; omega) (by have := hb1.size; simp; omega) ?_; intro a2 c2 w2 hown2 hg2 hf2 hn2; have hb3 := hb1.trans ((Below.refl w.heap.size w1).alloc hb1.size (.cells #[.int .i64 71, .int .i64 72, .int .i64 73] 3)); have hb2 := hb3.trans (below_own (hown1.alloc _) hg2 (by have := hb3.size; simpa using this)); clear hf2 hn2 hg2))
  have el : zs.length + ([71, 72, 73] : List Int).length = (lent5 zs).length := by simp [lent5]
  have ev : zs.map (Value.int .i64) ++ ([71, 72, 73] : List Int).map (Value.int .i64) = (lent5 zs).map (Value.int .i64) := by simp [lent5]
  rw [el, ev] at hown2
  obtain ⟨g, cap', hv, hc2, hg, hgs⟩ := own_shape hown2 (by have := HL.out; omega)
  simp only [Value.slice.injEq] at hv
  obtain ⟨rfl, _, rfl⟩ := hv
  rw [HL.out]
  have hcc : (zs.length : Int) ≤ (c2 : Int) := by have := HL.out; omega
  have HO : Hid _ := hown2
  have HC : Hid ((lent5 zs).length ≤ c2) := hc2
  have hll : (lent5 zs).length ≤ 9223372036854775807 := by have := HL.out; omega
  clear el ev hown2 hc2
  obtain ⟨m, hm⟩ : ∃ m, m = (lent5 zs).length := ⟨_, rfl⟩
  have HM : Hid (m = (lent5 zs).length) := hm
  rw [← hm] at HO HC hll ⊢
  clear hm
  go_region
  all_goals
    go_wp2
    go_ret2
    exact ⟨g, c2, by rw [← HM.out]; rfl, by rw [← HM.out]; exact World.ownsRow.drew HO.out, by rw [← HM.out]; exact HC.out, hb2.drew⟩
set_option maxRecDepth 100000 in
set_option maxHeartbeats 1000000 in
theorem kept5_any (wa : Option Addr) (ws : List Int) (wc : Nat) (a : Option Addr) (zs : List Int) (cap : Nat) (w : World) (hw : SegZ w wa ws) (hs : SegZ w a zs) (hnil : a = none → cap = 0) (hl : zs.length * 8 ≤ 140737488351232) (hl2 : ws.length ≤ 9223372036854775807) :
    Calls Try.prog 18 #[.slice wa ws.length wc, .slice a zs.length cap] w fun e w' => e = .returned (.bool (ws == lent5 zs)) ∧ Below w.heap.size w w' := by
  have C := lend5_any a zs cap w hs hnil hl
  have hbd := lent5_bd hs.mem
  have hll : (lent5 zs).length ≤ 9223372036854775807 := by simp [lent5]; omega
  go_enter Try.func18, Try.ntmps18
  go_wp2_with fail
  refine C.mono ?_
  rintro e w1 ⟨g, c, rfl, O1, hc, B1⟩
  have CS := same5_any wa (some ⟨g, 0, none⟩) ws (lent5 zs) wc c w1 (hw.old B1) (own_segZ O1 hbd) hl2 hll
  go_wp2_with fail
  refine CS.mono ?_
  rintro e w2 ⟨rfl, B2⟩
  go_wp2_with fail
  go_ret
  exact ⟨rfl, B1.trans (B2.mono B1.size)⟩
end Go.Proofs.Ytkjccbihdinlkaa

namespace Go.Proofs.Ytkjccbihdinlkaa
open Go.RowKit
set_option linter.unusedVariables false

theorem spc_nil : spc [] = 0 := cP_nil 16
theorem tot_nil : tot [] = 0 := cS_nil 16
theorem spc_take {zs : List Int} {k : Nat} (h : zs.length ≤ 288) (hk : LOk (zs.take k)) : spc (zs.take k) ≤ 288 * 16384 := by
  have h1 := spc_tot (zs.take k)
  have h2 := tot_le (zs.take k) hk
  have h3 : (zs.take k).length ≤ 288 := by simp; omega
  have h4 : tot (zs.take k) ≤ 288 := by omega
  exact Nat.le_trans h1 (Nat.mul_le_mul_right _ h4)
theorem LOk.take_of {zs : List Int} {k : Nat} (h : ∀ i, i < k → 0 ≤ zs.getD i 0 ∧ zs.getD i 0 ≤ 15) : LOk (zs.take k) := by
  intro z hz
  obtain ⟨i, hi, rfl⟩ := List.mem_iff_getElem.1 hz
  have hi2 : i < k ∧ i < zs.length := by simp at hi; omega
  have := h i hi2.1
  simpa [List.getD, hi2.2] using this

set_option maxRecDepth 100000 in
set_option maxHeartbeats 1000000 in
theorem r5space_any (a : Option Addr) (zs : List Int) (n cap : Nat) (hn : Hid (zs.length = n)) (w : World) (hs : SegZ w a zs) (hl : n ≤ 9223372036854775807) :
    Calls Try.prog 12 #[.slice a n cap] w fun e w' => e = .returned (.tuple #[.int .i64 (spcR zs : Int), .int .i64 (errS zs)]) ∧ w' = w := by
  by_cases h288 : 288 < n
  · have h288i : (288 : Int) < (n : Int) := by omega
    have HE : Hid (errS zs = 50 ∧ spcR zs = 0) := by
      have e := errS_many (show 288 < zs.length by have := hn.out; omega)
      exact ⟨e, by unfold spcR; rw [e, if_neg (by decide)]⟩
    go_enter Try.func12, Try.ntmps12
    go_wp2_with fail
    go_ret2
    exact ⟨by rw [HE.out.1, HE.out.2]; rfl, rfl⟩
  · have h288i : ¬ (288 : Int) < (n : Int) := by omega
    go_enter Try.func12, Try.ntmps12
    go_wp2_with fail
    go_loopw [4, 12] (fun tsum tj wr => ∃ j : Nat, j ≤ n ∧ tsum = .int .i64 (spc (zs.take j) : Int) ∧ tj = .int .i64 (j : Int) ∧ wr = w ∧ Hid (∀ i, i < j → 0 ≤ zs.getD i 0 ∧ zs.getD i 0 ≤ 15)) (fun _ tj _ => n - (intOf tj).toNat)
    case atStart => exact ⟨0, by omega, by rw [List.take_zero, spc_nil]; rfl, rfl, rfl, fun i h => by omega⟩
    case round =>
      obtain ⟨j, hj, rfl, rfl, hwr, HOK⟩ := hrel
      subst hwr
      by_cases hjn : j < n
      · have hji : (j : Int) < (n : Int) := by omega
        obtain ⟨b, off, rfl, c0⟩ := hs.at_ j (by have := hn.out; omega)
        have HTK : Hid (zs.take (j + 1) = zs.take j ++ [zs.getD j 0]) := take_snocZ (by have := hn.out; omega)
        have hbd := hs.bd j
        have HZ : Hid (∃ z, z = zs.getD j 0) := ⟨_, rfl⟩
        obtain ⟨z, hz⟩ := HZ.out
        have HZJ : Hid (z = zs.getD j 0) := hz
        rw [← hz] at HTK c0 hbd
        clear HZ hz
        have HER : Hid ((z < 0 ∨ 15 < z) → errS zs = 50 ∧ spcR zs = 0) := by
          intro h
          have e := errS_bad (zs := zs) (i := j) (by have := hn.out; omega) (by rw [← HZJ.out]; omega)
          exact ⟨e, by unfold spcR; rw [e, if_neg (by decide)]⟩
        by_cases hz0 : z < 0
        · go_wp2_with fail
          go_ret2
          exact ⟨by rw [(HER.out (.inl hz0)).1, (HER.out (.inl hz0)).2]; rfl, rfl⟩
        · by_cases hz15 : 15 < z
          · go_wp2_with fail
            go_ret2
            exact ⟨by rw [(HER.out (.inr hz15)).1, (HER.out (.inr hz15)).2]; rfl, rfl⟩
          · have HOK2 : Hid (∀ i, i < j + 1 → 0 ≤ zs.getD i 0 ∧ zs.getD i 0 ≤ 15) := fun i hi => by
              by_cases e : i = j
              · subst e; rw [← HZJ.out]; omega
              · exact HOK.out i (by omega)
            have HSN : Hid (spc (zs.take (j + 1)) = spc (zs.take j) + (if z = 0 then 0 else 2 ^ (15 - z.toNat))) := by
              show _ = _
              rw [HTK.out, spc_snoc _ (by omega)]
            have hsb : spc (zs.take (j + 1)) ≤ 10000000 := Nat.le_trans (spc_take (by have := hn.out; omega) (LOk.take_of HOK2.out)) (by decide)
            have HX : Hid (∃ x, x = spc (zs.take (j + 1))) := ⟨_, rfl⟩
            obtain ⟨x, hx⟩ := HX.out
            have HXX : Hid (x = spc (zs.take (j + 1))) := hx
            rw [← hx] at HSN hsb
            clear hx HX
            generalize spc (zs.take j) = s at *
            by_cases hz00 : z = 0
            · subst hz00
              have e : Hid (x = s) := by show _ = _; have := HSN.out; simpa using this
              go_wp2_with fail
              go_roundw
              case rel => exact ⟨j + 1, by omega, by rw [← HXX.out, e.out], by go_num, trivial, HOK2⟩
              case measure => simp [intOf]; omega
            · obtain ⟨q, hq⟩ : ∃ q : Nat, q = 15 - z.toNat := ⟨_, rfl⟩
              have rq : 15 - z = (q : Int) := by omega
              have HSN2 : Hid (x = s + 2 ^ q) := by have := HSN.out; rw [if_neg hz00, ← hq] at this; exact this
              have hp : 2 ^ q ≤ 2 ^ 15 := Nat.pow_le_pow_right (by decide) (by omega)
              obtain ⟨p, hp2⟩ : ∃ p, p = 2 ^ q := ⟨_, rfl⟩
              have HP : Hid (p = 2 ^ q) := hp2
              rw [← hp2] at hp
              have hw : RowKit.wrap64 ((2 : Int) ^ q) = (p : Int) := by
                have e : ((2 : Int) ^ q) = (p : Int) := by rw [HP.out]; exact (Int.natCast_pow 2 q).symm
                rw [e, ← IntWalk.i64_left]
                exact IntWalk.i64_in _ (by omega)
              have hxe : (s : Int) + (p : Int) = (x : Int) := by have := HSN2.out; rw [← HP.out] at this; omega
              have hq15 : q ≤ 15 := by omega
              have hz1 : (0 : Int) < z := by omega
              clear hq hp2
              go_wp2_with fail
              go_roundw
              case rel => exact ⟨j + 1, by omega, by rw [← HXX.out], by go_num, trivial, HOK2⟩
              case measure => simp [intOf]; omega
      · obtain rfl : j = n := by omega
        have HALL : Hid (zs.take j = zs) := by show _ = _; exact List.take_of_length_le (by have := hn.out; omega)
        have HE : Hid (errS zs = 0 ∧ spcR zs = spc zs) := by
          have hL := LOk.take_of HOK.out
          rw [HALL.out] at hL
          have e := errS_ok (show ¬ 288 < zs.length by have := hn.out; omega) hL
          exact ⟨e, by unfold spcR; rw [if_pos e]⟩
        go_wp2_with fail
        go_ret2
        exact ⟨by rw [HE.out.1, HE.out.2, HALL.out]; rfl, rfl⟩

set_option maxRecDepth 100000 in
set_option maxHeartbeats 1000000 in
theorem rcheck_any (a : Option Addr) (zs : List Int) (n cap : Nat) (hn : Hid (zs.length = n)) (w : World) (hs : SegZ w a zs) (hl : n ≤ 9223372036854775807) :
    Calls Try.prog 16 #[.slice a n cap] w fun e w' => e = .returned (.int .i64 (errC zs)) ∧ w' = w := by
  have C := r5space_any a zs n cap hn w hs hl
  rcases errS_two zs with he | he
  · have HE : Hid (errS zs = 0) := he
    have HSP : Hid (spcR zs = spc zs) := by show _ = _; unfold spcR; rw [if_pos he]
    have HL := errS_zero he
    have HLK : Hid (LOk zs) := HL.2
    have hn288 : n ≤ 288 := by have := hn.out; have := HL.1; omega
    rw [he, HSP.out] at C
    have HEC : Hid (errC zs = errR zs) := by show _ = _; unfold errC; rw [if_pos he]
    have hsb : spc zs ≤ 10000000 := by
      have h1 := spc_tot zs
      have h2 := tot_le zs HL.2
      have h3 : tot zs * 16384 ≤ 288 * 16384 := Nat.mul_le_mul_right _ (by omega)
      exact Nat.le_trans h1 (Nat.le_trans h3 (by decide))
    have HRR : Hid (errR zs = if 32768 < spc zs then 51 else if spc zs = 32768 ∨ tot zs = 0 ∨ (tot zs = 1 ∧ spc zs = 16384) then 0 else 52) := by
      show _ = _
      unfold errR
      by_cases c : tot zs = 1
      · have e : (cC zs 1 = 1) = (spc zs = 16384) := propext (one_half c).symm
        simp only [e]
      · have e1 : (tot zs = 1 ∧ cC zs 1 = 1) = False := by simp [c]
        have e2 : (tot zs = 1 ∧ spc zs = 16384) = False := by simp [c]
        simp only [e1, e2]
    clear he HL
    go_enter Try.func16, Try.ntmps16
    go_wp2_with fail
    refine C.mono ?_
    rintro e w1 ⟨rfl, hw1⟩
    subst w1
    generalize spc zs = s at *
    by_cases h1 : 32768 < s
    · have h1i : (32768 : Int) < (s : Int) := by omega
      go_wp2_with fail
      go_ret
      exact ⟨by rw [HEC.out, HRR.out, if_pos h1]; rfl, rfl⟩
    · have h1i : ¬ (32768 : Int) < (s : Int) := by omega
      go_wp2_with fail
      go_loopw [5, 20] (fun tu tj wr => ∃ j : Nat, j ≤ n ∧ tu = .int .i64 (tot (zs.take j) : Int) ∧ tj = .int .i64 (j : Int) ∧ wr = w) (fun _ tj _ => n - (intOf tj).toNat)
      case atStart => exact ⟨0, by omega, by rw [List.take_zero, tot_nil]; rfl, rfl, rfl⟩
      case round =>
        obtain ⟨j, hj, rfl, rfl, hwr⟩ := hrel
        subst hwr
        by_cases hjn : j < n
        · have hji : (j : Int) < (n : Int) := by omega
          obtain ⟨b, off, rfl, c0⟩ := hs.at_ j (by have := hn.out; omega)
          have HTK : Hid (zs.take (j + 1) = zs.take j ++ [zs.getD j 0]) := take_snocZ (by have := hn.out; omega)
          have HZB : Hid (0 ≤ zs.getD j 0 ∧ zs.getD j 0 ≤ 15) := HLK.out.get j
          have HTS : Hid (tot (zs.take (j + 1)) = tot (zs.take j) + (if zs.getD j 0 = 0 then 0 else 1)) := by
            show _ = _
            rw [HTK.out, tot_snoc _ HZB.out]
          have htb : tot (zs.take j) ≤ 288 := by
            have h1 := tot_le (zs.take j) (LOk.take_of (fun i _ => HLK.out.get i))
            simp at h1
            omega
          have HX : Hid (∃ x, x = tot (zs.take (j + 1))) := ⟨_, rfl⟩
          obtain ⟨x, hx⟩ := HX.out
          have HXX : Hid (x = tot (zs.take (j + 1))) := hx
          rw [← hx] at HTS
          clear hx HX
          generalize tot (zs.take j) = u at *
          generalize zs.getD j 0 = z at *
          by_cases hz0 : z = 0
          · subst hz0
            have e : Hid (x = u) := by show _ = _; have := HTS.out; simpa using this
            go_wp2_with fail
            go_roundw
            case rel => exact ⟨j + 1, by omega, by rw [← HXX.out, e.out], by go_num, trivial⟩
            case measure => simp [intOf]; omega
          · have hz1 : (0 : Int) < z := by have := HZB.out; omega
            have e : Hid (x = u + 1) := by show _ = _; have := HTS.out; rw [if_neg hz0] at this; exact this
            go_wp2_with fail
            go_roundw
            case rel => exact ⟨j + 1, by omega, by rw [← HXX.out, e.out]; go_num, by go_num, trivial⟩
            case measure => simp [intOf]; omega
        · obtain rfl : j = n := by omega
          have HALL : Hid (zs.take j = zs) := by show _ = _; exact List.take_of_length_le (by have := hn.out; omega)
          rw [HALL.out]
          have htb : tot zs ≤ 288 := Nat.le_trans (tot_le zs HLK.out) (by have := hn.out; omega)
          generalize tot zs = u at *
          by_cases c1 : s = 32768
          · subst c1
            have hf : Hid (errC zs = 0) := by show _ = _; rw [HEC.out, HRR.out, if_neg h1, if_pos (.inl rfl)]
            clear HRR
            go_wp2_with fail
            go_ret
            exact ⟨by rw [hf.out]; rfl, rfl⟩
          · have c1i : ¬ (s : Int) = 32768 := by omega
            by_cases c2 : u = 0
            · subst c2
              have hf : Hid (errC zs = 0) := by show _ = _; rw [HEC.out, HRR.out, if_neg h1, if_pos (.inr (.inl rfl))]
              clear HRR
              go_wp2_with fail
              go_ret
              exact ⟨by rw [hf.out]; rfl, rfl⟩
            · have c2i : ¬ (u : Int) = 0 := by omega
              by_cases c3 : u = 1
              · subst c3
                by_cases c4 : s = 16384
                · subst c4
                  have hf : Hid (errC zs = 0) := by show _ = _; rw [HEC.out, HRR.out, if_neg h1, if_pos (.inr (.inr ⟨rfl, rfl⟩))]
                  clear HRR
                  go_wp2_with fail
                  go_ret
                  exact ⟨by rw [hf.out]; rfl, rfl⟩
                · have c4i : ¬ (s : Int) = 16384 := by omega
                  have hf : Hid (errC zs = 52) := by show _ = _; rw [HEC.out, HRR.out, if_neg h1, if_neg (by omega)]
                  have c4b : ((s : Int) == 16384) = false := by simp; omega
                  have c1b : ((s : Int) == 32768) = false := by simp; omega
                  clear HRR
                  go_wp2_with fail
                  go_ret
                  exact ⟨by rw [hf.out]; rfl, rfl⟩
              · have c3i : ¬ (u : Int) = 1 := by omega
                have hf : Hid (errC zs = 52) := by show _ = _; rw [HEC.out, HRR.out, if_neg h1, if_neg (by omega)]
                have c3b : ((u : Int) == 1) = false := by simp; omega
                have c2b : ((u : Int) == 0) = false := by simp; omega
                have c1b : ((s : Int) == 32768) = false := by simp; omega
                clear HRR
                go_wp2_with fail
                go_ret
                exact ⟨by rw [hf.out]; rfl, rfl⟩
  · have HE : Hid (errS zs = 50 ∧ errC zs = 50) := ⟨he, by unfold errC; rw [he, if_neg (by decide)]⟩
    rw [he] at C
    clear he
    go_enter Try.func16, Try.ntmps16
    go_wp2_with fail
    refine C.mono ?_
    rintro e w1 ⟨rfl, hw1⟩
    subst w1
    go_wp2_with fail
    go_ret
    exact ⟨by rw [HE.out.2]; rfl, rfl⟩
end Go.Proofs.Ytkjccbihdinlkaa
