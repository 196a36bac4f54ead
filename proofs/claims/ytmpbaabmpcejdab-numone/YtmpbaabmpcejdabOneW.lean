import Derived.Test.YtmpbaabmpcejdabProg
import Derived.Test.YtmpbaabmpcejdabOneMath
import Derived.Test.YtmpbaabmpcejdabLives
import Derived.Test.YtmpbaabmpcejdabSame
import Derived.Deep.RegionHeld3
namespace Go.Proofs.Ytmpbaabmpcejdab
open Go.RowKit
set_option linter.unusedVariables false

theorem same_at (a b : Option Addr) (xs ys : List Int) (n ca cb : Nat) (w : World) (hx : Seg w a xs) (hy : Seg w b ys) (hn : ys.length = n) :
    Calls Try.prog 16 #[.slice a xs.length ca, .slice b n cb] w fun e w' => e = .returned (.bool (xs == ys)) ∧ w' = w := by
  subst hn
  exact same_any a b xs ys ca cb w hx hy

set_option maxRecDepth 100000 in
set_option maxHeartbeats 4000000 in
theorem one_bad (w : World) (a : Option Addr) (zs : List Int) (cap : Nat) (hs : Seg w a zs) (hcap : zs.length ≤ cap) (hl : zs.length ≤ 140737488351232) (u v : Int) (hu0 : 0 ≤ u) (hu1 : u ≤ 18446744073709551615) (hv0 : 0 ≤ v) (hv1 : v ≤ 18446744073709551615)
    (E : Int) (hD : decL 0 0 zs = (0, 0, E)) (hE : E ≠ 0) :
    Calls Try.prog 5 #[.slice a zs.length cap, .int .u64 u, .int .u64 v] w fun e w' => e = .returned (.bool true) ∧ Below w.heap.size w w' := by
  have hE0 : (E == 0) = false := by simp [hE]
  have HDec := decode_any a zs cap w hs (by omega)
  rw [hD] at HDec
  have HD : Hid (decL 0 0 zs = (0, 0, E)) := hD
  have HC : Hid (Calls Try.prog 11 #[.slice a zs.length cap] w fun e w' => e = .returned (.tuple #[.int .u64 0, .int .i64 0, .int .i64 E]) ∧ Below w.heap.size w w') := HDec
  clear hD HDec
  go_enter Try.func5, Try.ntmps5
  go_wp2_with fail
  refine HC.out.mono ?_
  rintro e w1 ⟨rfl, hb1⟩
  have hs1 := hs.old hb1
  have hz1 := hb1.size
  clear HC
  go_wp2
  go_loopw [52] (fun i wr => ∃ (k : Nat) (q : Int), k ≤ zs.length ∧ i = .int .i64 k ∧ k ≤ 9 ∧ 0 ≤ q ∧ q < 128 ^ k ∧ TK wr w1.heap.size q k ∧ Below w1.heap.size w1 wr ∧ decL 0 0 zs = decL q k (zs.drop k)) (fun i _ => zs.length - (intOf i).toNat)
  case atStart => exact ⟨0, 0, Nat.zero_le _, rfl, by omega, by omega, by decide, heap_alloc_new w1 _, (Below.refl _ _).alloc (Nat.le_refl _) _, rfl⟩
  case round =>
    obtain ⟨k, q, hk, rfl, hk9, hq0, hq1, ht, hb, hd⟩ := hrel
    have hzr := hb.size
    have hbw : Below w.heap.size w wr := hb1.trans (hb.mono hz1)
    by_cases hlt : k < zs.length
    · have hlti : (k : Int) < (zs.length : Int) := by omega
      have hsr := hs1.old hb
      obtain ⟨b, off, rfl, hcell⟩ := hsr.at_ k hlt
      have hx := hs.bd k
      rw [drop_cons hlt] at hd
      generalize zs.getD k 0 = x at *
      by_cases he : tkErr k x = 0
      · by_cases h7 : x < 128
        · exfalso
          rw [hd] at HD
          have h0 : decL q k (x :: zs.drop (k + 1)) = (0, 0, E) := HD
          simp [decL, he, h7] at h0
          exact hE h0.2.2.symm
        · have HN : Hid (decL 0 0 zs = decL (tkVal q k x) (k + 1) (zs.drop (k + 1))) := by rw [hd]; show decL q k _ = _; simp [decL, he, h7]
          have hk8 := tk_more_le hk9 he (by omega)
          have hbd := tkVal_bd q k x hq0 hq1 (by omega)
          clear hd
          by_cases hlast : k + 1 = zs.length
          · have hE11 : E = 11 := by
              have h0 := HN.out
              rw [HD.out, List.drop_of_length_le (by omega)] at h0
              simp [decL] at h0
              exact h0
            have hti : ((k : Int) + 1 == (zs.length : Int)) = true := by simp; omega
            subst hE11
            go_wp2_with (go_at_call 7; refine (take_more _ q k x _ ht hq0 hq1 (by omega) (by omega) hk9 he).mono ?_; rintro e w2 ⟨rfl, ht2, hg2⟩)
            go_roundw
            case rel => exact ⟨k + 1, tkVal q k x, by omega, by go_num, by omega, hbd.1, hbd.2, ht2, hb.trans (below_of_grown hg2 (Nat.le_refl _) hb.size), HN.out⟩
            case measure => simp [intOf]; omega
          · have hti : ((k : Int) + 1 == (zs.length : Int)) = false := by simp; omega
            go_wp2_with (go_at_call 7; refine (take_more _ q k x _ ht hq0 hq1 (by omega) (by omega) hk9 he).mono ?_; rintro e w2 ⟨rfl, ht2, hg2⟩)
            go_roundw
            case rel => exact ⟨k + 1, tkVal q k x, by omega, by go_num, by omega, hbd.1, hbd.2, ht2, hb.trans (below_of_grown hg2 (Nat.le_refl _) hb.size), HN.out⟩
            case measure => simp [intOf]; omega
      · have hEe : E = tkErr k x := by
          have h0 := HD.out
          rw [hd] at h0
          simp [decL, he] at h0
          exact h0.symm
        have hne : (tkErr k x != 0) = true := by simp [he]
        subst hEe
        clear hd
        go_wp2_with (go_at_call 7; refine (take_bad _ q k x _ ht (by omega) (by omega) hk9 he).mono ?_; rintro e w2 ⟨rfl, ht2, hg2⟩; have hbw2 := hbw.trans ((below_of_grown hg2 (Nat.le_refl _) hb.size).mono hz1); have hz2 := hg2.size; clear ht2 hg2)
        go_wp2_with fail
        refine (encode_any _ [u] 1 _ ?_ (by simp)).mono ?_
        · exact seg64_one _ u hu0 hu1
        rintro e wx ⟨vx, rfl, hownx, hbx⟩
        rw [encA_one] at hownx
        obtain ⟨_, ax, cx, rfl, hsx, _, hcx, _⟩ := own_seg hownx (M := 255) (by decide) (encI_bd u hu0 hu1)
        have hzx := hbx.size
        clear hownx
        go_wp2_with fail
        refine (encode_any _ [v] 1 _ ?_ (by simp)).mono ?_
        · exact seg64_one _ v hv0 hv1
        rintro e wy ⟨vy, rfl, howny, hby⟩
        rw [encA_one] at howny
        obtain ⟨_, ay, cy, rfl, hsy, hby2, hcy, _⟩ := own_seg howny (M := 255) (by decide) (encI_bd v hv0 hv1)
        have hzy := hby.size
        have hsx2 := (hsx.alloc (.cells #[.int .u64 v] 23)).old hby
        clear howny hsx
        simp only [World.size_alloc] at hzx hzy
        have hfin : Below w.heap.size w wy := (hbw2.alloc (by omega) _).trans ((hbx.mono (by simp; omega)).trans (((Below.refl _ _).alloc (by omega) _).trans (hby.mono (by simp; omega))))
        have lu := (encI_len u).1
        have lv := (encI_len v).1
        have tu : (((encI u).length : Int) == 0) = false := by rw [beq_eq_false_iff_ne]; omega
        have tv : (((encI v).length : Int) == 0) = false := by rw [beq_eq_false_iff_ne]; omega
        by_cases huv : u = v
        · have tuv : (u == v) = true := by simp [huv]
          clear huv
          go_wp2
          go_ret
          exact ⟨rfl, hfin⟩
        · have tuv : (u == v) = false := by simp [huv]
          by_cases hll : (encI v).length < (encI u).length
          · have hlli : ((encI v).length : Int) < ((encI u).length : Int) := by omega
            clear huv
            go_wp2
            go_ret
            exact ⟨rfl, hfin⟩
          · have hlli : ((encI u).length : Int) ≤ ((encI v).length : Int) := by omega
            have hlcy : ((encI u).length : Int) ≤ (cy : Int) := by omega
            have hst := hsy.take (encI u).length
            have htl : ((encI v).take (encI u).length).length = (encI u).length := by simp; omega
            have hne : (encI u == (encI v).take (encI u).length) = false := by
              rw [beq_eq_false_iff_ne]
              intro h
              exact huv (enc_prefix u v hu0 hu1 hv0 hv1 h)
            obtain ⟨gy, oy, rfl, _⟩ := hsy.at_ 0 (by omega)
            clear huv hll
            go_wp2_with fail
            refine (same_at ax _ (encI u) ((encI v).take (encI u).length) _ cx _ _ hsx2 hst htl).mono ?_
            rintro e wz ⟨rfl, hwz⟩
            subst wz
            rw [hne]
            go_wp2
            go_ret
            exact ⟨rfl, hfin⟩
    · have hge : (zs.length : Int) ≤ (k : Int) := by omega
      clear hd ht
      go_wp2_with fail
      refine (encode_any _ [u] 1 _ ?_ (by simp)).mono ?_
      · exact seg64_one _ u hu0 hu1
      rintro e wx ⟨vx, rfl, hownx, hbx⟩
      rw [encA_one] at hownx
      obtain ⟨_, ax, cx, rfl, hsx, _, hcx, _⟩ := own_seg hownx (M := 255) (by decide) (encI_bd u hu0 hu1)
      have hzx := hbx.size
      clear hownx
      go_wp2_with fail
      refine (encode_any _ [v] 1 _ ?_ (by simp)).mono ?_
      · exact seg64_one _ v hv0 hv1
      rintro e wy ⟨vy, rfl, howny, hby⟩
      rw [encA_one] at howny
      obtain ⟨_, ay, cy, rfl, hsy, hby2, hcy, _⟩ := own_seg howny (M := 255) (by decide) (encI_bd v hv0 hv1)
      have hzy := hby.size
      have hsx2 := (hsx.alloc (.cells #[.int .u64 v] 23)).old hby
      clear howny hsx
      simp only [World.size_alloc] at hzx hzy
      have hfin : Below w.heap.size w wy := (hbw.alloc (by omega) _).trans ((hbx.mono (by simp; omega)).trans (((Below.refl _ _).alloc (by omega) _).trans (hby.mono (by simp; omega))))
      have lu := (encI_len u).1
      have lv := (encI_len v).1
      have tu : (((encI u).length : Int) == 0) = false := by rw [beq_eq_false_iff_ne]; omega
      have tv : (((encI v).length : Int) == 0) = false := by rw [beq_eq_false_iff_ne]; omega
      by_cases huv : u = v
      · have tuv : (u == v) = true := by simp [huv]
        clear huv
        go_wp2
        go_ret
        exact ⟨rfl, hfin⟩
      · have tuv : (u == v) = false := by simp [huv]
        by_cases hll : (encI v).length < (encI u).length
        · have hlli : ((encI v).length : Int) < ((encI u).length : Int) := by omega
          clear huv
          go_wp2
          go_ret
          exact ⟨rfl, hfin⟩
        · have hlli : ((encI u).length : Int) ≤ ((encI v).length : Int) := by omega
          have hlcy : ((encI u).length : Int) ≤ (cy : Int) := by omega
          have hst := hsy.take (encI u).length
          have htl : ((encI v).take (encI u).length).length = (encI u).length := by simp; omega
          have hne : (encI u == (encI v).take (encI u).length) = false := by
            rw [beq_eq_false_iff_ne]
            intro h
            exact huv (enc_prefix u v hu0 hu1 hv0 hv1 h)
          obtain ⟨gy, oy, rfl, _⟩ := hsy.at_ 0 (by omega)
          clear huv hll
          go_wp2_with fail
          refine (same_at ax _ (encI u) ((encI v).take (encI u).length) _ cx _ _ hsx2 hst htl).mono ?_
          rintro e wz ⟨rfl, hwz⟩
          subst wz
          rw [hne]
          go_wp2
          go_ret
          exact ⟨rfl, hfin⟩

set_option maxRecDepth 100000 in
set_option maxHeartbeats 4000000 in
theorem one_good (w : World) (a : Option Addr) (zs : List Int) (cap : Nat) (hs : Seg w a zs) (hcap : zs.length ≤ cap) (hl : zs.length ≤ 140737488351232) (u v : Int) (hu0 : 0 ≤ u) (hu1 : u ≤ 18446744073709551615) (hv0 : 0 ≤ v) (hv1 : v ≤ 18446744073709551615)
    (W : Int) (m : Nat) (hD : decL 0 0 zs = (W, (m : Int), 0)) (hm1 : 1 ≤ m) (hml : m ≤ zs.length) (hW0 : 0 ≤ W) (hW1 : W ≤ 18446744073709551615) (hW : zs.take m = encI W) :
    Calls Try.prog 5 #[.slice a zs.length cap, .int .u64 u, .int .u64 v] w fun e w' => e = .returned (.bool true) ∧ Below w.heap.size w w' := by
  have HDec := decode_any a zs cap w hs (by omega)
  rw [hD] at HDec
  have HD : Hid (decL 0 0 zs = (W, (m : Int), 0)) := hD
  have HC : Hid (Calls Try.prog 11 #[.slice a zs.length cap] w fun e w' => e = .returned (.tuple #[.int .u64 W, .int .i64 m, .int .i64 0]) ∧ Below w.heap.size w w') := HDec
  have HW : Hid (zs.take m = encI W) := hW
  clear hD HDec hW
  obtain ⟨b, off, rfl, _⟩ := hs.at_ 0 (by omega)
  have t1 : decide ((m : Int) < 1) = false := by simp; omega
  have t2 : decide (zs.length < m) = false := by simp; omega
  have t3 : (encA [W] == zs.take m) = true := by rw [HW.out, encA_one]; simp
  have hmc : (m : Int) ≤ (cap : Int) := by omega
  have htm : (zs.take m).length = m := by simp; omega
  have HTM : Hid ((zs.take m).length = m) := htm
  clear htm
  go_enter Try.func5, Try.ntmps5
  go_wp2_with fail
  refine HC.out.mono ?_
  rintro e w1 ⟨rfl, hb1⟩
  have hs1 := hs.old hb1
  have hz1 := hb1.size
  clear HC
  go_wp2
  have hm0 : (0 : Int) ≤ (m : Int) := by omega
  go_region_held3 (fun _ => True) (trivial)
    (first | (go_at_call 10; refine (encode_any _ [W] 1 _ ?_ (by simp)).mono ?_; exact (seg64_one w1 W hW0 hW1).drew; rintro e w2 ⟨v2, rfl, hown2, hb2⟩; obtain ⟨_, a2, c2, rfl, hsg2, _, hc2, _⟩ := own_seg hown2 (M := 255) (by decide) (encA_bd _ (by intro z hz; simp at hz; subst hz; exact ⟨hW0, hW1⟩))) | (go_at_call 16; refine (same_at _ _ _ (zs.take m) _ _ _ _ hsg2 ?_ HTM.out).mono ?_; exact ((hs1.alloc _).drew.old hb2).take m; rintro e w3 ⟨rfl, hw3⟩; subst w3))
  have hz2 := hb2.size
  have hz2' : w1.heap.size + 1 ≤ w2.heap.size := by simpa using hz2
  have hb12 : Below w1.heap.size w1 w2 := ((Below.refl _ _).alloc (Nat.le_refl _) _).drew.trans (hb2.mono (by simp))
  have hs2 := hs1.old hb12
  have hbw2 : Below w.heap.size w w2 := hb1.trans (hb12.mono hz1)
  clear hsg2 hown2 hb2 hb12 hz2 hs1 t1 t2 t3 hmc hm0
  go_wp2
  go_loopw [52] (fun i wr => ∃ (k : Nat) (q : Int), k ≤ zs.length ∧ i = .int .i64 k ∧ k ≤ 9 ∧ 0 ≤ q ∧ q < 128 ^ k ∧ TK wr w2.heap.size q k ∧ Below w2.heap.size w2 wr ∧ decL 0 0 zs = decL q k (zs.drop k)) (fun i _ => zs.length - (intOf i).toNat)
  case atStart => exact ⟨0, 0, Nat.zero_le _, rfl, by omega, by omega, by decide, heap_alloc_new w2 _, (Below.refl _ _).alloc (Nat.le_refl _) _, rfl⟩
  case round =>
    obtain ⟨k, q, hk, rfl, hk9, hq0, hq1, ht, hb, hd⟩ := hrel
    have hzr := hb.size
    have hzw := hbw2.size
    have hbw : Below w.heap.size w wr := hbw2.trans (hb.mono hzw)
    by_cases hlt : k < zs.length
    · have hlti : (k : Int) < (zs.length : Int) := by omega
      have hsr := hs2.old hb
      obtain ⟨b', off', hbo, hcell⟩ := hsr.at_ k hlt
      cases hbo
      have hx := hs.bd k
      rw [drop_cons hlt] at hd
      generalize zs.getD k 0 = x at *
      by_cases he : tkErr k x = 0
      · by_cases h7 : x < 128
        · have h0 := HD.out
          rw [hd] at h0
          simp [decL, he, h7] at h0
          obtain ⟨hWt, hmk⟩ := h0
          obtain rfl : m = k + 1 := by omega
          subst hWt
          clear hd hmk
          go_wp2_with (go_at_call 7; refine (take_ends _ q k x _ ht hq0 hq1 (by omega) (by omega) hk9 he).mono ?_; rintro e w3 ⟨rfl, ht3, hg3⟩; have hbw3 := hbw.trans ((below_of_grown hg3 (Nat.le_refl _) hb.size).mono hzw); have hz3 := hg3.size; clear ht3 hg3)
          go_wp2_with fail
          refine (encode_any _ [u] 1 _ ?_ (by simp)).mono ?_
          · exact seg64_one _ u hu0 hu1
          rintro e wx ⟨vx, rfl, hownx, hbx⟩
          rw [encA_one] at hownx
          obtain ⟨_, ax, cx, rfl, hsx, _, hcx, _⟩ := own_seg hownx (M := 255) (by decide) (encI_bd u hu0 hu1)
          have hzx := hbx.size
          clear hownx
          go_wp2_with fail
          refine (encode_any _ [v] 1 _ ?_ (by simp)).mono ?_
          · exact seg64_one _ v hv0 hv1
          rintro e wy ⟨vy, rfl, howny, hby⟩
          rw [encA_one] at howny
          obtain ⟨_, ay, cy, rfl, hsy, hby2, hcy, _⟩ := own_seg howny (M := 255) (by decide) (encI_bd v hv0 hv1)
          have hzy := hby.size
          have hsx2 := (hsx.alloc (.cells #[.int .u64 v] 23)).old hby
          clear howny hsx
          simp only [World.size_alloc] at hzx hzy
          have hfin : Below w.heap.size w wy := (hbw3.alloc (by omega) _).trans ((hbx.mono (by simp; omega)).trans (((Below.refl _ _).alloc (by omega) _).trans (hby.mono (by simp; omega))))
          have lu := (encI_len u).1
          have lv := (encI_len v).1
          have tu : (((encI u).length : Int) == 0) = false := by rw [beq_eq_false_iff_ne]; omega
          have tv : (((encI v).length : Int) == 0) = false := by rw [beq_eq_false_iff_ne]; omega
          by_cases huv : u = v
          · have tuv : (u == v) = true := by simp [huv]
            clear huv
            go_wp2
            go_ret
            exact ⟨rfl, hfin⟩
          · have tuv : (u == v) = false := by simp [huv]
            by_cases hll : (encI v).length < (encI u).length
            · have hlli : ((encI v).length : Int) < ((encI u).length : Int) := by omega
              clear huv
              go_wp2
              go_ret
              exact ⟨rfl, hfin⟩
            · have hlli : ((encI u).length : Int) ≤ ((encI v).length : Int) := by omega
              have hlcy : ((encI u).length : Int) ≤ (cy : Int) := by omega
              have hst := hsy.take (encI u).length
              have htl : ((encI v).take (encI u).length).length = (encI u).length := by simp; omega
              have hne : (encI u == (encI v).take (encI u).length) = false := by
                rw [beq_eq_false_iff_ne]
                intro h
                exact huv (enc_prefix u v hu0 hu1 hv0 hv1 h)
              obtain ⟨gy, oy, rfl, _⟩ := hsy.at_ 0 (by omega)
              clear huv hll
              go_wp2_with fail
              refine (same_at ax _ (encI u) ((encI v).take (encI u).length) _ cx _ _ hsx2 hst htl).mono ?_
              rintro e wz ⟨rfl, hwz⟩
              subst wz
              rw [hne]
              go_wp2
              go_ret
              exact ⟨rfl, hfin⟩
        · have HN : Hid (decL 0 0 zs = decL (tkVal q k x) (k + 1) (zs.drop (k + 1))) := by rw [hd]; show decL q k _ = _; simp [decL, he, h7]
          have hk8 := tk_more_le hk9 he (by omega)
          have hbd := tkVal_bd q k x hq0 hq1 (by omega)
          clear hd
          have hlast : k + 1 ≠ zs.length := by
            intro e
            have h0 := HN.out
            rw [HD.out, List.drop_of_length_le (by omega)] at h0
            simp [decL] at h0
          have hti : ((k : Int) + 1 == (zs.length : Int)) = false := by simp; omega
          go_wp2_with (go_at_call 7; refine (take_more _ q k x _ ht hq0 hq1 (by omega) (by omega) hk9 he).mono ?_; rintro e w3 ⟨rfl, ht3, hg3⟩)
          go_roundw
          case rel => exact ⟨k + 1, tkVal q k x, by omega, by go_num, by omega, hbd.1, hbd.2, ht3, hb.trans (below_of_grown hg3 (Nat.le_refl _) hb.size), HN.out⟩
          case measure => simp [intOf]; omega
      · exfalso
        have h0 := HD.out
        rw [hd] at h0
        simp [decL, he] at h0
    · exfalso
      have h0 := HD.out
      rw [hd, List.drop_of_length_le (by omega)] at h0
      simp [decL] at h0

theorem numOne_walk (w : World) (a : Option Addr) (zs : List Int) (cap : Nat) (hs : Seg w a zs) (hcap : zs.length ≤ cap) (hnil : a = none → cap = 0) (hl : zs.length ≤ 140737488351232) (u : Int) (hu0 : 0 ≤ u) (hu1 : u ≤ 18446744073709551615) (v : Int) (hv0 : 0 ≤ v) (hv1 : v ≤ 18446744073709551615) :
    Calls Try.prog 5 #[.slice a zs.length cap, .int .u64 u, .int .u64 v] w fun e w' => e = .returned (.bool true) ∧ Below w.heap.size w w' := by
  obtain ⟨W, N, E, hD⟩ : ∃ W N E, decL 0 0 zs = (W, N, E) := ⟨_, _, _, rfl⟩
  by_cases h : E = 0
  · subst h
    obtain ⟨m, h1, h2, rfl, h4, h5, h6⟩ := decI_ok zs W N hs.mem hD
    exact one_good w a zs cap hs hcap hl u v hu0 hu1 hv0 hv1 W m hD h1 h2 h4 h5 h6
  · have hb := dec_bad zs 0 0 (by rw [hD]; exact h)
    rw [hD] at hb
    obtain ⟨rfl, rfl⟩ : W = 0 ∧ N = 0 := hb
    exact one_bad w a zs cap hs hcap hl u v hu0 hu1 hv0 hv1 E hD h
end Go.Proofs.Ytmpbaabmpcejdab
