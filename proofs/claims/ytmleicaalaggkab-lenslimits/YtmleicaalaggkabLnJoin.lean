import Derived.Test.YtmleicaalaggkabLnHp3
import Derived.Test.YtmleicaalaggkabLnHuf
namespace Go.Proofs.Ytmleicaalaggkab
open Go.RowKit
set_option linter.unusedVariables false

def toI (W : List Nat) : List Int := W.map Int.ofNat
theorem toI_mem {W : List Nat} {z : Int} (h : z ∈ toI W) : ∃ n ∈ W, z = (n : Int) := by
  unfold toI at h
  obtain ⟨n, hn, rfl⟩ := List.mem_map.1 h
  exact ⟨n, hn, rfl⟩
/-- The least of a heap is the first of the sorted list. -/
theorem pop_min {zk zs' : List Int} {x : Nat} {t : List Nat} {m : Int} (hp : zk.Perm (toI (x :: t))) (hs : (x :: t).Pairwise (· ≤ ·)) (h1 : (m :: zs').Perm zk) (h2 : ∀ z ∈ zk, m ≤ z) : m = (x : Int) ∧ zs'.Perm (toI t) := by
  have hx : (x : Int) ∈ zk := hp.mem_iff.2 (by simp [toI])
  have h3 := h2 _ hx
  have hm : m ∈ toI (x :: t) := hp.mem_iff.1 (h1.mem_iff.1 (by simp))
  obtain ⟨n, hn, rfl⟩ := toI_mem hm
  have h4 : x ≤ n := by
    rcases List.mem_cons.1 hn with rfl | hn
    · exact Nat.le_refl _
    · exact (List.pairwise_cons.1 hs).1 n hn
  have e : n = x := by omega
  subst e
  refine ⟨rfl, ?_⟩
  have := h1.trans hp
  unfold toI at this ⊢
  rw [List.map_cons] at this
  exact List.Perm.cons_inv this
theorem huf_le : ∀ (k : Nat) (W : List Nat), huf k W ≤ k * W.sum
  | 0, W => by simp [huf]
  | k + 1, [] => by simp [huf]
  | k + 1, [x] => by simp [huf]
  | k + 1, x :: y :: r => by
    have h := huf_le k (ins (x + y) r)
    have h2 : (ins (x + y) r).sum = x + y + r.sum := by rw [(ins_perm (x + y) r).sum_nat, List.sum_cons]
    unfold huf
    rw [h2] at h
    simp only [List.sum_cons]
    have : k * (x + y + r.sum) = k * (x + (y + r.sum)) := by rw [Nat.add_assoc]
    rw [Nat.succ_mul]
    omega
theorem ins_len (x : Nat) (l : List Nat) : (ins x l).length = l.length + 1 := by
  rw [(ins_perm x l).length_eq]; rfl

theorem joined_nil (p cap : Nat) (a : Option Addr) (w : World) (h : Pile w p a cap []) :
    Calls Try.prog 18 #[.iface 46 (.pointer (some ⟨p, 0, none⟩))] w fun e w' => e = .returned (.int .i64 0) ∧ w' = w := by
  go_enter Try.func18, Try.ntmps18
  go_wp2_with fail
  refine (init_nil p cap a _ h).mono ?_
  rintro e w' ⟨rfl, hw'⟩
  subst w'
  go_wp2_with fail
  go_loopw [3] (fun tt wr => tt = .int .i64 0 ∧ wr = w) (fun _ _ => 0)
  case atStart => exact ⟨rfl, rfl⟩
  case round =>
    obtain ⟨rfl, rfl⟩ := hrel
    go_wp2_with fail
    rw [h.m m_len]
    go_wp2_with fail
    refine (plen_any _ _ _ _).mono ?_
    rintro e w' ⟨rfl, hw'⟩
    subst w'
    go_wp2
    go_ret
    exact ⟨rfl, rfl⟩

set_option maxHeartbeats 2000000 in
theorem joined_any (p g cap N : Nat) (zs : List Int) (W : List Nat) (hzs : Hid (zs.length = N)) (hN : N ≤ 300) (w : World) (h : Pile w p (some ⟨g, 0, none⟩) cap zs)
    (hW : zs.Perm (toI W)) (hs : W.Pairwise (· ≤ ·)) (hpos : ∀ x ∈ W, 0 < x) (hS : W.sum ≤ 1125899906842624) :
    Calls Try.prog 18 #[.iface 46 (.pointer (some ⟨p, 0, none⟩))] w fun e w' => e = .returned (.int .i64 (huf N W : Nat)) ∧ Below p w w' := by
  have hWN : W.length = N := by have := hW.length_eq; rw [hzs.out] at this; simp [toI] at this; omega
  obtain ⟨T, hT⟩ : ∃ T, T = huf N W := ⟨_, rfl⟩
  obtain ⟨S, hS'⟩ : ∃ S, S = W.sum := ⟨_, rfl⟩
  have hTb : T ≤ 337769972052787200 := by
    have := huf_le N W
    rw [← hT] at this
    exact Nat.le_trans this (Nat.mul_le_mul hN hS)
  rw [← hS'] at hS
  go_enter Try.func18, Try.ntmps18
  go_wp2_with fail
  refine (init_any p g cap N zs hzs (by omega) _ h).mono ?_
  rintro e w1 ⟨rfl, z1, L1, P1, B1, pm1, hp1⟩
  have HT : Hid (T = huf N W) := hT
  have HSu : Hid (S = W.sum) := hS'
  have HW1 : Hid (z1.Perm (toI W)) := pm1.trans hW
  clear hT hS' hW pm1
  go_wp2_with fail
  go_loopw [3] (fun tt wr => ∃ (K tot g cap : Nat) (zk : List Int) (V : List Nat), K ≤ N ∧ tt = .int .i64 (tot : Int) ∧ Hid (zk.length = K) ∧ Pile wr p (some ⟨g, 0, none⟩) cap zk ∧ Below p w wr ∧ Hid (hp (fun k => zk.getD k 0) K 0) ∧ Hid (zk.Perm (toI V)) ∧ Hid (V.Pairwise (· ≤ ·) ∧ (∀ x ∈ V, 0 < x) ∧ V.length = K ∧ V.sum = S ∧ tot + huf K V = T)) (fun tt _ => T - (intOf tt).toNat)
  case atStart => exact ⟨N, 0, g, cap, z1, W, Nat.le_refl _, rfl, L1, P1, B1, hp1, HW1.out, (⟨hs, hpos, hWN, HSu.out.symm, by rw [HT.out]; omega⟩ : _ ∧ _)⟩
  case round =>
    obtain ⟨K, tot, gk, ck, zk, V, hKN, rfl, LK, PK, BK, HD, HP, HV⟩ := hrel
    go_wp2_with fail
    rw [PK.m m_len]
    rw [LK.out]
    go_wp2_with fail
    refine (plen_any _ _ _ _).mono ?_
    rintro e w' ⟨rfl, hw'⟩
    subst w'
    by_cases hK : 2 ≤ K
    · have hKi : (1 : Int) < (K : Int) := by omega
      obtain ⟨x, y, r, rfl⟩ : ∃ x y r, V = x :: y :: r := by
        have := HV.out.2.2.1
        match V, this with
        | [], h => simp at h; omega
        | [x], h => simp at h; omega
        | x :: y :: r, _ => exact ⟨x, y, r, rfl⟩
      obtain ⟨k, rfl⟩ : ∃ k, K = k + 2 := ⟨K - 2, by omega⟩
      have hck : k + 2 ≤ ck := by
        have := PK.own
        rw [LK.out] at this
        rcases this.2 with ⟨h1, _⟩ | ⟨g', cap', cur, hv, _, _, h3, _⟩
        · cases h1
        · simp only [Value.slice.injEq] at hv
          omega
      have hV := HV.out
      have hxy : x + y ≤ S ∧ 0 < x ∧ tot + x + y + huf (k + 1) (ins (x + y) r) = T := by
        obtain ⟨_, v2, _, v4, v5⟩ := hV
        have := v2 x (by simp)
        simp only [List.sum_cons] at v4
        simp only [huf] at v5
        exact ⟨by omega, this, by omega⟩
      have HV2 : Hid ((ins (x + y) r).Pairwise (· ≤ ·) ∧ (∀ z ∈ ins (x + y) r, 0 < z) ∧ (ins (x + y) r).length = k + 1 ∧ (ins (x + y) r).sum = S ∧ (tot + x + y) + huf (k + 1) (ins (x + y) r) = T) := by
        obtain ⟨v1, v2, v3, v4, v5⟩ := hV
        have p1 := List.pairwise_cons.1 v1
        have p2 := List.pairwise_cons.1 p1.2
        refine ⟨ins_sorted _ _ p2.2, ?_, by rw [ins_len]; simp at v3; omega, by rw [(ins_perm (x + y) r).sum_nat, List.sum_cons]; simp only [List.sum_cons] at v4; omega, hxy.2.2⟩
        intro z hz
        rcases List.mem_cons.1 ((ins_perm (x + y) r).mem_iff.1 hz) with rfl | hz
        · omega
        · exact v2 z (by simp [hz])
      have HI : Hid ((toI (ins (x + y) r)).Perm (((x + y : Nat) : Int) :: toI r)) := (ins_perm (x + y) r).map _
      have CL := least_any p gk ck (k + 1) zk LK (by omega) (by omega) wr PK HD.out
      obtain ⟨hxyS, hx0, hxyT⟩ := hxy
      clear hV
      go_wp2_with fail
      refine CL.mono ?_
      rintro e w2 ⟨m1, z2, rfl, L2, P2, B2, pm2, le2, hp2⟩
      obtain ⟨e1, q2⟩ := pop_min HP.out HV.out.1 pm2 le2
      subst e1
      have CL2 := least_any p gk ck k z2 L2 (by omega) (by omega) w2 P2 hp2
      clear CL pm2 le2 hp2
      go_wp2_with fail
      refine CL2.mono ?_
      rintro e w3 ⟨m2, z3, rfl, L3, P3, B3, pm3, le3, hp3⟩
      obtain ⟨e2, q3⟩ := pop_min q2 (List.pairwise_cons.1 HV.out.1).2 pm3 le3
      subst e2
      obtain ⟨s, hs⟩ : ∃ s, s = x + y := ⟨_, rfl⟩
      have es : (x : Int) + (y : Int) = (s : Int) := by omega
      have HS : Hid (s = x + y) := hs
      have hsS : s ≤ S := by omega
      have hsT : tot + s ≤ T := by omega
      have hs0 : 0 < s := by omega
      have hsb : (0 : Int) ≤ (s : Int) ∧ (s : Int) ≤ 4611686018427387904 := by omega
      have CP := hpush_any p ck k (some ⟨gk, 0, none⟩) (s : Int) z3 L3 (by omega) w3 P3 hsb hp3
      clear hs hxyS hx0 hxyT CL2 pm3 le3 hp3 q2
      have hb4 : (tot : Int) + (s : Int) ≤ 9223372036854775807 := by omega
      go_wp2_with fail
      refine CP.mono ?_
      rintro e w4 ⟨rfl, g4, c4, z4, L4, P4, B4, pm4, hp4⟩
      have HPM : Hid (z4.Perm (toI (ins (x + y) r))) := by
        have e1 := HS.out
        have h1 := HI.out
        rw [← e1] at h1 ⊢
        exact pm4.trans ((q3.cons _).trans h1.symm)
      clear pm4
      go_wp2
      go_roundw
      case rel => exact ⟨k + 1, tot + s, g4, c4, z4, ins (x + y) r, by omega, by go_num, L4, P4, BK.trans (B2.trans (B3.trans B4)), hp4, HPM.out, (by have h := HV2.out; have e := HS.out; exact ⟨h.1, h.2.1, h.2.2.1, h.2.2.2.1, by have := h.2.2.2.2; omega⟩ : _ ∧ _)⟩
      case measure => simp [intOf]; omega
    · have hKi : ¬ (1 : Int) < (K : Int) := by omega
      go_wp2
      go_ret
      refine ⟨?_, BK⟩
      have : huf K V = 0 := by
        have h3 := HV.out.2.2.1
        match V, h3 with
        | [], h => cases K <;> rfl
        | [x], h => cases K <;> rfl
        | x :: y :: r, h => simp at h; omega
      have h5 := HV.out.2.2.2.2
      have : tot = huf N W := by rw [← HT.out]; omega
      rw [this]
      rfl
end Go.Proofs.Ytmleicaalaggkab
