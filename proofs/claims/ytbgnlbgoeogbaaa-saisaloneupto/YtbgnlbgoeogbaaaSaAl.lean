
import Derived.Test.YtbgnlbgoeogbaaaSaOr
namespace Go.Proofs.Ytbgnlbgoeogbaaa
open Go.RowKit
set_option linter.unusedVariables false

/-! SaisAlone. -/
theorem alone12 {n : Nat} {S S' : Nat → Int} (h : ∀ i j, i < n → j < n → (S i < S j → S' i < S' j) ∧ (S i = S j → S' i = S' j)) {i j : Nat} (k : Ls12 n S i j) : Ls12 n S' i j := by
  induction k with
  | fin a b => exact .fin a b
  | lt a b c => exact .lt a b ((h _ _ a b).1 c)
  | eq a b c _ ih => exact .eq a b ((h _ _ a b).2 c) ih
theorem Ar12.alone {n : Nat} {S S' : Nat → Int} {A : List Nat} (hA : Ar12 n S A) (h : ∀ i j, i < n → j < n → (S i < S j → S' i < S' j) ∧ (S i = S j → S' i = S' j)) : Ar12 n S' A :=
  ⟨hA.len, hA.lt, hA.all, hA.so.imp fun k => alone12 h k⟩
/-- Numbers that rise, of which so many are told; none is above N. -/
structure Up12 (K v N : Nat) (L : List Int) : Prop where
  len : L.length = K
  le : N ≤ 1000 * v
  bd : ∀ u, u < v → 1 ≤ L.getD u 0 ∧ L.getD u 0 ≤ (N : Int)
  up : ∀ u u', u < u' → u' < v → L.getD u 0 < L.getD u' 0
theorem Up12.step {K v N N' : Nat} {L : List Int} (h : Up12 K v N L) (hv : v < K) (h1 : N < N') (h2 : N' ≤ N + 1000) : Up12 K (v + 1) N' (L.set v (N' : Int)) := by
  have hl : v < L.length := by rw [h.len]; exact hv
  refine ⟨by rw [List.length_set, h.len], by have := h.le; omega, fun u hu => ?_, fun u u' h3 h4 => ?_⟩
  · rw [getD_set12 _ _ _ _ hl]
    by_cases e : u = v
    · rw [if_pos e]; omega
    · rw [if_neg e]
      have := h.bd u (by omega)
      omega
  · rw [getD_set12 _ _ _ _ hl, getD_set12 _ _ _ _ hl, if_neg (by omega)]
    by_cases e : u' = v
    · rw [if_pos e]
      have := h.bd u (by omega)
      omega
    · rw [if_neg e]
      exact h.up u u' h3 (by omega)
def tm12 (L s : List Int) : List Int := s.map fun x => L.getD x.toNat 0
theorem tm12_len (L s : List Int) : (tm12 L s).length = s.length := by simp [tm12]
theorem tm12_get {L s : List Int} {i : Nat} (h : i < s.length) : (tm12 L s).getD i 0 = L.getD (s.getD i 0).toNat 0 := by simp [tm12, List.getD, h]
theorem Up12.ref {K N : Nat} {L s : List Int} {n : Nat} (h : Up12 K K N L) (hK : K ≤ 256) (hn : s.length = n) (h24 : n ≤ 16777216) (hs : ∀ y ∈ s, 0 ≤ y ∧ y < (K : Int)) : ref12 ((N : Int) + 1) (tm12 L s) = 0 := by
  have hN := h.le
  unfold ref12
  rw [if_neg (by omega), tm12_len, hn, if_neg (by omega)]
  have h2 : vals12 ((N : Int) + 1) (tm12 L s) = true := by
    unfold vals12
    rw [List.all_eq_true]
    intro y hy
    unfold tm12 at hy
    rw [List.mem_map] at hy
    obtain ⟨x, hx, rfl⟩ := hy
    have h3 := hs x hx
    have h4 := h.bd x.toNat (by omega)
    simp only [Bool.and_eq_true, decide_eq_true_eq]
    omega
  unfold rv12
  rw [h2]
  rfl
theorem Up12.bds {K N : Nat} {L s : List Int} (h : Up12 K K N L) (hK : K ≤ 256) (hs : ∀ y ∈ s, 0 ≤ y ∧ y < (K : Int)) : ∀ y ∈ tm12 L s, -9223372036854775808 ≤ y ∧ y ≤ 9223372036854775807 := by
  intro y hy
  unfold tm12 at hy
  rw [List.mem_map] at hy
  obtain ⟨x, hx, rfl⟩ := hy
  have h3 := hs x hx
  have h4 := h.bd x.toNat (by omega)
  have h5 := h.le
  omega
theorem Up12.ar {K N : Nat} {L s : List Int} {n : Nat} {A : List Nat} (h : Up12 K K N L) (hn : s.length = n) (hs : ∀ y ∈ s, 0 ≤ y ∧ y < (K : Int)) (hA : Ar12 n (S12 s) A) : Ar12 n (S12 (tm12 L s)) A := by
  refine hA.alone fun i j hi hj => ?_
  have hi' : i < s.length := by omega
  have hj' : j < s.length := by omega
  unfold S12
  rw [tm12_get hi', tm12_get hj']
  have b1 := hs s[i] (List.getElem_mem hi')
  have b2 := hs s[j] (List.getElem_mem hj')
  have e1 : s.getD i 0 = s[i] := by simp [List.getD, hi']
  have e2 : s.getD j 0 = s[j] := by simp [List.getD, hj']
  rw [e1, e2]
  refine ⟨fun c => h.up _ _ (by omega) (by omega), fun c => by rw [c]⟩
set_option maxRecDepth 100000 in
set_option maxHeartbeats 8000000 in
theorem saisAlone_walk (w : World) (a : Option Addr) (z : List Int) (ca : Nat) (hs : Seg w a z) (hc : z.length ≤ ca) (hnil : a = none → ca = 0) (hl : z.length ≤ 1073741824) (ga : Option Addr) (G : List Int) (gc : Nat) (hg : Seg64 w ga G) (hgc : G.length ≤ gc) (hgn : ga = none → gc = 0) (hgl : G.length ≤ 1073741824) :
    Calls Try.prog 6 #[.slice a z.length ca, .slice ga G.length gc] w fun e w' => e = .returned (.bool true) ∧ Below w.heap.size w w' := by
  generalize hn0 : z.length = n at *
  have hn : Hid (z.length = n) := hn0
  generalize hm0 : G.length = m at *
  have hm : Hid (G.length = m) := hm0
  clear hn0 hm0 hc hnil hgc hgn
  have hvz : ∀ y ∈ z, 0 ≤ y ∧ y ≤ 255 := hs.mem
  have hzb : ∀ y ∈ z, -9223372036854775808 ≤ y ∧ y ≤ 9223372036854775807 := fun y hy => by have := hvz y hy; omega
  have HW := pwds12 a z n ca w hs hn (by omega)
  have HRF := ref12_words hn.out hvz
  have HKB : mx12 z ≤ 256 := mx12_le (fun y hy => by have := hvz y hy; omega)
  have HVK : Hid (∀ y ∈ z, 0 ≤ y ∧ y < ((mx12 z : Nat) : Int)) := fun y hy => by
    have h1 := hvz y hy
    have h2 := mx12_gt y hy
    omega
  have HGS : Hid (∀ W, Below w.heap.size w W → Seg64 W ga G) := fun W b => hg.old b
  by_cases h24 : 16777216 < n
  · have h24i : (16777216 : Int) < (n : Int) := by omega
    clear HRF hvz hzb hs hg
    generalize mx12 z = K at *
    go_enter Try.func6, Try.ntmps6
    go_wp2_with (first
      | (go_at_call 18; refine HW.mono ?_; rintro e1 w1 ⟨rfl, R1, B1⟩; clear HW)
      | (go_at_call 15; refine (pawk12 w1).mono ?_; rintro e2 w2 ⟨rfl, B2⟩)
      | (go_at_call 15; refine (pawk12 w2).mono ?_; rintro e3 w3 ⟨rfl, B3⟩))
    go_ret
    have S1 := B1.size
    have S2 := B2.size
    exact ⟨rfl, (B1.trans (B2.mono (by omega))).trans (B3.mono (by omega))⟩
  · rw [if_neg h24] at HRF
    have h24i : ¬ (16777216 : Int) < (n : Int) := by omega
    have hn24 : n ≤ 16777216 := by omega
    have HA : Hid (∀ w1 g, Rz12 w1 g z → Calls Try.prog 22 #[.int .i64 ((mx12 z : Nat) : Int), .slice (some ⟨g, 0, none⟩) n n] w1 (ArrQ12 w1 z n)) := fun w1 g R => parr12 ((mx12 z : Nat) : Int) (some ⟨g, 0, none⟩) z n n w1 (R.seg hzb) hn (by omega) HRF
    have HSG : Hid (∀ w1 g, Rz12 w1 g z → SegZ w1 (some ⟨g, 0, none⟩) z) := fun w1 g R => R.seg hzb
    clear HRF hvz hzb hs hg
    generalize mx12 z = K at *
    have HA2 : Hid (∀ w1 g N L, Up12 K K N L → Rz12 w1 g (tm12 L z) → Calls Try.prog 22 #[.int .i64 ((N : Int) + 1), .slice (some ⟨g, 0, none⟩) n n] w1 (ArrQ12 w1 (tm12 L z) n)) := fun w1 g N L hU R => parr12 ((N : Int) + 1) (some ⟨g, 0, none⟩) (tm12 L z) n n w1 (R.seg (hU.bds HKB HVK.out)) (by show _ = _; rw [tm12_len, hn.out]) (by have := hU.le; omega) (hU.ref HKB hn.out hn24 HVK.out)
    have HMK := fun w' => run_make_i12 K (by omega) w'
    have HMN := fun w' => run_make_i12 n (by omega) w'
    go_enter Try.func6, Try.ntmps6
    go_wp2_with (first
      | (go_at_call 18; refine HW.mono ?_; rintro e1 w1 ⟨rfl, R1, B1⟩; clear HW)
      | (go_at_call 15; refine (pawk12 w1).mono ?_; rintro e2 w2 ⟨rfl, B2⟩))
    have hal : Below w2.heap.size w2 (w2.alloc (.cells (vi12 (List.replicate K 0)) 3)) := (Below.refl _ _).alloc (Nat.le_refl _) _
    have hr0 := Rz12.new w2 (List.replicate K 0)
    have R3 := (R1.old B2).old hal
    have B3 : Below w.heap.size w (w2.alloc (.cells (vi12 (List.replicate K 0)) 3)) := (B1.trans (B2.mono B1.size)).trans (hal.mono (by have := B1.size; have := B2.size; omega))
    have hlt : w.heap.size < w2.heap.size := by have := (R1.old B2).lt; exact this
    generalize w2.alloc (.cells (vi12 (List.replicate K 0)) 3) = w3 at *
    obtain ⟨g0, hg0⟩ : ∃ g0, g0 = w.heap.size := ⟨_, rfl⟩
    obtain ⟨gt, hgt⟩ : ∃ gt, gt = w2.heap.size := ⟨_, rfl⟩
    rw [← hg0] at R3
    rw [← hgt] at hr0
    have HNE : Hid (g0 < gt ∧ w.heap.size = g0) := ⟨by omega, hg0.symm⟩
    rw [← hgt, ← hg0]
    have HU0 : Hid (Up12 K 0 0 (List.replicate K 0)) := ⟨by simp, by omega, fun u h => by omega, fun u u' _ h => by omega⟩
    clear hal R1 B1 B2 hlt hg0 hgt HMK
    go_loopw [8, 9] (fun tN tv wr => ∃ (v N : Nat) (L : List Int), v ≤ K ∧ tN = .int .i64 N ∧ tv = .int .i64 v ∧ Hid (Up12 K v N L) ∧ Rz12 wr gt L ∧ Rz12 wr g0 z ∧ Below w.heap.size w wr) (fun _ tv _ => K - (intOf tv).toNat)
    case atStart => exact ⟨0, 0, List.replicate K 0, Nat.zero_le _, rfl, rfl, HU0, hr0, R3, B3⟩
    case round =>
      obtain ⟨v, N, L, hv, rfl, rfl, HU, RL, RZ, hb⟩ := hrel
      clear hr0 R3 B3 HU0
      have hNb : N ≤ 256000 := by have := HU.out.le; omega
      by_cases h1 : v < K
      · have h1i : (v : Int) < (K : Int) := by omega
        have k1 := RL.cell (i := v) (by rw [HU.out.len]; exact h1)
        have k2 := RL.free v
        have HST : Hid (∀ N' : Nat, N < N' → N' ≤ N + 1000 → Up12 K (v + 1) N' (L.set v (N' : Int)) ∧ Rz12 (wr.setCell ⟨gt, v, none⟩ (.int .i64 (N' : Int))) gt (L.set v (N' : Int)) ∧ Rz12 (wr.setCell ⟨gt, v, none⟩ (.int .i64 (N' : Int))) g0 z ∧ Below w.heap.size w (wr.setCell ⟨gt, v, none⟩ (.int .i64 (N' : Int)))) := fun N' a1 a2 =>
          ⟨HU.out.step h1 a1 a2, RL.set v _, RZ.kp (Kp.set (S := fun q => q = gt) rfl _) (by have := HNE.out; omega), hb.trans ((Kp.set (S := fun q => q = gt) rfl _).below (fun q h => by have := HNE.out; omega) hb.size)⟩
        clear RL RZ HU
        generalize L.getD v 0 = y at *
        by_cases h2 : v < m
        · have h2i : (v : Int) < (m : Int) := by omega
          obtain ⟨bb, off, rfl, c1⟩ := (HGS.out wr hb).at_ v (by rw [hm.out]; exact h2)
          have gb := (HGS.out wr hb).bd v
          generalize G.getD v 0 = x at *
          obtain ⟨N', hN'⟩ : ∃ N' : Nat, (N : Int) + 1 + x % 1000 = (N' : Int) := ⟨((N : Int) + 1 + x % 1000).toNat, by omega⟩
          obtain ⟨f1, f2, f3, f4⟩ := HST.out N' (by omega) (by omega)
          have HF : Hid (Up12 K (v + 1) N' (L.set v (N' : Int)) ∧ Rz12 (wr.setCell ⟨gt, v, none⟩ (.int .i64 (N' : Int))) gt (L.set v (N' : Int)) ∧ Rz12 (wr.setCell ⟨gt, v, none⟩ (.int .i64 (N' : Int))) g0 z ∧ Below w.heap.size w (wr.setCell ⟨gt, v, none⟩ (.int .i64 (N' : Int)))) := ⟨f1, f2, f3, f4⟩
          have t1 : x.tmod 1000 = x % 1000 := by rw [Int.tmod_eq_emod_of_nonneg gb.1]
          have t2 : 0 ≤ x % 1000 ∧ x % 1000 < 1000 := by omega
          clear HST f1 f2 f3 f4
          generalize x % 1000 = r at *
          go_wp2_with fail
          go_roundw
          case rel => exact ⟨v + 1, N', L.set v (N' : Int), by omega, by go_num, by go_num, HF.out.1, HF.out.2.1, HF.out.2.2.1, HF.out.2.2.2⟩
          case measure => simp [intOf]; omega
        · have h2i : ¬ (v : Int) < (m : Int) := by omega
          obtain ⟨f1, f2, f3, f4⟩ := HST.out (N + 1) (by omega) (by omega)
          rw [show ((N + 1 : Nat) : Int) = (N : Int) + 1 by omega] at f1 f2 f3 f4
          have HF : Hid (Up12 K (v + 1) (N + 1) (L.set v ((N : Int) + 1)) ∧ Rz12 (wr.setCell ⟨gt, v, none⟩ (.int .i64 ((N : Int) + 1))) gt (L.set v ((N : Int) + 1)) ∧ Rz12 (wr.setCell ⟨gt, v, none⟩ (.int .i64 ((N : Int) + 1))) g0 z ∧ Below w.heap.size w (wr.setCell ⟨gt, v, none⟩ (.int .i64 ((N : Int) + 1)))) := ⟨f1, f2, f3, f4⟩
          clear HST f1 f2 f3 f4
          go_wp2_with fail
          go_roundw
          case rel => exact ⟨v + 1, N + 1, L.set v ((N : Int) + 1), by omega, by go_num, by go_num, HF.out.1, HF.out.2.1, HF.out.2.2.1, HF.out.2.2.2⟩
          case measure => simp [intOf]; omega
      · have h1i : ¬ (v : Int) < (K : Int) := by omega
        obtain rfl : v = K := by omega
        have HTL : Hid ((tm12 L z).length = n) := by show _ = _; rw [tm12_len, hn.out]
        have hgtl := RL.lt
        have HVX : Hid (∀ i, i < n → ∃ x : Nat, x < v ∧ z.getD i 0 = (x : Int) ∧ (tm12 L z).getD i 0 = L.getD x 0) := fun i hi => by
          have hi' : i < z.length := by rw [hn.out]; exact hi
          have b1 := HVK.out z[i] (List.getElem_mem hi')
          have e1 : z.getD i 0 = z[i] := by simp [List.getD, hi']
          refine ⟨(z.getD i 0).toNat, by rw [e1]; omega, by rw [e1]; omega, tm12_get hi'⟩
        have HLB : Hid (∀ u, u < v → 1 ≤ L.getD u 0 ∧ L.getD u 0 ≤ 256000) := fun u hu => by have h5 := HU.out.bd u hu; have h6 := HU.out.le; omega
        go_wp2_with fail
        have hal : Below wr.heap.size wr (wr.alloc (.cells (vi12 (List.replicate n 0)) 3)) := (Below.refl _ _).alloc (Nat.le_refl _) _
        have hr1 := Rz12.new wr (List.replicate n 0)
        have HZ : Hid (List.replicate n (0 : Int) = wds12 (tm12 L z) 0) := by show _ = _; rw [wds12_zero, HTL.out]
        have RL1 := RL.old hal
        have RZ1 := RZ.old hal
        have B4 : Below w.heap.size w (wr.alloc (.cells (vi12 (List.replicate n 0)) 3)) := hb.trans (hal.mono hb.size)
        have hszr := hb.size
        generalize wr.alloc (.cells (vi12 (List.replicate n 0)) 3) = w4 at *
        obtain ⟨gx, hgx⟩ : ∃ gx, gx = wr.heap.size := ⟨_, rfl⟩
        rw [← hgx, HZ.out] at hr1
        have HNX : Hid (gt < gx ∧ g0 < gx ∧ w.heap.size ≤ gx) := ⟨by omega, by have := HNE.out; omega, by omega⟩
        rw [← hgx]
        have hlL := HU.out.len
        clear hal RL RZ hb hgx hgtl hszr HMN HZ
        go_loopw [11] (fun ti wr => ∃ i : Nat, i ≤ n ∧ ti = .int .i64 i ∧ Rz12 wr gx (wds12 (tm12 L z) i) ∧ Rz12 wr gt L ∧ Rz12 wr g0 z ∧ Below w.heap.size w wr) (fun ti _ => n - (intOf ti).toNat)
        case atStart => exact ⟨0, Nat.zero_le _, rfl, hr1, RL1, RZ1, B4⟩
        case round =>
          obtain ⟨i, hi, rfl, RX, RL, RZ, hb⟩ := hrel
          clear hr1 RL1 RZ1 B4
          by_cases h5 : i < n
          · have h5i : (i : Int) < (n : Int) := by omega
            obtain ⟨x, hx, e1, e2⟩ := HVX.out i h5
            have c1 := RZ.cell (i := i) (by rw [hn.out]; exact h5)
            rw [e1] at c1
            have c2 := RL.cell (i := x) (by rw [hlL]; exact hx)
            have k1 := RX.cell (i := i) (by rw [wds12_len _ _ (by rw [HTL.out]; omega), HTL.out]; exact h5)
            have k2 := RX.free i
            have hxi : (x : Int) < (v : Int) := by omega
            have lb := HLB.out x hx
            have HST : Hid (Rz12 (wr.setCell ⟨gx, i, none⟩ (.int .i64 (L.getD x 0))) gx (wds12 (tm12 L z) (i + 1)) ∧ Rz12 (wr.setCell ⟨gx, i, none⟩ (.int .i64 (L.getD x 0))) gt L ∧ Rz12 (wr.setCell ⟨gx, i, none⟩ (.int .i64 (L.getD x 0))) g0 z ∧ Below w.heap.size w (wr.setCell ⟨gx, i, none⟩ (.int .i64 (L.getD x 0)))) := by
              have h6 := RX.set i (L.getD x 0)
              rw [← e2, wds12_set _ _ (by rw [HTL.out]; exact h5), e2] at h6
              have kp : Kp (fun q => q = gx) wr (wr.setCell ⟨gx, i, none⟩ (.int .i64 (L.getD x 0))) := Kp.set (S := fun q => q = gx) rfl _
              exact ⟨h6, RL.kp kp (by have := HNX.out; omega), RZ.kp kp (by have := HNX.out; omega), hb.trans (kp.below (fun q h => by have := HNX.out; omega) hb.size)⟩
            clear RX RL RZ e1 e2
            generalize (wds12 (tm12 L z) i).getD i 0 = y at *
            generalize L.getD x 0 = y2 at *
            go_wp2_with fail
            go_roundw
            case rel => exact ⟨i + 1, by omega, by go_num, HST.out.1, HST.out.2.1, HST.out.2.2.1, HST.out.2.2.2⟩
            case measure => simp [intOf]; omega
          · have h5i : ¬ (i : Int) < (n : Int) := by omega
            obtain rfl : i = n := by omega
            have HWA : Hid (wds12 (tm12 L z) i = tm12 L z) := by
              have h6 := wds12_all (tm12 L z)
              rw [HTL.out] at h6
              exact h6
            rw [HWA.out] at RX
            have HAR : Hid (∀ A, Ar12 i (S12 z) A → Ar12 i (S12 (tm12 L z)) A) := fun A hA => HU.out.ar hn.out HVK.out hA
            go_wp2_with fail
            refine (HA.out wr g0 RZ).mono ?_
            rintro e5 w5 ⟨g5, A5, rfl, R5, hg5, hA5, B5⟩
            have RX5 := RX.old B5
            have HA5 := HA2.out w5 gx N L HU.out RX5
            have C5 := hb.trans (B5.mono hb.size)
            go_wp2_with fail
            refine HA5.mono ?_
            rintro e6 w6 ⟨g6, A6, rfl, R6, hg6, hA6, B6⟩
            have C6 := C5.trans (B6.mono C5.size)
            obtain rfl : A6 = A5 := hA6.unique (HAR.out _ hA5)
            have hnl : (nz12 A6).length = i := by rw [nz12_len, hA5.len]
            have hnb : ∀ y ∈ nz12 A6, -9223372036854775808 ≤ y ∧ y ≤ 9223372036854775807 := nz12_bd hA5.lt hn24
            have HSM := same12 (some ⟨g5, 0, none⟩) (some ⟨g6, 0, none⟩) (nz12 A6) (nz12 A6) i i w6 ((R5.old B6).seg hnb) (R6.seg hnb) (by rw [hnl]; omega) (by rw [hnl]; omega)
            rw [hnl] at HSM
            have ebb : (nz12 A6 == nz12 A6) = true := by simp
            rw [ebb] at HSM
            clear hnl hnb ebb RX RX5 HA5 R5 R6 hA5 hA6
            go_wp2_with fail
            refine HSM.mono ?_
            rintro e7 w7 ⟨rfl, B7⟩
            go_wp2_with fail
            go_ret
            exact ⟨rfl, C6.trans (B7.mono C6.size)⟩
end Go.Proofs.Ytbgnlbgoeogbaaa
