import Derived.Test.YtmfpdchfofffeaaGreatDoorPc
import Derived.Test.YtmfpdchfofffeaaGreatDoorPb
import Derived.Laws.MakeOwn
namespace Go.Proofs.YtmfpdchfofffeaaGreatDoor
open Go.RowKit
set_option linter.unusedVariables false
set_option maxRecDepth 100000 in
set_option maxHeartbeats 4000000 in
theorem pps12 (b : Nat) (a : Option Addr) (n cap : Nat) (s : List Int) (K gs gf gn gr : Nat) (nx R : List Int) (o : List Nat) (w : World) (h : Lr12 w b a n cap s K gs gf gn gr nx R) (hW : Wf12 s n K) (hR : ∀ q, q < n → R.getD q 0 = tak12 (sm12 s) (st2_12 n (S12 s) (sm12 s) o n).1 q) (ho : Or12 n (sm12 s) o) :
    Calls Tryz.prog 196 #[.pointer (some ⟨b, 0, none⟩), .slice (some ⟨gr, 0, none⟩) n n] w fun e w' => e = .returned (.tuple #[]) ∧ ∃ nx' R', Lr12 w' b a n cap s K gs gf gn gr nx' R' ∧ Lm12 n s R' nx' (st3_12 n (S12 s) (sm12 s) o n) ∧ Kp (Wr12 gn gr) w w' := by
  have hl := h.li
  have q2 := hl.c2
  have q3 := hl.c3
  have n24 := hW.n24
  have K25 := hW.K25
  have hn : Hid (s.length = n) := hW.len
  have HCS : Hid (((bnd12 K s).drop 1).length = K) := by show _ = _; simp [bnd12_len]
  have HSG : Hid (∀ w', Rz12 w' gf (bnd12 K s) → SegZ w' (some ⟨gf, 1, none⟩) ((bnd12 K s).drop 1)) := fun w' h1 => by have := (h1.seg (bnd12_bd hW)).dropZ 1; simpa using this
  have HS0 : Hid (∀ sp w', K = 0 → SegZ w' sp ((bnd12 K s).drop 1)) := fun sp w' hk => by
    have : (bnd12 K s).drop 1 = [] := List.eq_nil_of_length_eq_zero (by rw [HCS.out, hk])
    rw [this]; exact SegZ.nil _ _
  have HX : Hid (Rz12 w.drew gn nx ∧ nx.length = K ∧ Rz12 w.drew gf (bnd12 K s)) := ⟨hl.nr.drew, hl.nxl, hl.fr.drew⟩
  have HLR : Hid (∀ w1, Rz12 w1 gn ((bnd12 K s).drop 1) → Kp (fun k => k = gn) w.drew w1 → Lr12 w1 b a n cap s K gs gf gn gr ((bnd12 K s).drop 1) R ∧ Kp (Wr12 gn gr) w w1) := by
    intro w1 h1 k1
    have kk : Kp (Wr12 gn gr) w w1 := (Kp.refl _ _).drew.trans (k1.mono (S' := Wr12 gn gr) (fun i _ e => Or.inl e)) (fun _ _ e => e)
    exact ⟨h.kp kk h1 (h.row.drew.kp k1 (fun e => h.e4 e.symm)) (by rw [HCS.out, hl.nxl]) rfl, kk⟩
  have hty : Ty12 n (S12 s) (sm12 s) := by have := ty12 s; rw [hn.out] at this; exact this
  have HST : Hid (Lm12 n s R ((bnd12 K s).drop 1) (st3_12 n (S12 s) (sm12 s) o 0)) :=
    ⟨fun q hq => hR (n - 1 - q) (by omega), fun i hi => bnd12_ends hW i hi⟩
  have HPP : Hid (∀ p, p ≤ n → Pg12 n (ng12 (S12 s)) (fun i => sm12 s i = true) (fun i => sm12 s i = false) (fun _ => False) (fun _ _ => True) p (st3_12 n (S12 s) (sm12 s) o p).1 (st3_12 n (S12 s) (sm12 s) o p).2) := fun p hp => st3_t hty ho p hp
  have HFR : Hid (Fr12 n (ng12 (S12 s)) (fun i => sm12 s i = true) (fun i => sm12 s i = false) (fun _ => False) (fun _ _ => True)) := hty.frt3
  clear h hl hR
  by_cases hK0 : K = 0
  · subst hK0
    go_enter Tryz.func196, Tryz.ntmps196
    go_wp2_with fail
    go_region_held3 (fun w' => w'.cell? ⟨b, 3, none⟩ = some (.slice (some ⟨gn, 0, none⟩) 0 0) ∧ w'.cell? ⟨b, 2, none⟩ = some (.slice (some ⟨gf, 0, none⟩) 1 1))
      (first | go_keep | exact ⟨(HLR.out _ R1 K1).1.li.c3, (HLR.out _ R1 K1).1.li.c2⟩)
      (first
        | (refine step_copy12 rfl (.tmp 10) (.tmp 15) rfl gn 0 _ _ _ rfl rfl nx HX.out.1 HX.out.2.1 ((bnd12 0 s).drop 1) HCS.out (Nat.le_refl _) (HS0.out _ _ (by first | trivial | rfl)) ?_; intro w1 R1 K1))
    obtain ⟨L1, KA⟩ := HLR.out w1 R1 K1
    clear R1 K1
    go_wp2_with fail
    go_loopw [20] (fun ti wr => ∃ (p : Nat) (nx' R' : List Int), p ≤ n ∧ ti = .int .i64 p ∧ Lr12 wr b a n cap s 0 gs gf gn gr nx' R' ∧ Lm12 n s R' nx' (st3_12 n (S12 s) (sm12 s) o p) ∧ Kp (Wr12 gn gr) w wr) (fun ti _ => n - (intOf ti).toNat)
    case atStart => exact ⟨0, _, _, Nat.zero_le _, rfl, L1, HST.out, KA⟩
    case round =>
      obtain ⟨p, nx', R', hp, rfl, LR, LM, KB⟩ := hrel
      by_cases h1 : p < n
      · exact absurd (hW.nat h1).2 (Nat.not_lt_zero _)
      · have h1i : ¬ (p : Int) < (n : Int) := by omega
        obtain rfl : p = n := by omega
        go_wp2_with fail
        refine bodyPost_end (results_none rfl _ _ _) rfl ?_
        exact ⟨rfl, nx', R', LR, LM, KB⟩
  · have k1 : ¬ K + 1 = 1 := by omega
    have k2 : (1 : Int) ≤ (K : Int) + 1 := by omega
    go_enter Tryz.func196, Tryz.ntmps196
    go_wp2_with fail
    go_region_held3 (fun w' => w'.cell? ⟨b, 3, none⟩ = some (.slice (some ⟨gn, 0, none⟩) K K) ∧ w'.cell? ⟨b, 2, none⟩ = some (.slice (some ⟨gf, 0, none⟩) (K + 1) (K + 1)))
      (first | go_keep | exact ⟨(HLR.out _ R1 K1).1.li.c3, (HLR.out _ R1 K1).1.li.c2⟩)
      (first
        | (refine step_copy12 rfl (.tmp 10) (.tmp 15) rfl gn K _ _ _ rfl rfl nx HX.out.1 HX.out.2.1 ((bnd12 K s).drop 1) HCS.out (Nat.le_refl _) (HSG.out _ HX.out.2.2) ?_; intro w1 R1 K1))
    obtain ⟨L1, KA⟩ := HLR.out w1 R1 K1
    clear R1 K1
    go_wp2_with fail
    go_loopw [20] (fun ti wr => ∃ (p : Nat) (nx' R' : List Int), p ≤ n ∧ ti = .int .i64 p ∧ Lr12 wr b a n cap s K gs gf gn gr nx' R' ∧ Lm12 n s R' nx' (st3_12 n (S12 s) (sm12 s) o p) ∧ Kp (Wr12 gn gr) w wr) (fun ti _ => n - (intOf ti).toNat)
    case atStart => exact ⟨0, _, _, Nat.zero_le _, rfl, L1, HST.out, KA⟩
    case round =>
      obtain ⟨p, nx', R', hp, rfl, LR, LM, KB⟩ := hrel
      by_cases h1 : p < n
      · have h1i : (p : Int) < (n : Int) := by omega
        obtain ⟨i, hi⟩ : ∃ i, n = i + 1 + p := ⟨n - 1 - p, by omega⟩
        have ei : (n : Int) - 1 - (p : Int) = (i : Int) := by omega
        have im : (i : Int) < (n : Int) := by omega
        have c1 := LR.row.cell (i := i) (by rw [LR.rl]; omega)
        have HV := LM.row p h1
        rw [show n - 1 - p = i by omega] at HV
        rw [HV] at c1
        have cs1 := LR.li.c1
        have HPG := HPP.out p (by omega)
        have HGO : Hid (st3_12 n (S12 s) (sm12 s) o (p + 1) = go12 (ng12 (S12 s)) true (sm12 s) (st3_12 n (S12 s) (sm12 s) o p) p) := rfl
        generalize hX : st3_12 n (S12 s) (sm12 s) o p = X at *
        have HOK := HPG.st.ok p h1
        by_cases z0 : 0 < X.1 p
        · obtain ⟨j, hj, ej⟩ : ∃ j : Nat, j + 1 < n ∧ X.1 p = (j : Int) + 1 := by
            rcases HOK with e | ⟨k, hk, e, _⟩
            · omega
            · exact ⟨k - 1, by omega, by omega⟩
          have c2 := LR.li.sm.cell (i := j) (by rw [typ12_len, hn.out]; omega)
          rw [typ12_get] at c2
          rw [ej] at c1
          have ij : (j : Int) < (n : Int) := by omega
          have ej2 : (X.1 p - 1).toNat = j := by omega
          by_cases zs : sm12 s j = true
          · rw [zs] at c2
            obtain ⟨_, hnin⟩ := HPG.new (HFR.out) h1 (j := j) (by omega) (by omega) zs
            obtain ⟨P, eP, _, _, _, hPn, _⟩ := HPG.st.place (j := j) (by omega) zs hnin
            have HNX := LM.nxt j (by omega)
            rw [eP] at HNX
            have hna := hW.nat (i := j) (by omega)
            have HC := ped12 b a n cap s K gs gf gn gr nx' R' j (S12 s j).toNat (n - 1 - P) wr LR hn n24 K25 (by omega) hna.1 hna.2 (by show _ = _; rw [HNX]; omega) (by omega)
            have HL2 : Hid (Lm12 n s (R'.set (n - 1 - P) (j : Int)) (nx'.set (S12 s j).toNat ((n - 1 - P : Nat) : Int)) (st3_12 n (S12 s) (sm12 s) o (p + 1))) := by
              rw [HGO.out]
              unfold go12
              rw [ej2, if_pos ⟨z0, zs⟩]
              exact LM.put hW LR.rl LR.li.nxl (by omega) eP hPn
            clear LM LR eP HNX hna hi HPG HOK HV hnin hX
            go_wp2_with (first | (go_at_call 224; refine HC.mono ?_; rintro e2 w2 ⟨rfl, L2, K2⟩))
            go_roundw
            case rel => exact ⟨p + 1, _, _, by omega, by go_num, L2, HL2.out, KB.trans K2 (fun _ _ e => e)⟩
            case measure => simp [intOf]; omega
          · have zs' : sm12 s j = false := by simpa using zs
            rw [zs'] at c2
            have HL2 : Hid (Lm12 n s R' nx' (st3_12 n (S12 s) (sm12 s) o (p + 1))) := by
              rw [HGO.out]
              unfold go12
              rw [ej2, if_neg (fun k => zs k.2)]
              exact LM
            have HLR2 : Hid (Lr12 wr b a n cap s K gs gf gn gr nx' R') := LR
            clear LM LR hi HPG HOK HV hX
            go_wp2_with fail
            go_roundw
            case rel => exact ⟨p + 1, _, _, by omega, by go_num, HLR2.out, HL2.out, KB⟩
            case measure => simp [intOf]; omega
        · have HL2 : Hid (Lm12 n s R' nx' (st3_12 n (S12 s) (sm12 s) o (p + 1))) := by
            rw [HGO.out]
            unfold go12
            rw [if_neg (fun k => z0 k.1)]
            exact LM
          have HLR2 : Hid (Lr12 wr b a n cap s K gs gf gn gr nx' R') := LR
          have zb : -1 ≤ X.1 p := by
            rcases HOK with e | ⟨k, hk, e, _⟩ <;> omega
          clear LM LR hi HPG HOK HV HGO hX
          generalize X.1 p = y at *
          go_wp2_with fail
          go_roundw
          case rel => exact ⟨p + 1, _, _, by omega, by go_num, HLR2.out, HL2.out, KB⟩
          case measure => simp [intOf]; omega
      · have h1i : ¬ (p : Int) < (n : Int) := by omega
        obtain rfl : p = n := by omega
        go_wp2_with fail
        refine bodyPost_end (results_none rfl _ _ _) rfl ?_
        exact ⟨rfl, nx', R', LR, LM, KB⟩
end Go.Proofs.YtmfpdchfofffeaaGreatDoor

namespace Go.Proofs.YtmfpdchfofffeaaGreatDoor
open Go.RowKit
set_option linter.unusedVariables false
set_option maxRecDepth 100000 in
set_option maxHeartbeats 4000000 in
theorem ppg12 (b : Nat) (a : Option Addr) (n cap : Nat) (s : List Int) (K gs gf gn gr : Nat) (nx R : List Int) (o : List Nat) (w : World) (h : Lr12 w b a n cap s K gs gf gn gr nx R) (hW : Wf12 s n K) (hR : ∀ q, q < n → R.getD q 0 = (ss12 n (S12 s) o).1 q) (ho : Or12 n (sm12 s) o) :
    Calls Tryz.prog 194 #[.pointer (some ⟨b, 0, none⟩), .slice (some ⟨gr, 0, none⟩) n n] w fun e w' => e = .returned (.tuple #[]) ∧ ∃ nx' R', Lr12 w' b a n cap s K gs gf gn gr nx' R' ∧ Lk12 n s R' nx' (st2_12 n (S12 s) (sm12 s) o n) ∧ Kp (Wr12 gn gr) w w' := by
  have hl := h.li
  have q2 := hl.c2
  have q3 := hl.c3
  have n24 := hW.n24
  have K25 := hW.K25
  have hn : Hid (s.length = n) := hW.len
  have HCS : Hid (((bnd12 K s).take K).length = K) := by show _ = _; simp [bnd12_len]
  have HSG : Hid (∀ w', Rz12 w' gf (bnd12 K s) → SegZ w' (some ⟨gf, 0, none⟩) ((bnd12 K s).take K)) := fun w' h1 => (h1.seg (bnd12_bd hW)).take K
  have HX : Hid (Rz12 w.drew gn nx ∧ nx.length = K ∧ Rz12 w.drew gf (bnd12 K s)) := ⟨hl.nr.drew, hl.nxl, hl.fr.drew⟩
  have HLR : Hid (∀ w1, Rz12 w1 gn ((bnd12 K s).take K) → Kp (fun k => k = gn) w.drew w1 → Lr12 w1 b a n cap s K gs gf gn gr ((bnd12 K s).take K) R ∧ Kp (Wr12 gn gr) w w1) := by
    intro w1 h1 k1
    have kk : Kp (Wr12 gn gr) w w1 := (Kp.refl _ _).drew.trans (k1.mono (S' := Wr12 gn gr) (fun i _ e => Or.inl e)) (fun _ _ e => e)
    exact ⟨h.kp kk h1 (h.row.drew.kp k1 (fun e => h.e4 e.symm)) (by rw [HCS.out, hl.nxl]) rfl, kk⟩
  have hty : Ty12 n (S12 s) (sm12 s) := by have := ty12 s; rw [hn.out] at this; exact this
  have HSS : Hid (Lk12 n s R ((bnd12 K s).take K) (ss12 n (S12 s) o)) := ⟨hR, fun i hi => bnd12_heads hW i hi⟩
  have HPP : Hid (∀ p, p ≤ n → Pg12 n (S12 s) (fun i => sm12 s i = false) (tn12 (sm12 s)) (D12 n) (fun _ _ => True) p (st2_12 n (S12 s) (sm12 s) o p).1 (st2_12 n (S12 s) (sm12 s) o p).2) := fun p hp => st2_t hty ho p hp
  have HFR : Hid (Fr12 n (S12 s) (fun i => sm12 s i = false) (tn12 (sm12 s)) (D12 n) (fun _ _ => True)) := hty.frt2
  have HFI : Hid (0 < n → ∃ P : Nat, P < n ∧ (ss12 n (S12 s) o).2 (S12 s (n - 1)) = (P : Int) ∧ st2_12 n (S12 s) (sm12 s) o 0 = put12 (S12 s) (ss12 n (S12 s) o) (n - 1)) := by
    intro h0
    obtain ⟨h1, h2⟩ := ss12_st (S := S12 s) ho
    have hT : sm12 s (n - 1) = false := hty.last _ (by omega)
    obtain ⟨P, eP, _, _, _, hPn, _⟩ := h1.place (j := n - 1) (by omega) hT (h2 _ (by omega) hT)
    refine ⟨P, hPn, eP, ?_⟩
    show s2i12 n (S12 s) o = _
    unfold s2i12
    rw [if_pos h0]
  have HF0 : Hid (n = 0 → st2_12 n (S12 s) (sm12 s) o 0 = ss12 n (S12 s) o) := by
    intro h0
    show s2i12 n (S12 s) o = _
    unfold s2i12
    rw [if_neg (by omega)]
  clear h hl hR
  have LOOP : ∀ (w1 : World) (nx1 R1 : List Int), Lr12 w1 b a n cap s K gs gf gn gr nx1 R1 → Lk12 n s R1 nx1 (st2_12 n (S12 s) (sm12 s) o 0) → Kp (Wr12 gn gr) w w1 → True := fun _ _ _ _ _ _ => trivial
  clear LOOP
  go_enter Tryz.func194, Tryz.ntmps194
  go_wp2_with fail
  go_region_held3 (fun w' => w'.cell? ⟨b, 3, none⟩ = some (.slice (some ⟨gn, 0, none⟩) K K) ∧ w'.cell? ⟨b, 2, none⟩ = some (.slice (some ⟨gf, 0, none⟩) (K + 1) (K + 1)))
    (first | go_keep | exact ⟨(HLR.out _ R1 K1).1.li.c3, (HLR.out _ R1 K1).1.li.c2⟩)
    (first
      | (refine step_copy12 rfl (.tmp 10) (.tmp 14) rfl gn K _ _ _ rfl rfl nx HX.out.1 HX.out.2.1 ((bnd12 K s).take K) HCS.out (by omega) (HSG.out _ HX.out.2.2) ?_; intro w1 R1 K1))
  obtain ⟨L1, KA⟩ := HLR.out w1 R1 K1
  clear R1 K1
  by_cases h0 : 0 < n
  · have h0i : (0 : Int) < (n : Int) := by omega
    obtain ⟨P, hPn, eP, eS⟩ := HFI.out h0
    have HNX := HSS.out.nxt (n - 1) (by omega)
    rw [eP] at HNX
    have hna := hW.nat (i := n - 1) (by omega)
    have HC := phd12 b a n cap s K gs gf gn gr ((bnd12 K s).take K) R (n - 1) (S12 s (n - 1)).toNat P w1 L1 hn n24 K25 (by omega) hna.1 hna.2 HNX hPn
    have HL2 : Hid (Lk12 n s (R.set P ((n - 1 : Nat) : Int)) (((bnd12 K s).take K).set (S12 s (n - 1)).toNat ((P : Int) + 1)) (st2_12 n (S12 s) (sm12 s) o 0)) := by
      rw [eS]
      exact HSS.out.put hW L1.rl L1.li.nxl (by omega) eP hPn
    have en : ((n - 1 : Nat) : Int) = (n : Int) - 1 := by omega
    rw [en] at HC
    clear HNX hna eS eP
    go_wp2_with (first | (go_at_call 225; refine HC.mono ?_; rintro e2 w2 ⟨rfl, L2, K2⟩))
    rw [← en] at L2
    have KC : Kp (Wr12 gn gr) w w2 := KA.trans K2 (fun _ _ e => e)
    clear K2 L1 KA
    go_loopw [26] (fun ti wr => ∃ (p : Nat) (nx' R' : List Int), p ≤ n ∧ ti = .int .i64 p ∧ Lr12 wr b a n cap s K gs gf gn gr nx' R' ∧ Lk12 n s R' nx' (st2_12 n (S12 s) (sm12 s) o p) ∧ Kp (Wr12 gn gr) w wr) (fun ti _ => n - (intOf ti).toNat)
    case atStart => exact ⟨0, _, _, Nat.zero_le _, rfl, L2, HL2.out, KC⟩
    case round =>
      obtain ⟨p, nx', R', hp, rfl, LR, LM, KB⟩ := hrel
      by_cases h1 : p < n
      · have h1i : (p : Int) < (n : Int) := by omega
        have c1 := LR.row.cell (i := p) (by rw [LR.rl]; omega)
        have HV := LM.row p h1
        rw [HV] at c1
        have cs1 := LR.li.c1
        have HPG := HPP.out p (by omega)
        have HGO : Hid (st2_12 n (S12 s) (sm12 s) o (p + 1) = go12 (S12 s) false (sm12 s) (st2_12 n (S12 s) (sm12 s) o p) p) := rfl
        generalize hX : st2_12 n (S12 s) (sm12 s) o p = X at *
        have HOK := HPG.st.ok p h1
        by_cases z0 : 0 < X.1 p
        · obtain ⟨j, hj, ej⟩ : ∃ j : Nat, j + 1 < n ∧ X.1 p = (j : Int) + 1 := by
            rcases HOK with e | ⟨k, hk, e, _⟩
            · omega
            · exact ⟨k - 1, by omega, by omega⟩
          have c2 := LR.li.sm.cell (i := j) (by rw [typ12_len, hn.out]; omega)
          rw [typ12_get] at c2
          rw [ej] at c1
          have ij : (j : Int) < (n : Int) := by omega
          have ej2 : (X.1 p - 1).toNat = j := by omega
          by_cases zs : sm12 s j = false
          · rw [zs] at c2
            obtain ⟨_, hnin⟩ := HPG.new (HFR.out) h1 (j := j) (by omega) (by omega) zs
            obtain ⟨P, eP, _, _, _, hPn, _⟩ := HPG.st.place (j := j) (by omega) zs hnin
            have HNX := LM.nxt j (by omega)
            rw [eP] at HNX
            have hna := hW.nat (i := j) (by omega)
            have HC := phd12 b a n cap s K gs gf gn gr nx' R' j (S12 s j).toNat P wr LR hn n24 K25 (by omega) hna.1 hna.2 HNX hPn
            have HL2 : Hid (Lk12 n s (R'.set P (j : Int)) (nx'.set (S12 s j).toNat ((P : Int) + 1)) (st2_12 n (S12 s) (sm12 s) o (p + 1))) := by
              rw [HGO.out]
              unfold go12
              rw [ej2, if_pos ⟨z0, zs⟩]
              exact LM.put hW LR.rl LR.li.nxl (by omega) eP hPn
            clear LM LR eP HNX hna HPG HOK HV hnin hX
            go_wp2_with (first | (go_at_call 225; refine HC.mono ?_; rintro e2 w2 ⟨rfl, L2, K2⟩))
            go_roundw
            case rel => exact ⟨p + 1, _, _, by omega, by go_num, L2, HL2.out, KB.trans K2 (fun _ _ e => e)⟩
            case measure => simp [intOf]; omega
          · have zs' : sm12 s j = true := by simpa using zs
            rw [zs'] at c2
            have HL2 : Hid (Lk12 n s R' nx' (st2_12 n (S12 s) (sm12 s) o (p + 1))) := by
              rw [HGO.out]
              unfold go12
              rw [ej2, if_neg (fun k => zs k.2)]
              exact LM
            have HLR2 : Hid (Lr12 wr b a n cap s K gs gf gn gr nx' R') := LR
            clear LM LR HPG HOK HV hX
            go_wp2_with fail
            go_roundw
            case rel => exact ⟨p + 1, _, _, by omega, by go_num, HLR2.out, HL2.out, KB⟩
            case measure => simp [intOf]; omega
        · have HL2 : Hid (Lk12 n s R' nx' (st2_12 n (S12 s) (sm12 s) o (p + 1))) := by
            rw [HGO.out]
            unfold go12
            rw [if_neg (fun k => z0 k.1)]
            exact LM
          have HLR2 : Hid (Lr12 wr b a n cap s K gs gf gn gr nx' R') := LR
          have zb : -1 ≤ X.1 p := by
            rcases HOK with e | ⟨k, hk, e, _⟩ <;> omega
          clear LM LR HPG HOK HV HGO hX
          generalize X.1 p = y at *
          go_wp2_with fail
          go_roundw
          case rel => exact ⟨p + 1, _, _, by omega, by go_num, HLR2.out, HL2.out, KB⟩
          case measure => simp [intOf]; omega
      · have h1i : ¬ (p : Int) < (n : Int) := by omega
        obtain rfl : p = n := by omega
        go_wp2_with fail
        refine bodyPost_end (results_none rfl _ _ _) rfl ?_
        exact ⟨rfl, nx', R', LR, LM, KB⟩
  · have h0i : ¬ (0 : Int) < (n : Int) := by omega
    have HL2 : Hid (Lk12 n s R ((bnd12 K s).take K) (st2_12 n (S12 s) (sm12 s) o 0)) := by
      rw [HF0.out (by omega)]
      exact HSS.out
    have L2 := L1
    have KC := KA
    clear L1 KA
    go_wp2_with fail
    go_loopw [26] (fun ti wr => ∃ (p : Nat) (nx' R' : List Int), p ≤ n ∧ ti = .int .i64 p ∧ Lr12 wr b a n cap s K gs gf gn gr nx' R' ∧ Lk12 n s R' nx' (st2_12 n (S12 s) (sm12 s) o p) ∧ Kp (Wr12 gn gr) w wr) (fun ti _ => n - (intOf ti).toNat)
    case atStart => exact ⟨0, _, _, Nat.zero_le _, rfl, L2, HL2.out, KC⟩
    case round =>
      obtain ⟨p, nx', R', hp, rfl, LR, LM, KB⟩ := hrel
      by_cases h1 : p < n
      · exact absurd h1 (by omega)
      · have h1i : ¬ (p : Int) < (n : Int) := by omega
        obtain rfl : p = n := by omega
        go_wp2_with fail
        refine bodyPost_end (results_none rfl _ _ _) rfl ?_
        exact ⟨rfl, nx', R', LR, LM, KB⟩
set_option maxRecDepth 100000 in
set_option maxHeartbeats 4000000 in
theorem ptk12 (b : Nat) (a : Option Addr) (n cap : Nat) (s : List Int) (K gs gf gn gr : Nat) (nx R : List Int) (F : Nat → Int) (w : World) (h : Lr12 w b a n cap s K gs gf gn gr nx R) (hW : Wf12 s n K) (hR : ∀ q, q < n → R.getD q 0 = F q) (hF : ∀ q, q < n → F q = -1 ∨ ∃ j : Nat, j < n ∧ F q = (j : Int)) :
    Calls Tryz.prog 195 #[.pointer (some ⟨b, 0, none⟩), .slice (some ⟨gr, 0, none⟩) n n] w fun e w' => e = .returned (.tuple #[]) ∧ ∃ R', Lr12 w' b a n cap s K gs gf gn gr nx R' ∧ (∀ q, q < n → R'.getD q 0 = tak12 (sm12 s) F q) ∧ Kp (Wr12 gn gr) w w' := by
  have n24 := hW.n24
  have hn : Hid (s.length = n) := hW.len
  have HF : Hid (∀ q, q < n → F q = -1 ∨ ∃ j : Nat, j < n ∧ F q = (j : Int)) := hF
  clear hF
  go_enter Tryz.func195, Tryz.ntmps195
  go_wp2_with fail
  go_loopw [8] (fun ti wr => ∃ (p : Nat) (R' : List Int), p ≤ n ∧ ti = .int .i64 p ∧ Lr12 wr b a n cap s K gs gf gn gr nx R' ∧ Hid (∀ q, q < n → R'.getD q 0 = if q < p then tak12 (sm12 s) F q else F q) ∧ Kp (Wr12 gn gr) w wr) (fun ti _ => n - (intOf ti).toNat)
  case atStart => exact ⟨0, R, Nat.zero_le _, rfl, h, (fun q hq => by rw [if_neg (by omega)]; exact hR q hq : ∀ q, q < n → _), Kp.refl _ _⟩
  case round =>
    obtain ⟨p, R', hp, rfl, LR, HQ, KB⟩ := hrel
    by_cases h1 : p < n
    · have h1i : (p : Int) < (n : Int) := by omega
      have c1 := LR.row.cell (i := p) (by rw [LR.rl]; omega)
      have f1 := LR.row.free p
      have HV := HQ.out p h1
      rw [if_neg (by omega)] at HV
      rw [HV] at c1
      have cs1 := LR.li.c1
      have HKEEP : Hid (tak12 (sm12 s) F p = F p → ∀ q, q < n → R'.getD q 0 = if q < p + 1 then tak12 (sm12 s) F q else F q) := by
        intro e q hq
        rw [HQ.out q hq]
        by_cases h2 : q < p
        · rw [if_pos h2, if_pos (by omega)]
        · rw [if_neg h2]
          by_cases h3 : q = p
          · subst h3; rw [if_pos (by omega), e]
          · rw [if_neg (by omega)]
      have HSET : Hid (tak12 (sm12 s) F p = -1 → ∀ q, q < n → (R'.set p (-1)).getD q 0 = if q < p + 1 then tak12 (sm12 s) F q else F q) := by
        intro e q hq
        rw [getD_set12 _ _ _ _ (by rw [LR.rl]; omega), HQ.out q hq]
        by_cases h3 : q = p
        · subst h3; rw [if_pos rfl, if_pos (by omega), e]
        · rw [if_neg h3]
          by_cases h2 : q < p
          · rw [if_pos h2, if_pos (by omega)]
          · rw [if_neg h2, if_neg (by omega)]
      rcases HF.out p h1 with e0 | ⟨j, hj, ej⟩
      · have HT : Hid (tak12 (sm12 s) F p = F p) := by show _ = _; unfold tak12; rw [e0]; simp
        rw [e0] at c1
        have HLR2 : Hid (Lr12 wr b a n cap s K gs gf gn gr nx R') := LR
        clear LR HV
        go_wp2_with fail
        go_roundw
        case rel => exact ⟨p + 1, R', by omega, by go_num, HLR2.out, HKEEP.out HT.out, KB⟩
        case measure => simp [intOf]; omega
      · have c2 := LR.li.sm.cell (i := j) (by rw [typ12_len, hn.out]; omega)
        rw [typ12_get] at c2
        rw [ej] at c1
        have ij : (j : Int) < (n : Int) := by omega
        have ijm : ¬ (j : Int) = -1 := by omega
        by_cases zs : sm12 s j = true
        · rw [zs] at c2
          have HT : Hid (tak12 (sm12 s) F p = -1) := by show _ = _; unfold tak12; rw [ej]; simp [zs]
          have HLR2 : Hid (Lr12 (wr.setCell ⟨gr, p, none⟩ (.int .i64 (-1))) b a n cap s K gs gf gn gr nx (R'.set p (-1))) := LR.setR p (-1)
          have HKB : Hid (Kp (Wr12 gn gr) w (wr.setCell ⟨gr, p, none⟩ (.int .i64 (-1)))) := KB.trans (Kp.set (S := Wr12 gn gr) (Or.inr rfl) _) (fun _ _ e => e)
          clear LR HV
          go_wp2_with fail
          go_roundw
          case rel => exact ⟨p + 1, _, by omega, by go_num, HLR2.out, HSET.out HT.out, HKB.out⟩
          case measure => simp [intOf]; omega
        · have zs' : sm12 s j = false := by simpa using zs
          rw [zs'] at c2
          have HT : Hid (tak12 (sm12 s) F p = F p) := by show _ = _; unfold tak12; rw [ej]; simp [zs']
          have HLR2 : Hid (Lr12 wr b a n cap s K gs gf gn gr nx R') := LR
          clear LR HV
          go_wp2_with fail
          go_roundw
          case rel => exact ⟨p + 1, R', by omega, by go_num, HLR2.out, HKEEP.out HT.out, KB⟩
          case measure => simp [intOf]; omega
    · have h1i : ¬ (p : Int) < (n : Int) := by omega
      obtain rfl : p = n := by omega
      go_wp2_with fail
      refine bodyPost_end (results_none rfl _ _ _) rfl ?_
      exact ⟨rfl, R', LR, fun q hq => by have := HQ.out q hq; rw [if_pos hq] at this; exact this, KB⟩
end Go.Proofs.YtmfpdchfofffeaaGreatDoor

namespace Go.Proofs.YtmfpdchfofffeaaGreatDoor
open Go.RowKit
set_option linter.unusedVariables false
noncomputable def il12 (s : List Int) (o : List Nat) : List Int := (List.range s.length).map (ind12 s.length (S12 s) (sm12 s) o)
theorem il12_len (s : List Int) (o : List Nat) : (il12 s o).length = s.length := by simp [il12]
theorem Li12.lt {w : World} {b : Nat} {a : Option Addr} {n cap : Nat} {s : List Int} {K gs gf gn : Nat} {nx : List Int} (h : Li12 w b a n cap s K gs gf gn nx) : b < w.heap.size := (Array.getElem?_eq_some_iff.1 h.hp).1
/-- A list, and a new row beside it. -/
theorem Lr12.of {w : World} {b : Nat} {a : Option Addr} {n cap : Nat} {s : List Int} {K gs gf gn : Nat} {nx : List Int} (h : Li12 w b a n cap s K gs gf gn nx) {w1 : World} (hb : Below w.heap.size w w1) {R : List Int} (hr : Rz12 w1 w.heap.size R) (hl : R.length = n) : Lr12 w1 b a n cap s K gs gf gn w.heap.size nx R := by
  have hn : h.nr.lt = h.nr.lt := rfl
  have q1 := h.lt
  have q2 := h.sm.lt
  have q3 := h.fr.lt
  have q4 := h.nr.lt
  refine ⟨⟨(hb.block b q1).trans h.hp, h.seg.old hb, h.sm.old hb, h.fr.old hb, h.nr.old hb, h.nxl, h.d1, h.d2, h.d3, h.d4⟩, hr, hl, by omega, by omega, by omega, by omega, fun x off ha hp => ?_⟩
  have := h.seg.lt x off ha hp
  omega
set_option maxRecDepth 100000 in
set_option maxHeartbeats 4000000 in
theorem pind12 (b : Nat) (a : Option Addr) (n cap : Nat) (s : List Int) (K gs gf gn : Nat) (nx : List Int) (oa : Option Addr) (o : List Nat) (m oc : Nat) (w : World) (h : Li12 w b a n cap s K gs gf gn nx) (hW : Wf12 s n K) (ho : Or12 n (sm12 s) o) (hm : Hid (o.length = m)) (hmb : m ≤ 16777216) (hseg : SegZ w oa (nz12 o)) (hoa : ∀ x off, oa = some ⟨x, off, none⟩ → 0 < (nz12 o).length → x ≠ gn) :
    Calls Tryz.prog 164 #[.pointer (some ⟨b, 0, none⟩), .slice oa m oc] w fun e w' => e = .returned (.slice (some ⟨w.heap.size, 0, none⟩) n n) ∧ Rz12 w' w.heap.size (il12 s o) ∧ (∃ nx', Li12 w' b a n cap s K gs gf gn nx') ∧ Kp (fun k => k = gn) w w' := by
  have n24 := hW.n24
  have hn : Hid (s.length = n) := hW.len
  have HM1 := run_make_i12 n (by omega) w
  have q0 := h.c0
  have hal : Below w.heap.size w (w.alloc (.cells (vi12 (List.replicate n 0)) 3)) := (Below.refl _ _).alloc (Nat.le_refl _) _
  have HL1 : Hid (Lr12 (w.alloc (.cells (vi12 (List.replicate n 0)) 3)) b a n cap s K gs gf gn w.heap.size nx (List.replicate n 0)) := Lr12.of h hal (Rz12.new w _) (by simp)
  have HKA : Hid (Kp (Wr12 gn w.heap.size) w (w.alloc (.cells (vi12 (List.replicate n 0)) 3))) := Kp.of_below hal
  have HSEG : Hid (∀ w', Kp (Wr12 gn w.heap.size) w w' → SegZ w' oa (nz12 o)) := fun w' k => hseg.kp k (fun x off hx hp hw => by
    rcases hw with e | e
    · exact hoa x off hx hp e
    · have := hseg.lt x off hx hp; omega)
  have HOA : Hid (∀ x off, oa = some ⟨x, off, none⟩ → 0 < (nz12 o).length → x ≠ gn ∧ x ≠ w.heap.size) := fun x off hx hp => ⟨hoa x off hx hp, by have := hseg.lt x off hx hp; omega⟩
  have HFIN : Hid (∀ w' nx' R', Lr12 w' b a n cap s K gs gf gn w.heap.size nx' R' → Lm12 n s R' nx' (st3_12 n (S12 s) (sm12 s) o n) → Kp (Wr12 gn w.heap.size) w w' → Rz12 w' w.heap.size (il12 s o) ∧ (∃ nx', Li12 w' b a n cap s K gs gf gn nx') ∧ Kp (fun k => k = gn) w w') := by
    intro w' nx' R' L M k
    refine ⟨?_, ⟨nx', L.li⟩, k.mono (fun i hi e => ?_)⟩
    · have e : R' = il12 s o := by
        refine ext12 (d := 0) (by rw [L.rl, il12_len, hn.out]) fun q hq => ?_
        rw [L.rl] at hq
        have h1 := M.row (n - 1 - q) (by omega)
        rw [show n - 1 - (n - 1 - q) = q by omega] at h1
        rw [h1]
        have hq2 : q < s.length := by rw [hn.out]; exact hq
        have : (il12 s o).getD q 0 = ind12 s.length (S12 s) (sm12 s) o q := by simp [il12, List.getD, hq2]
        rw [this, hn.out]
        rfl
      rw [← e]; exact L.row
    · rcases e with e | e
      · exact e
      · omega
  have hty : Ty12 n (S12 s) (sm12 s) := by have := ty12 s; rw [hn.out] at this; exact this
  have HP1 : Hid (∀ w' R', Lr12 w' b a n cap s K gs gf gn w.heap.size nx R' → (∀ q, q < n → R'.getD q 0 = -1) → Kp (Wr12 gn w.heap.size) w w' → Calls Tryz.prog 193 #[.pointer (some ⟨b, 0, none⟩), .slice (some ⟨w.heap.size, 0, none⟩) n n, .slice oa m oc] w' fun e w2 => e = .returned (.tuple #[]) ∧ ∃ nx2 R2, Lr12 w2 b a n cap s K gs gf gn w.heap.size nx2 R2 ∧ Lm12 n s R2 nx2 (ps12 n (S12 s) o) ∧ Kp (Wr12 gn w.heap.size) w' w2) :=
    fun w' R' L hR k => ppt12 b a n cap s K gs gf gn w.heap.size nx R' oa o m oc w' L hW hR ho hm hmb (HSEG.out w' k) HOA.out
  have HP2 : Hid (∀ w' nx' R', Lr12 w' b a n cap s K gs gf gn w.heap.size nx' R' → Lm12 n s R' nx' (ps12 n (S12 s) o) → Calls Tryz.prog 194 #[.pointer (some ⟨b, 0, none⟩), .slice (some ⟨w.heap.size, 0, none⟩) n n] w' fun e w2 => e = .returned (.tuple #[]) ∧ ∃ nx2 R2, Lr12 w2 b a n cap s K gs gf gn w.heap.size nx2 R2 ∧ Lk12 n s R2 nx2 (st2_12 n (S12 s) (sm12 s) o n) ∧ Kp (Wr12 gn w.heap.size) w' w2) :=
    fun w' nx' R' L M => ppg12 b a n cap s K gs gf gn w.heap.size nx' R' o w' L hW (fun q hq => by
      have h1 := M.row (n - 1 - q) (by omega)
      rw [show n - 1 - (n - 1 - q) = q by omega] at h1
      exact h1) ho
  have HP3 : Hid (∀ w' nx' R', Lr12 w' b a n cap s K gs gf gn w.heap.size nx' R' → Lk12 n s R' nx' (st2_12 n (S12 s) (sm12 s) o n) → Calls Tryz.prog 195 #[.pointer (some ⟨b, 0, none⟩), .slice (some ⟨w.heap.size, 0, none⟩) n n] w' fun e w2 => e = .returned (.tuple #[]) ∧ ∃ R2, Lr12 w2 b a n cap s K gs gf gn w.heap.size nx' R2 ∧ (∀ q, q < n → R2.getD q 0 = tak12 (sm12 s) (st2_12 n (S12 s) (sm12 s) o n).1 q) ∧ Kp (Wr12 gn w.heap.size) w' w2) :=
    fun w' nx' R' L M => ptk12 b a n cap s K gs gf gn w.heap.size nx' R' _ w' L hW M.row (fun q hq => by
      rcases (st2_t hty ho n (Nat.le_refl n)).st.ok q hq with e | ⟨j, hj, e, _⟩
      · exact Or.inl e
      · exact Or.inr ⟨j, hj, e⟩)
  have HP4 : Hid (∀ w' nx' R', Lr12 w' b a n cap s K gs gf gn w.heap.size nx' R' → (∀ q, q < n → R'.getD q 0 = tak12 (sm12 s) (st2_12 n (S12 s) (sm12 s) o n).1 q) → Calls Tryz.prog 196 #[.pointer (some ⟨b, 0, none⟩), .slice (some ⟨w.heap.size, 0, none⟩) n n] w' fun e w2 => e = .returned (.tuple #[]) ∧ ∃ nx2 R2, Lr12 w2 b a n cap s K gs gf gn w.heap.size nx2 R2 ∧ Lm12 n s R2 nx2 (st3_12 n (S12 s) (sm12 s) o n) ∧ Kp (Wr12 gn w.heap.size) w' w2) :=
    fun w' nx' R' L hR => pps12 b a n cap s K gs gf gn w.heap.size nx' R' o w' L hW hR ho
  clear h hseg hoa hal hty hW ho HSEG HOA
  generalize hg : w.heap.size = g at *
  generalize hw1 : w.alloc (.cells (vi12 (List.replicate n 0)) 3) = w1 at *
  clear hg hw1
  go_enter Tryz.func164, Tryz.ntmps164
  go_wp2_with fail
  go_loopw [15] (fun ti wr => ∃ (p : Nat) (R' : List Int), p ≤ n ∧ ti = .int .i64 p ∧ Lr12 wr b a n cap s K gs gf gn g nx R' ∧ Hid (∀ q, q < p → R'.getD q 0 = -1) ∧ Kp (Wr12 gn g) w wr) (fun ti _ => n - (intOf ti).toNat)
  case atStart => exact ⟨0, _, Nat.zero_le _, rfl, HL1.out, (fun q hq => by omega : ∀ q, q < 0 → _), HKA.out⟩
  case round =>
    obtain ⟨p, R', hp, rfl, LR, HQ, KB⟩ := hrel
    by_cases h1 : p < n
    · have h1i : (p : Int) < (n : Int) := by omega
      have c1 := LR.row.cell (i := p) (by rw [LR.rl]; omega)
      have f1 := LR.row.free p
      generalize R'.getD p 0 = y at c1
      have HLR2 : Hid (Lr12 (wr.setCell ⟨g, p, none⟩ (.int .i64 (-1))) b a n cap s K gs gf gn g nx (R'.set p (-1))) := LR.setR p (-1)
      have HKB : Hid (Kp (Wr12 gn g) w (wr.setCell ⟨g, p, none⟩ (.int .i64 (-1)))) := KB.trans (Kp.set (S := Wr12 gn g) (Or.inr rfl) _) (fun _ _ e => e)
      have HQ2 : Hid (∀ q, q < p + 1 → (R'.set p (-1)).getD q 0 = -1) := by
        intro q hq
        rw [getD_set12 _ _ _ _ (by rw [LR.rl]; omega)]
        by_cases e : q = p
        · rw [if_pos e]
        · rw [if_neg e]; exact HQ.out q (by omega)
      clear LR HQ
      go_wp2_with fail
      go_roundw
      case rel => exact ⟨p + 1, _, by omega, by go_num, HLR2.out, HQ2.out, HKB.out⟩
      case measure => simp [intOf]; omega
    · have h1i : ¬ (p : Int) < (n : Int) := by omega
      obtain rfl : p = n := by omega
      go_wp2_with (first
        | (go_at_call 193; refine (HP1.out _ R' LR HQ.out KB).mono ?_; rintro e1 wA ⟨rfl, nA, RA, LA, MA, KA⟩)
        | (go_at_call 194; refine (HP2.out _ nA RA LA MA).mono ?_; rintro e2 wB ⟨rfl, nB, RB, LB, MB, KC⟩)
        | (go_at_call 195; refine (HP3.out _ nB RB LB MB).mono ?_; rintro e3 wC ⟨rfl, RC, LC, MC, KD⟩)
        | (go_at_call 196; refine (HP4.out _ nB RC LC MC).mono ?_; rintro e4 wD ⟨rfl, nD, RD, LD, MD, KE⟩))
      go_ret
      exact ⟨rfl, HFIN.out _ nD RD LD MD ((((KB.trans KA (fun _ _ e => e)).trans KC (fun _ _ e => e)).trans KD (fun _ _ e => e)).trans KE (fun _ _ e => e))⟩
end Go.Proofs.YtmfpdchfofffeaaGreatDoor

namespace Go.Proofs.YtmfpdchfofffeaaGreatDoor
set_option linter.unusedVariables false
structure Al12 (n : Nat) (S : Nat → Int) (sm : Nat → Bool) (x y i : Nat) : Prop where
  p : 0 < i → ((key12 n S sm x = key12 n S sm y ↔ tkey12 n S sm (x + i) = tkey12 n S sm (y + i)) ∧ sm (x + i - 1) = sm (y + i - 1))
theorem Al12.zero (n : Nat) (S : Nat → Int) (sm : Nat → Bool) (x y : Nat) : Al12 n S sm x y 0 := ⟨fun h => by omega⟩
theorem Al12.diff {n : Nat} {S : Nat → Int} {sm : Nat → Bool} {x y i : Nat} (h : Al12 n S sm x y i) (hx : x + i < n) (hy : y + i < n) (hd : ¬ (S (x + i) = S (y + i) ∧ sm (x + i) = sm (y + i))) : ¬ key12 n S sm x = key12 n S sm y := by
  have hc : ¬ cd12 S sm (x + i) = cd12 S sm (y + i) := fun e => hd (cd12_eq.1 e)
  by_cases h0 : i = 0
  · subst h0
    intro e
    unfold key12 at e
    exact hc (List.cons.inj e).1
  · rw [(h.p (by omega)).1]
    obtain ⟨a, ha⟩ := tkey12_head (S := S) (sm := sm) hx
    obtain ⟨b, hb⟩ := tkey12_head (S := S) (sm := sm) hy
    rw [ha, hb]
    intro e
    exact hc (List.cons.inj e).1
theorem Al12.turns {n : Nat} {S : Nat → Int} {sm : Nat → Bool} {x y i : Nat} (h : Al12 n S sm x y i) (hi : 0 < i) (he : sm (x + i) = sm (y + i)) : tn12 sm (x + i) ↔ tn12 sm (y + i) := by
  have := (h.p hi).2
  unfold tn12
  rw [he, this]
  constructor
  · rintro ⟨_, b, c⟩; exact ⟨by omega, b, c⟩
  · rintro ⟨_, b, c⟩; exact ⟨by omega, b, c⟩
theorem Al12.turn {n : Nat} {S : Nat → Int} {sm : Nat → Bool} {x y i : Nat} (h : Al12 n S sm x y i) (hi : 0 < i) (hx : x + i < n) (hy : y + i < n) (e1 : S (x + i) = S (y + i)) (e2 : sm (x + i) = sm (y + i)) (ht : tn12 sm (x + i)) : key12 n S sm x = key12 n S sm y := by
  rw [(h.p hi).1, tkey12_turn hx ht, tkey12_turn hy ((h.turns hi e2).1 ht), cd12_eq.2 ⟨e1, e2⟩]
theorem Al12.step {n : Nat} {S : Nat → Int} {sm : Nat → Bool} {x y i : Nat} (h : Al12 n S sm x y i) (hx : x + i < n) (hy : y + i < n) (e1 : S (x + i) = S (y + i)) (e2 : sm (x + i) = sm (y + i)) (ht : 0 < i → ¬ tn12 sm (x + i)) : Al12 n S sm x y (i + 1) := by
  refine ⟨fun _ => ⟨?_, e2⟩⟩
  have hcd := cd12_eq.2 ⟨e1, e2⟩
  by_cases h0 : i = 0
  · subst h0
    unfold key12
    simp only [Nat.add_zero] at hcd
    rw [hcd]
    simp
  · have ht1 := ht (by omega)
    have ht2 : ¬ tn12 sm (y + i) := fun k => ht1 ((h.turns (by omega) e2).2 k)
    rw [(h.p (by omega)).1, tkey12_on hx ht1, tkey12_on hy ht2]
    unfold key12
    rw [hcd]
    simp [Nat.add_assoc]
theorem Al12.fin {n : Nat} {S : Nat → Int} {sm : Nat → Bool} {x y i : Nat} (h : Al12 n S sm x y i) (hx : x < n) (hy : y < n) (hne : x ≠ y) (h1 : x + i ≤ n) (h2 : y + i ≤ n) (h3 : x + i = n ∨ y + i = n) : ¬ key12 n S sm x = key12 n S sm y := by
  rw [(h.p (by omega)).1]
  rcases h3 with h3 | h3
  · rw [tkey12_none (i := x + i) (by omega)]
    obtain ⟨b, hb⟩ := tkey12_head (n := n) (S := S) (sm := sm) (i := y + i) (by omega)
    rw [hb]
    exact fun e => by cases e
  · rw [tkey12_none (i := y + i) (by omega)]
    obtain ⟨b, hb⟩ := tkey12_head (n := n) (S := S) (sm := sm) (i := x + i) (by omega)
    rw [hb]
    exact fun e => by cases e
end Go.Proofs.YtmfpdchfofffeaaGreatDoor

namespace Go.Proofs.YtmfpdchfofffeaaGreatDoor
open Go.RowKit
set_option linter.unusedVariables false
def AlQ12 (w : World) (P : Prop) (e : Ending) (w' : World) : Prop := ∃ B : Bool, e = .returned (.bool B) ∧ (B = true ↔ P) ∧ Below w.heap.size w w'
set_option maxRecDepth 100000 in
set_option maxHeartbeats 4000000 in
theorem pal12 (b : Nat) (a : Option Addr) (n cap : Nat) (s : List Int) (K gs gf gn : Nat) (nx : List Int) (x y : Nat) (w : World) (h : Li12 w b a n cap s K gs gf gn nx) (hW : Wf12 s n K) (hx : x < n) (hy : y < n) (hne : x ≠ y) :
    Calls Tryz.prog 227 #[.pointer (some ⟨b, 0, none⟩), .int .i64 (x : Int), .int .i64 (y : Int)] w (AlQ12 w (key12 n (S12 s) (sm12 s) x = key12 n (S12 s) (sm12 s) y)) := by
  have n24 := hW.n24
  have hn : Hid (s.length = n) := hW.len
  have HC0 : Hid (∀ w', Below w.heap.size w w' → w'.cell? ⟨b, 0, none⟩ = some (.slice a n cap) ∧ w'.cell? ⟨b, 1, none⟩ = some (.slice (some ⟨gs, 0, none⟩) n n)) := fun w' hb => by
    have q := (hb.block b h.lt).trans h.hp
    exact ⟨by simp [World.cell?, q], by simp [World.cell?, q]⟩
  have HSG : Hid (∀ w', Below w.heap.size w w' → SegZ w' a s) := fun w' hb => h.seg.old hb
  have HSM : Hid (∀ w', Below w.heap.size w w' → Rb12 w' gs (typ12 s)) := fun w' hb => h.sm.old hb
  obtain ⟨q0, q1⟩ := HC0.out w (Below.refl _ _)
  have HTI : Hid (∀ w' i, Below w.heap.size w w' → x + i < n → Calls Tryz.prog 226 #[.slice (some ⟨gs, 0, none⟩) n n, .int .i64 ((x : Int) + (i : Int))] w' fun e w2 => e = .returned (.bool (tb12 (sm12 s) (x + i))) ∧ Below w'.heap.size w' w2) := by
    intro w' i hb hi
    have := pist12 (some ⟨gs, 0, none⟩) (typ12 s) n n (x + i) w' (HSM.out w' hb).seg (by show _ = _; rw [typ12_len, hn.out]) hi (by omega)
    rw [show (((x + i : Nat)) : Int) = (x : Int) + (i : Int) by omega, show gb12 (typ12 s) = sm12 s from funext (typ12_get s)] at this
    exact this
  have hxi : (x : Int) < 16777216 := by omega
  have hyi : (y : Int) < 16777216 := by omega
  clear h hW
  rcases Nat.lt_trichotomy x y with hxy | hxy | hxy
  · have hxyi : (x : Int) < (y : Int) := by omega
    go_enter Tryz.func227, Tryz.ntmps227
    go_wp2_with fail
    go_loopw [17] (fun ti wr => ∃ i : Nat, i + y ≤ n ∧ ti = .int .i64 i ∧ Hid (Al12 n (S12 s) (sm12 s) x y i) ∧ Below w.heap.size w wr) (fun ti _ => n - (intOf ti).toNat)
    case atStart => exact ⟨0, by omega, rfl, Al12.zero _ _ _ _ _, Below.refl _ _⟩
    case round =>
      obtain ⟨i, hi, rfl, HA, hb⟩ := hrel
      by_cases h1 : i + y < n
      · have h1i : (i : Int) < (n : Int) - (y : Int) := by omega
        have hxi2 : (x : Int) + (i : Int) < (n : Int) := by omega
        have hyi2 : (y : Int) + (i : Int) < (n : Int) := by omega
        obtain ⟨r0, r1⟩ := HC0.out wr hb
        have hsg := HSG.out wr hb
        have hsm := HSM.out wr hb
        obtain ⟨ab, off, rfl, c1⟩ := hsg.at_ (x + i) (by rw [hn.out]; omega)
        have c2 : wr.cell? ⟨ab, off + (y + i), none⟩ = some (.int .i64 (s.getD (y + i) 0)) := by
          obtain ⟨b', off', ha, c⟩ := hsg.at_ (y + i) (by rw [hn.out]; omega)
          cases ha
          exact c
        have c3 := hsm.cell (i := x + i) (by rw [typ12_len, hn.out]; omega)
        have c4 := hsm.cell (i := y + i) (by rw [typ12_len, hn.out]; omega)
        rw [typ12_get] at c3 c4
        have bd1 := hsg.bd (x + i)
        have bd2 := hsg.bd (y + i)
        have HDF : Hid (¬ (S12 s (x + i) = S12 s (y + i) ∧ sm12 s (x + i) = sm12 s (y + i)) → ¬ key12 n (S12 s) (sm12 s) x = key12 n (S12 s) (sm12 s) y) := HA.out.diff (by omega) (by omega)
        have HEQ : Hid (S12 s (x + i) = s.getD (x + i) 0 ∧ S12 s (y + i) = s.getD (y + i) 0) := ⟨rfl, rfl⟩
        clear hsg hsm
        generalize s.getD (x + i) 0 = v1 at *
        generalize s.getD (y + i) 0 = v2 at *
        by_cases hv : v1 = v2
        · subst hv
          by_cases ht : sm12 s (x + i) = sm12 s (y + i)
          · have HST : Hid ((0 < i → ¬ tn12 (sm12 s) (x + i)) → Al12 n (S12 s) (sm12 s) x y (i + 1)) := HA.out.step (by omega) (by omega) (by rw [HEQ.out.1, HEQ.out.2]) ht
            have HTN : Hid (0 < i → tn12 (sm12 s) (x + i) → key12 n (S12 s) (sm12 s) x = key12 n (S12 s) (sm12 s) y) := fun p q => HA.out.turn p (by omega) (by omega) (by rw [HEQ.out.1, HEQ.out.2]) ht q
            rw [← ht] at c4
            have HT2 := HTI.out wr.drew i hb.drew (by omega)
            clear ht
            have HTB : Hid (tb12 (sm12 s) (x + i) = true ↔ tn12 (sm12 s) (x + i)) := tb12_iff
            generalize sm12 s (x + i) = t1 at c3 c4
            by_cases h0 : i = 0
            · subst h0
              have c1b : wr.cell? ⟨ab, off + x, none⟩ = some (.int .i64 v1) := c1
              have c2b : wr.cell? ⟨ab, off + y, none⟩ = some (.int .i64 v1) := c2
              have c3b : wr.cell? ⟨gs, x, none⟩ = some (.bool t1) := c3
              have c4b : wr.cell? ⟨gs, y, none⟩ = some (.bool t1) := c4
              cases t1 <;>
              · go_wp2_with fail
                go_region
                go_wp2_with fail
                go_roundw
                case rel => exact ⟨1, by omega, by go_num, HST.out (fun q => by omega), hb.drew⟩
                case measure => simp [intOf]; omega
            · have h0i : (0 : Int) < (i : Int) := by omega
              have h0n : 0 < i := by omega
              generalize tb12 (sm12 s) (x + i) = t2 at *
              cases t2
              · cases t1 <;>
                · go_wp2_with fail
                  go_region
                  go_wp2_with fail
                  refine HT2.mono ?_
                  rintro e2 w2 ⟨rfl, B2⟩
                  go_wp2_with fail
                  go_roundw
                  case rel => exact ⟨i + 1, by omega, by go_num, HST.out (fun _ q => by have := HTB.out.2 q; cases this), hb.drew.trans (B2.mono hb.drew.size)⟩
                  case measure => simp [intOf]; omega
              · cases t1 <;>
                · go_wp2_with fail
                  go_region
                  go_wp2_with fail
                  refine HT2.mono ?_
                  rintro e2 w2 ⟨rfl, B2⟩
                  go_wp2_with fail
                  go_ret
                  exact ⟨true, rfl, ⟨fun _ => HTN.out (by omega) (HTB.out.1 (by first | trivial | rfl)), fun _ => rfl⟩, hb.drew.trans (B2.mono hb.drew.size)⟩
          · have HNO : Hid (¬ key12 n (S12 s) (sm12 s) x = key12 n (S12 s) (sm12 s) y) := HDF.out (fun q => ht q.2)
            generalize sm12 s (x + i) = t1 at *
            generalize sm12 s (y + i) = t2 at *
            cases t1 <;> cases t2 <;> first
              | exact absurd rfl ht
              | (go_wp2_with fail
                 go_region
                 go_wp2_with fail
                 go_ret
                 exact ⟨false, rfl, ⟨fun q => (by cases q), fun q => absurd q HNO.out⟩, hb.drew⟩)
        · have HNO : Hid (¬ key12 n (S12 s) (sm12 s) x = key12 n (S12 s) (sm12 s) y) := HDF.out (fun q => hv (by rw [← HEQ.out.1, ← HEQ.out.2]; exact q.1))
          have hv2 : (v1 == v2) = false := by simp [hv]
          have hv3 : decide (v1 = v2) = false := by simp [hv]
          have hv4 : (v1 != v2) = true := by simp [hv]
          have hv5 : decide (¬ v1 = v2) = true := by simp [hv]
          go_wp2_with fail
          go_region
          go_wp2_with fail
          go_ret
          exact ⟨false, rfl, ⟨fun q => (by cases q), fun q => absurd q HNO.out⟩, hb.drew⟩
      · have h1i : ¬ (i : Int) < (n : Int) - (y : Int) := by omega
        have HNO : Hid (¬ key12 n (S12 s) (sm12 s) x = key12 n (S12 s) (sm12 s) y) := HA.out.fin hx hy hne (by omega) (by omega) (by omega)
        go_wp2_with fail
        go_ret
        exact ⟨false, rfl, ⟨fun q => (by cases q), fun q => absurd q HNO.out⟩, hb⟩
  · exact absurd hxy hne
  · have hxyi : (y : Int) < (x : Int) := by omega
    go_enter Tryz.func227, Tryz.ntmps227
    go_wp2_with fail
    go_loopw [17] (fun ti wr => ∃ i : Nat, i + x ≤ n ∧ ti = .int .i64 i ∧ Hid (Al12 n (S12 s) (sm12 s) x y i) ∧ Below w.heap.size w wr) (fun ti _ => n - (intOf ti).toNat)
    case atStart => exact ⟨0, by omega, rfl, Al12.zero _ _ _ _ _, Below.refl _ _⟩
    case round =>
      obtain ⟨i, hi, rfl, HA, hb⟩ := hrel
      by_cases h1 : i + x < n
      · have h1i : (i : Int) < (n : Int) - (x : Int) := by omega
        have hxi2 : (x : Int) + (i : Int) < (n : Int) := by omega
        have hyi2 : (y : Int) + (i : Int) < (n : Int) := by omega
        obtain ⟨r0, r1⟩ := HC0.out wr hb
        have hsg := HSG.out wr hb
        have hsm := HSM.out wr hb
        obtain ⟨ab, off, rfl, c1⟩ := hsg.at_ (x + i) (by rw [hn.out]; omega)
        have c2 : wr.cell? ⟨ab, off + (y + i), none⟩ = some (.int .i64 (s.getD (y + i) 0)) := by
          obtain ⟨b', off', ha, c⟩ := hsg.at_ (y + i) (by rw [hn.out]; omega)
          cases ha
          exact c
        have c3 := hsm.cell (i := x + i) (by rw [typ12_len, hn.out]; omega)
        have c4 := hsm.cell (i := y + i) (by rw [typ12_len, hn.out]; omega)
        rw [typ12_get] at c3 c4
        have bd1 := hsg.bd (x + i)
        have bd2 := hsg.bd (y + i)
        have HDF : Hid (¬ (S12 s (x + i) = S12 s (y + i) ∧ sm12 s (x + i) = sm12 s (y + i)) → ¬ key12 n (S12 s) (sm12 s) x = key12 n (S12 s) (sm12 s) y) := HA.out.diff (by omega) (by omega)
        have HEQ : Hid (S12 s (x + i) = s.getD (x + i) 0 ∧ S12 s (y + i) = s.getD (y + i) 0) := ⟨rfl, rfl⟩
        clear hsg hsm
        generalize s.getD (x + i) 0 = v1 at *
        generalize s.getD (y + i) 0 = v2 at *
        by_cases hv : v1 = v2
        · subst hv
          by_cases ht : sm12 s (x + i) = sm12 s (y + i)
          · have HST : Hid ((0 < i → ¬ tn12 (sm12 s) (x + i)) → Al12 n (S12 s) (sm12 s) x y (i + 1)) := HA.out.step (by omega) (by omega) (by rw [HEQ.out.1, HEQ.out.2]) ht
            have HTN : Hid (0 < i → tn12 (sm12 s) (x + i) → key12 n (S12 s) (sm12 s) x = key12 n (S12 s) (sm12 s) y) := fun p q => HA.out.turn p (by omega) (by omega) (by rw [HEQ.out.1, HEQ.out.2]) ht q
            rw [← ht] at c4
            have HT2 := HTI.out wr.drew i hb.drew (by omega)
            clear ht
            have HTB : Hid (tb12 (sm12 s) (x + i) = true ↔ tn12 (sm12 s) (x + i)) := tb12_iff
            generalize sm12 s (x + i) = t1 at c3 c4
            by_cases h0 : i = 0
            · subst h0
              have c1b : wr.cell? ⟨ab, off + x, none⟩ = some (.int .i64 v1) := c1
              have c2b : wr.cell? ⟨ab, off + y, none⟩ = some (.int .i64 v1) := c2
              have c3b : wr.cell? ⟨gs, x, none⟩ = some (.bool t1) := c3
              have c4b : wr.cell? ⟨gs, y, none⟩ = some (.bool t1) := c4
              cases t1 <;>
              · go_wp2_with fail
                go_region
                go_wp2_with fail
                go_roundw
                case rel => exact ⟨1, by omega, by go_num, HST.out (fun q => by omega), hb.drew⟩
                case measure => simp [intOf]; omega
            · have h0i : (0 : Int) < (i : Int) := by omega
              have h0n : 0 < i := by omega
              generalize tb12 (sm12 s) (x + i) = t2 at *
              cases t2
              · cases t1 <;>
                · go_wp2_with fail
                  go_region
                  go_wp2_with fail
                  refine HT2.mono ?_
                  rintro e2 w2 ⟨rfl, B2⟩
                  go_wp2_with fail
                  go_roundw
                  case rel => exact ⟨i + 1, by omega, by go_num, HST.out (fun _ q => by have := HTB.out.2 q; cases this), hb.drew.trans (B2.mono hb.drew.size)⟩
                  case measure => simp [intOf]; omega
              · cases t1 <;>
                · go_wp2_with fail
                  go_region
                  go_wp2_with fail
                  refine HT2.mono ?_
                  rintro e2 w2 ⟨rfl, B2⟩
                  go_wp2_with fail
                  go_ret
                  exact ⟨true, rfl, ⟨fun _ => HTN.out (by omega) (HTB.out.1 (by first | trivial | rfl)), fun _ => rfl⟩, hb.drew.trans (B2.mono hb.drew.size)⟩
          · have HNO : Hid (¬ key12 n (S12 s) (sm12 s) x = key12 n (S12 s) (sm12 s) y) := HDF.out (fun q => ht q.2)
            generalize sm12 s (x + i) = t1 at *
            generalize sm12 s (y + i) = t2 at *
            cases t1 <;> cases t2 <;> first
              | exact absurd rfl ht
              | (go_wp2_with fail
                 go_region
                 go_wp2_with fail
                 go_ret
                 exact ⟨false, rfl, ⟨fun q => (by cases q), fun q => absurd q HNO.out⟩, hb.drew⟩)
        · have HNO : Hid (¬ key12 n (S12 s) (sm12 s) x = key12 n (S12 s) (sm12 s) y) := HDF.out (fun q => hv (by rw [← HEQ.out.1, ← HEQ.out.2]; exact q.1))
          have hv2 : (v1 == v2) = false := by simp [hv]
          have hv3 : decide (v1 = v2) = false := by simp [hv]
          have hv4 : (v1 != v2) = true := by simp [hv]
          have hv5 : decide (¬ v1 = v2) = true := by simp [hv]
          go_wp2_with fail
          go_region
          go_wp2_with fail
          go_ret
          exact ⟨false, rfl, ⟨fun q => (by cases q), fun q => absurd q HNO.out⟩, hb.drew⟩
      · have h1i : ¬ (i : Int) < (n : Int) - (x : Int) := by omega
        have HNO : Hid (¬ key12 n (S12 s) (sm12 s) x = key12 n (S12 s) (sm12 s) y) := HA.out.fin hx hy hne (by omega) (by omega) (by omega)
        go_wp2_with fail
        go_ret
        exact ⟨false, rfl, ⟨fun q => (by cases q), fun q => absurd q HNO.out⟩, hb⟩
end Go.Proofs.YtmfpdchfofffeaaGreatDoor

namespace Go.Proofs.YtmfpdchfofffeaaGreatDoor
open Go.RowKit
set_option linter.unusedVariables false
set_option maxRecDepth 100000 in
set_option maxHeartbeats 4000000 in
theorem pto12 (b : Nat) (a : Option Addr) (n cap : Nat) (s : List Int) (K gs gf gn gr : Nat) (nx : List Int) (A : List Nat) (m : Nat) (w : World) (h : Li12 w b a n cap s K gs gf gn nx) (hW : Wf12 s n K) (hr : Rz12 w gr (nz12 A)) (hA : A.length = n) (hAl : ∀ j ∈ A, j < n) (hm : m ≤ 16777216) :
    Calls Tryz.prog 198 #[.pointer (some ⟨b, 0, none⟩), .slice (some ⟨gr, 0, none⟩) n n, .int .i64 (m : Int)] w (AnsZ12 w (nz12 (by12 (sm12 s) A))) := by
  have n24 := hW.n24
  have hn : Hid (s.length = n) := hW.len
  obtain ⟨i0, hi, hz0, hz1, hz2⟩ := info_parts info_i12
  have HC0 : Hid (∀ w', Below w.heap.size w w' → w'.cell? ⟨b, 1, none⟩ = some (.slice (some ⟨gs, 0, none⟩) n n)) := fun w' hb => by
    have q := (hb.block b h.lt).trans h.hp
    simp [World.cell?, q]
  have HSM : Hid (∀ w', Below w.heap.size w w' → Rb12 w' gs (typ12 s)) := fun w' hb => h.sm.old hb
  have HRO : Hid (∀ w', Below w.heap.size w w' → Rz12 w' gr (nz12 A)) := fun w' hb => hr.old hb
  have HTI : Hid (∀ w' j, Below w.heap.size w w' → j < n → Calls Tryz.prog 226 #[.slice (some ⟨gs, 0, none⟩) n n, .int .i64 (j : Int)] w' fun e w2 => e = .returned (.bool (tb12 (sm12 s) j)) ∧ Below w'.heap.size w' w2) := by
    intro w' j hb hj
    have := pist12 (some ⟨gs, 0, none⟩) (typ12 s) n n j w' (HSM.out w' hb).seg (by show _ = _; rw [typ12_len, hn.out]) hj (by omega)
    rw [show gb12 (typ12 s) = sm12 s from funext (typ12_get s)] at this
    exact this
  have HLE : Hid (∀ k, ((A.take k).filter (tb12 (sm12 s))).length ≤ k) := fun k => Nat.le_trans (List.length_filter_le _ _) (List.length_take_le k A)
  have HST : Hid (∀ k, k < n → (A.take (k + 1)).filter (tb12 (sm12 s)) = if tb12 (sm12 s) (A.getD k 0) = true then (A.take k).filter (tb12 (sm12 s)) ++ [A.getD k 0] else (A.take k).filter (tb12 (sm12 s))) := by
    intro k hk
    have hk2 : k < A.length := by rw [hA]; exact hk
    have e : A.take (k + 1) = A.take k ++ [A.getD k 0] := by rw [List.take_add_one]; simp [List.getD, hk2]
    rw [e, List.filter_append]
    by_cases ht : tb12 (sm12 s) (A.getD k 0) = true
    · simp only [List.filter_cons, ht, if_true, List.filter_nil]
    · simp only [List.filter_cons, ht, List.filter_nil]; simp
  have HEL : Hid (∀ k, k < n → A.getD k 0 < n ∧ (nz12 A).getD k 0 = ((A.getD k 0 : Nat) : Int)) := fun k hk => ⟨by
    have hk2 : k < A.length := by rw [hA]; exact hk
    have : A.getD k 0 = A[k] := by simp [List.getD, hk2]
    rw [this]; exact hAl _ (List.getElem_mem hk2), nz12_get A k 0 (by rw [hA]; exact hk)⟩
  have HFA : Hid ((A.take n).filter (tb12 (sm12 s)) = by12 (sm12 s) A) := by show _ = _; rw [List.take_of_length_le (by rw [hA]; exact Nat.le_refl n)]; rfl
  obtain ⟨w1, HM1, own1, g1⟩ := run_make_own (P := Tryz.prog) (w := w) w.heap.size 95 3 i0 (.int .i64 0) 1 Tryz.underlying95 hi hz0 hz1 .i64 .i64 m (by rw [hz2]; omega) (by unfold maxLen; omega) (Nat.le_refl _)
  have hb1 : Below w.heap.size w w1 := (Below.refl _ _).grown g1 (Nat.le_refl _) (fun k hk => by cases hk)
  have HNL : Hid ((nz12 A).length = n) := by show _ = _; rw [nz12_len, hA]
  clear h hW hr hA hAl g1
  go_enter Tryz.func198, Tryz.ntmps198
  go_wp2_with fail
  go_loopw [7, 14] (fun to ti wr => ∃ (k c rc : Nat) (ra : Option Addr), k ≤ n ∧ ti = .int .i64 k ∧ to = .slice ra c rc ∧ Hid (((A.take k).filter (tb12 (sm12 s))).length = c) ∧ wr.ownsRow w.heap.size 3 1 (.slice ra c rc) c ((nz12 ((A.take k).filter (tb12 (sm12 s)))).map (Value.int .i64)) ∧ Below w.heap.size w wr) (fun _ ti _ => n - (intOf ti).toNat)
  case atStart => exact ⟨0, 0, m, _, Nat.zero_le _, rfl, rfl, (by simp : _ = _), own1, hb1⟩
  case round =>
    obtain ⟨k, c, rc, ra, hk, rfl, rfl, HM, hown, hb2⟩ := hrel
    have hsz : w.heap.size ≤ wr.heap.size := hb2.size
    have hck : c ≤ k := by rw [← HM.out]; exact HLE.out k
    by_cases h1 : k < n
    · have h1i : (k : Int) < (n : Int) := by omega
      obtain ⟨hj, ej⟩ := HEL.out k h1
      have c1 := (HRO.out wr hb2).cell (i := k) (by rw [HNL.out]; exact h1)
      rw [ej] at c1
      have q1 := HC0.out wr hb2
      have HC := HTI.out wr (A.getD k 0) hb2 hj
      have HS := HST.out k h1
      have HS2 : Hid _ := HS
      clear HS ej
      generalize A.getD k 0 = j at *
      generalize tb12 (sm12 s) j = t at *
      generalize (A.take k).filter (tb12 (sm12 s)) = T at *
      cases t
      · go_wp2_with (first | (go_at_call 226; refine HC.mono ?_; rintro e1 w2 ⟨rfl, B1⟩))
        go_roundw
        case rel => exact ⟨k + 1, c, rc, ra, by omega, by go_num, rfl, (by rw [HS2.out]; exact HM.out : _ = _), by rw [HS2.out]; exact own_below hown B1, hb2.trans (B1.mono hsz)⟩
        case measure => simp [intOf]; omega
      · have hown2 : ∀ w2, Below wr.heap.size wr w2 → w2.ownsRow w.heap.size 3 1 (.slice ra c rc) c ((nz12 T).map (Value.int .i64)) := fun w2 B1 => own_below hown B1
        go_wp2_with (first
          | (go_at_call 226; refine HC.mono ?_; rintro e1 w2 ⟨rfl, B1⟩; have OX := hown2 w2 B1; have hsz1 : w.heap.size ≤ w2.heap.size := Nat.le_trans hsz B1.size)
          | (at_builtin; refine wpList_ap12 rfl (.tmp 24) (.tmp 26) 95 rfl w.heap.size 3 i0 (.int .i64 0) 8 Tryz.underlying95 hi hz0 hz1 hz2 rfl w2 _ OX rfl rfl (by omega) (by omega) hsz1 ?_; intro ga gc w3 own3 hk3 hat3))
        have B3 : Below w.heap.size w w3 := (hb2.trans (B1.mono hsz)).trans (hk3.below (fun q e => (OX.lt q e).1) hsz1)
        go_roundw
        case rel => exact ⟨k + 1, c + 1, gc, some ⟨ga, 0, none⟩, by omega, by go_num, rfl, (by rw [HS2.out]; simp [HM.out] : _ = _), by rw [HS2.out]; simpa [nz12] using own3, B3⟩
        case measure => simp [intOf]; omega
    · have h1i : ¬ (k : Int) < (n : Int) := by omega
      obtain rfl : k = n := by omega
      rw [HFA.out] at HM hown
      go_wp2_with fail
      go_ret
      refine ⟨ra, rc, ?_, ?_, hb2⟩
      · (try rw [nz12_len]); rw [HM.out]; rfl
      · (try rw [nz12_len]); rw [HM.out]; exact hown
end Go.Proofs.YtmfpdchfofffeaaGreatDoor
