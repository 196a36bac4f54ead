import Derived.Test.YtmfpdchfofffeaaGreatDoorSa9
namespace Go.Proofs.YtmfpdchfofffeaaGreatDoor
open Go.RowKit
set_option linter.unusedVariables false
set_option maxRecDepth 100000 in
set_option maxHeartbeats 4000000 in
theorem ppg12 (b : Nat) (a : Option Addr) (n cap : Nat) (s : List Int) (K gs gf gn gr : Nat) (nx R : List Int) (o : List Nat) (w : World) (h : Lr12 w b a n cap s K gs gf gn gr nx R) (hW : Wf12 s n K) (hR : ∀ q, q < n → R.getD q 0 = (ss12 n (S12 s) o).1 q) (ho : Or12 n (sm12 s) o) :
    Calls Tryz.prog 194 #[.pointer (some ⟨b, 0, none⟩), .slice (some ⟨gr, 0, none⟩) n n] w fun e w' => e = .returned (.tuple #[]) ∧ ∃ nx' R', Lr12 w' b a n cap s K gs gf gn gr nx' R' ∧ Lk12 n s R' nx' (st2_12 n (S12 s) (sm12 s) o n) ∧ Kp (Wr12 gn gr) w w' := by
  have hl := h.li
  have q2 := hl.c2
  have q3 := hl.c3
  have n24 := hW.n24
  have K25 := hW.K25
  have hn : Hid (s.length = n) := hW.len
  have HCS : Hid (((bnd12 K s).take K).length = K) := by show _ = _; simp [bnd12_len]
  have HSG : Hid (∀ w', Rz12 w' gf (bnd12 K s) → SegZ w' (some ⟨gf, 0, none⟩) ((bnd12 K s).take K)) := fun w' h1 => (h1.seg (bnd12_bd hW)).take K
  have HX : Hid (Rz12 w.drew gn nx ∧ nx.length = K ∧ Rz12 w.drew gf (bnd12 K s)) := ⟨hl.nr.drew, hl.nxl, hl.fr.drew⟩
  have HLR : Hid (∀ w1, Rz12 w1 gn ((bnd12 K s).take K) → Kp (fun k => k = gn) w.drew w1 → Lr12 w1 b a n cap s K gs gf gn gr ((bnd12 K s).take K) R ∧ Kp (Wr12 gn gr) w w1) := by
    intro w1 h1 k1
    have kk : Kp (Wr12 gn gr) w w1 := (Kp.refl _ _).drew.trans (k1.mono (S' := Wr12 gn gr) (fun i _ e => Or.inl e)) (fun _ _ e => e)
    exact ⟨h.kp kk h1 (h.row.drew.kp k1 (fun e => h.e4 e.symm)) (by rw [HCS.out, hl.nxl]) rfl, kk⟩
  have hty : Ty12 n (S12 s) (sm12 s) := by have := ty12 s; rw [hn.out] at this; exact this
  have HSS : Hid (Lk12 n s R ((bnd12 K s).take K) (ss12 n (S12 s) o)) := ⟨hR, fun i hi => bnd12_heads hW i hi⟩
  have HPP : Hid (∀ p, p ≤ n → Pg12 n (S12 s) (fun i => sm12 s i = false) (tn12 (sm12 s)) (D12 n) (fun _ _ => True) p (st2_12 n (S12 s) (sm12 s) o p).1 (st2_12 n (S12 s) (sm12 s) o p).2) := fun p hp => st2_t hty ho p hp
  have HFR : Hid (Fr12 n (S12 s) (fun i => sm12 s i = false) (tn12 (sm12 s)) (D12 n) (fun _ _ => True)) := hty.frt2
  have HFI : Hid (0 < n → ∃ P : Nat, P < n ∧ (ss12 n (S12 s) o).2 (S12 s (n - 1)) = (P : Int) ∧ st2_12 n (S12 s) (sm12 s) o 0 = put12 (S12 s) (ss12 n (S12 s) o) (n - 1)) := by
    intro h0
    obtain ⟨h1, h2⟩ := ss12_st (S := S12 s) ho
    have hT : sm12 s (n - 1) = false := hty.last _ (by omega)
    obtain ⟨P, eP, _, _, _, hPn, _⟩ := h1.place (j := n - 1) (by omega) hT (h2 _ (by omega) hT)
    refine ⟨P, hPn, eP, ?_⟩
    show s2i12 n (S12 s) o = _
    unfold s2i12
    rw [if_pos h0]
  have HF0 : Hid (n = 0 → st2_12 n (S12 s) (sm12 s) o 0 = ss12 n (S12 s) o) := by
    intro h0
    show s2i12 n (S12 s) o = _
    unfold s2i12
    rw [if_neg (by omega)]
  clear h hl hR
  have LOOP : ∀ (w1 : World) (nx1 R1 : List Int), Lr12 w1 b a n cap s K gs gf gn gr nx1 R1 → Lk12 n s R1 nx1 (st2_12 n (S12 s) (sm12 s) o 0) → Kp (Wr12 gn gr) w w1 → True := fun _ _ _ _ _ _ => trivial
  clear LOOP
  go_enter Tryz.func194, Tryz.ntmps194
  go_wp2_with fail
  go_region_held3 (fun w' => w'.cell? ⟨b, 3, none⟩ = some (.slice (some ⟨gn, 0, none⟩) K K) ∧ w'.cell? ⟨b, 2, none⟩ = some (.slice (some ⟨gf, 0, none⟩) (K + 1) (K + 1)))
    (first | go_keep | exact ⟨(HLR.out _ R1 K1).1.li.c3, (HLR.out _ R1 K1).1.li.c2⟩)
    (first
      | (refine step_copy12 rfl (.tmp 10) (.tmp 14) rfl gn K _ _ _ rfl rfl nx HX.out.1 HX.out.2.1 ((bnd12 K s).take K) HCS.out (by omega) (HSG.out _ HX.out.2.2) ?_; intro w1 R1 K1))
  obtain ⟨L1, KA⟩ := HLR.out w1 R1 K1
  clear R1 K1
  by_cases h0 : 0 < n
  · have h0i : (0 : Int) < (n : Int) := by omega
    obtain ⟨P, hPn, eP, eS⟩ := HFI.out h0
    have HNX := HSS.out.nxt (n - 1) (by omega)
    rw [eP] at HNX
    have hna := hW.nat (i := n - 1) (by omega)
    have HC := phd12 b a n cap s K gs gf gn gr ((bnd12 K s).take K) R (n - 1) (S12 s (n - 1)).toNat P w1 L1 hn n24 K25 (by omega) hna.1 hna.2 HNX hPn
    have HL2 : Hid (Lk12 n s (R.set P ((n - 1 : Nat) : Int)) (((bnd12 K s).take K).set (S12 s (n - 1)).toNat ((P : Int) + 1)) (st2_12 n (S12 s) (sm12 s) o 0)) := by
      rw [eS]
      exact HSS.out.put hW L1.rl L1.li.nxl (by omega) eP hPn
    have en : ((n - 1 : Nat) : Int) = (n : Int) - 1 := by omega
    rw [en] at HC
    clear HNX hna eS eP
    go_wp2_with (first | (go_at_call 225; refine HC.mono ?_; rintro e2 w2 ⟨rfl, L2, K2⟩))
    rw [← en] at L2
    have KC : Kp (Wr12 gn gr) w w2 := KA.trans K2 (fun _ _ e => e)
    clear K2 L1 KA
    go_loopw [26] (fun ti wr => ∃ (p : Nat) (nx' R' : List Int), p ≤ n ∧ ti = .int .i64 p ∧ Lr12 wr b a n cap s K gs gf gn gr nx' R' ∧ Lk12 n s R' nx' (st2_12 n (S12 s) (sm12 s) o p) ∧ Kp (Wr12 gn gr) w wr) (fun ti _ => n - (intOf ti).toNat)
    case atStart => exact ⟨0, _, _, Nat.zero_le _, rfl, L2, HL2.out, KC⟩
    case round =>
      obtain ⟨p, nx', R', hp, rfl, LR, LM, KB⟩ := hrel
      by_cases h1 : p < n
      · have h1i : (p : Int) < (n : Int) := by omega
        have c1 := LR.row.cell (i := p) (by rw [LR.rl]; omega)
        have HV := LM.row p h1
        rw [HV] at c1
        have cs1 := LR.li.c1
        have HPG := HPP.out p (by omega)
        have HGO : Hid (st2_12 n (S12 s) (sm12 s) o (p + 1) = go12 (S12 s) false (sm12 s) (st2_12 n (S12 s) (sm12 s) o p) p) := rfl
        generalize hX : st2_12 n (S12 s) (sm12 s) o p = X at *
        have HOK := HPG.st.ok p h1
        by_cases z0 : 0 < X.1 p
        · obtain ⟨j, hj, ej⟩ : ∃ j : Nat, j + 1 < n ∧ X.1 p = (j : Int) + 1 := by
            rcases HOK with e | ⟨k, hk, e, _⟩
            · omega
            · exact ⟨k - 1, by omega, by omega⟩
          have c2 := LR.li.sm.cell (i := j) (by rw [typ12_len, hn.out]; omega)
          rw [typ12_get] at c2
          rw [ej] at c1
          have ij : (j : Int) < (n : Int) := by omega
          have ej2 : (X.1 p - 1).toNat = j := by omega
          by_cases zs : sm12 s j = false
          · rw [zs] at c2
            obtain ⟨_, hnin⟩ := HPG.new (HFR.out) h1 (j := j) (by omega) (by omega) zs
            obtain ⟨P, eP, _, _, _, hPn, _⟩ := HPG.st.place (j := j) (by omega) zs hnin
            have HNX := LM.nxt j (by omega)
            rw [eP] at HNX
            have hna := hW.nat (i := j) (by omega)
            have HC := phd12 b a n cap s K gs gf gn gr nx' R' j (S12 s j).toNat P wr LR hn n24 K25 (by omega) hna.1 hna.2 HNX hPn
            have HL2 : Hid (Lk12 n s (R'.set P (j : Int)) (nx'.set (S12 s j).toNat ((P : Int) + 1)) (st2_12 n (S12 s) (sm12 s) o (p + 1))) := by
              rw [HGO.out]
              unfold go12
              rw [ej2, if_pos ⟨z0, zs⟩]
              exact LM.put hW LR.rl LR.li.nxl (by omega) eP hPn
            clear LM LR eP HNX hna HPG HOK HV hnin hX
            go_wp2_with (first | (go_at_call 225; refine HC.mono ?_; rintro e2 w2 ⟨rfl, L2, K2⟩))
            go_roundw
            case rel => exact ⟨p + 1, _, _, by omega, by go_num, L2, HL2.out, KB.trans K2 (fun _ _ e => e)⟩
            case measure => simp [intOf]; omega
          · have zs' : sm12 s j = true := by simpa using zs
            rw [zs'] at c2
            have HL2 : Hid (Lk12 n s R' nx' (st2_12 n (S12 s) (sm12 s) o (p + 1))) := by
              rw [HGO.out]
              unfold go12
              rw [ej2, if_neg (fun k => zs k.2)]
              exact LM
            have HLR2 : Hid (Lr12 wr b a n cap s K gs gf gn gr nx' R') := LR
            clear LM LR HPG HOK HV hX
            go_wp2_with fail
            go_roundw
            case rel => exact ⟨p + 1, _, _, by omega, by go_num, HLR2.out, HL2.out, KB⟩
            case measure => simp [intOf]; omega
        · have HL2 : Hid (Lk12 n s R' nx' (st2_12 n (S12 s) (sm12 s) o (p + 1))) := by
            rw [HGO.out]
            unfold go12
            rw [if_neg (fun k => z0 k.1)]
            exact LM
          have HLR2 : Hid (Lr12 wr b a n cap s K gs gf gn gr nx' R') := LR
          have zb : -1 ≤ X.1 p := by
            rcases HOK with e | ⟨k, hk, e, _⟩ <;> omega
          clear LM LR HPG HOK HV HGO hX
          generalize X.1 p = y at *
          go_wp2_with fail
          go_roundw
          case rel => exact ⟨p + 1, _, _, by omega, by go_num, HLR2.out, HL2.out, KB⟩
          case measure => simp [intOf]; omega
      · have h1i : ¬ (p : Int) < (n : Int) := by omega
        obtain rfl : p = n := by omega
        go_wp2_with fail
        refine bodyPost_end (results_none rfl _ _ _) rfl ?_
        exact ⟨rfl, nx', R', LR, LM, KB⟩
  · have h0i : ¬ (0 : Int) < (n : Int) := by omega
    have HL2 : Hid (Lk12 n s R ((bnd12 K s).take K) (st2_12 n (S12 s) (sm12 s) o 0)) := by
      rw [HF0.out (by omega)]
      exact HSS.out
    have L2 := L1
    have KC := KA
    clear L1 KA
    go_wp2_with fail
    go_loopw [26] (fun ti wr => ∃ (p : Nat) (nx' R' : List Int), p ≤ n ∧ ti = .int .i64 p ∧ Lr12 wr b a n cap s K gs gf gn gr nx' R' ∧ Lk12 n s R' nx' (st2_12 n (S12 s) (sm12 s) o p) ∧ Kp (Wr12 gn gr) w wr) (fun ti _ => n - (intOf ti).toNat)
    case atStart => exact ⟨0, _, _, Nat.zero_le _, rfl, L2, HL2.out, KC⟩
    case round =>
      obtain ⟨p, nx', R', hp, rfl, LR, LM, KB⟩ := hrel
      by_cases h1 : p < n
      · exact absurd h1 (by omega)
      · have h1i : ¬ (p : Int) < (n : Int) := by omega
        obtain rfl : p = n := by omega
        go_wp2_with fail
        refine bodyPost_end (results_none rfl _ _ _) rfl ?_
        exact ⟨rfl, nx', R', LR, LM, KB⟩
set_option maxRecDepth 100000 in
set_option maxHeartbeats 4000000 in
theorem ptk12 (b : Nat) (a : Option Addr) (n cap : Nat) (s : List Int) (K gs gf gn gr : Nat) (nx R : List Int) (F : Nat → Int) (w : World) (h : Lr12 w b a n cap s K gs gf gn gr nx R) (hW : Wf12 s n K) (hR : ∀ q, q < n → R.getD q 0 = F q) (hF : ∀ q, q < n → F q = -1 ∨ ∃ j : Nat, j < n ∧ F q = (j : Int)) :
    Calls Tryz.prog 195 #[.pointer (some ⟨b, 0, none⟩), .slice (some ⟨gr, 0, none⟩) n n] w fun e w' => e = .returned (.tuple #[]) ∧ ∃ R', Lr12 w' b a n cap s K gs gf gn gr nx R' ∧ (∀ q, q < n → R'.getD q 0 = tak12 (sm12 s) F q) ∧ Kp (Wr12 gn gr) w w' := by
  have n24 := hW.n24
  have hn : Hid (s.length = n) := hW.len
  have HF : Hid (∀ q, q < n → F q = -1 ∨ ∃ j : Nat, j < n ∧ F q = (j : Int)) := hF
  clear hF
  go_enter Tryz.func195, Tryz.ntmps195
  go_wp2_with fail
  go_loopw [8] (fun ti wr => ∃ (p : Nat) (R' : List Int), p ≤ n ∧ ti = .int .i64 p ∧ Lr12 wr b a n cap s K gs gf gn gr nx R' ∧ Hid (∀ q, q < n → R'.getD q 0 = if q < p then tak12 (sm12 s) F q else F q) ∧ Kp (Wr12 gn gr) w wr) (fun ti _ => n - (intOf ti).toNat)
  case atStart => exact ⟨0, R, Nat.zero_le _, rfl, h, (fun q hq => by rw [if_neg (by omega)]; exact hR q hq : ∀ q, q < n → _), Kp.refl _ _⟩
  case round =>
    obtain ⟨p, R', hp, rfl, LR, HQ, KB⟩ := hrel
    by_cases h1 : p < n
    · have h1i : (p : Int) < (n : Int) := by omega
      have c1 := LR.row.cell (i := p) (by rw [LR.rl]; omega)
      have f1 := LR.row.free p
      have HV := HQ.out p h1
      rw [if_neg (by omega)] at HV
      rw [HV] at c1
      have cs1 := LR.li.c1
      have HKEEP : Hid (tak12 (sm12 s) F p = F p → ∀ q, q < n → R'.getD q 0 = if q < p + 1 then tak12 (sm12 s) F q else F q) := by
        intro e q hq
        rw [HQ.out q hq]
        by_cases h2 : q < p
        · rw [if_pos h2, if_pos (by omega)]
        · rw [if_neg h2]
          by_cases h3 : q = p
          · subst h3; rw [if_pos (by omega), e]
          · rw [if_neg (by omega)]
      have HSET : Hid (tak12 (sm12 s) F p = -1 → ∀ q, q < n → (R'.set p (-1)).getD q 0 = if q < p + 1 then tak12 (sm12 s) F q else F q) := by
        intro e q hq
        rw [getD_set12 _ _ _ _ (by rw [LR.rl]; omega), HQ.out q hq]
        by_cases h3 : q = p
        · subst h3; rw [if_pos rfl, if_pos (by omega), e]
        · rw [if_neg h3]
          by_cases h2 : q < p
          · rw [if_pos h2, if_pos (by omega)]
          · rw [if_neg h2, if_neg (by omega)]
      rcases HF.out p h1 with e0 | ⟨j, hj, ej⟩
      · have HT : Hid (tak12 (sm12 s) F p = F p) := by show _ = _; unfold tak12; rw [e0]; simp
        rw [e0] at c1
        have HLR2 : Hid (Lr12 wr b a n cap s K gs gf gn gr nx R') := LR
        clear LR HV
        go_wp2_with fail
        go_roundw
        case rel => exact ⟨p + 1, R', by omega, by go_num, HLR2.out, HKEEP.out HT.out, KB⟩
        case measure => simp [intOf]; omega
      · have c2 := LR.li.sm.cell (i := j) (by rw [typ12_len, hn.out]; omega)
        rw [typ12_get] at c2
        rw [ej] at c1
        have ij : (j : Int) < (n : Int) := by omega
        have ijm : ¬ (j : Int) = -1 := by omega
        by_cases zs : sm12 s j = true
        · rw [zs] at c2
          have HT : Hid (tak12 (sm12 s) F p = -1) := by show _ = _; unfold tak12; rw [ej]; simp [zs]
          have HLR2 : Hid (Lr12 (wr.setCell ⟨gr, p, none⟩ (.int .i64 (-1))) b a n cap s K gs gf gn gr nx (R'.set p (-1))) := LR.setR p (-1)
          have HKB : Hid (Kp (Wr12 gn gr) w (wr.setCell ⟨gr, p, none⟩ (.int .i64 (-1)))) := KB.trans (Kp.set (S := Wr12 gn gr) (Or.inr rfl) _) (fun _ _ e => e)
          clear LR HV
          go_wp2_with fail
          go_roundw
          case rel => exact ⟨p + 1, _, by omega, by go_num, HLR2.out, HSET.out HT.out, HKB.out⟩
          case measure => simp [intOf]; omega
        · have zs' : sm12 s j = false := by simpa using zs
          rw [zs'] at c2
          have HT : Hid (tak12 (sm12 s) F p = F p) := by show _ = _; unfold tak12; rw [ej]; simp [zs']
          have HLR2 : Hid (Lr12 wr b a n cap s K gs gf gn gr nx R') := LR
          clear LR HV
          go_wp2_with fail
          go_roundw
          case rel => exact ⟨p + 1, R', by omega, by go_num, HLR2.out, HKEEP.out HT.out, KB⟩
          case measure => simp [intOf]; omega
    · have h1i : ¬ (p : Int) < (n : Int) := by omega
      obtain rfl : p = n := by omega
      go_wp2_with fail
      refine bodyPost_end (results_none rfl _ _ _) rfl ?_
      exact ⟨rfl, R', LR, fun q hq => by have := HQ.out q hq; rw [if_pos hq] at this; exact this, KB⟩
end Go.Proofs.YtmfpdchfofffeaaGreatDoor
