import Derived.Test.YtmfpdchfofffeaaGreatDoorSa8
namespace Go.Proofs.YtmfpdchfofffeaaGreatDoor
open Go.RowKit
set_option linter.unusedVariables false
set_option maxRecDepth 100000 in
set_option maxHeartbeats 4000000 in
theorem pps12 (b : Nat) (a : Option Addr) (n cap : Nat) (s : List Int) (K gs gf gn gr : Nat) (nx R : List Int) (o : List Nat) (w : World) (h : Lr12 w b a n cap s K gs gf gn gr nx R) (hW : Wf12 s n K) (hR : ∀ q, q < n → R.getD q 0 = tak12 (sm12 s) (st2_12 n (S12 s) (sm12 s) o n).1 q) (ho : Or12 n (sm12 s) o) :
    Calls Tryz.prog 196 #[.pointer (some ⟨b, 0, none⟩), .slice (some ⟨gr, 0, none⟩) n n] w fun e w' => e = .returned (.tuple #[]) ∧ ∃ nx' R', Lr12 w' b a n cap s K gs gf gn gr nx' R' ∧ Lm12 n s R' nx' (st3_12 n (S12 s) (sm12 s) o n) ∧ Kp (Wr12 gn gr) w w' := by
  have hl := h.li
  have q2 := hl.c2
  have q3 := hl.c3
  have n24 := hW.n24
  have K25 := hW.K25
  have hn : Hid (s.length = n) := hW.len
  have HCS : Hid (((bnd12 K s).drop 1).length = K) := by show _ = _; simp [bnd12_len]
  have HSG : Hid (∀ w', Rz12 w' gf (bnd12 K s) → SegZ w' (some ⟨gf, 1, none⟩) ((bnd12 K s).drop 1)) := fun w' h1 => by have := (h1.seg (bnd12_bd hW)).dropZ 1; simpa using this
  have HS0 : Hid (∀ sp w', K = 0 → SegZ w' sp ((bnd12 K s).drop 1)) := fun sp w' hk => by
    have : (bnd12 K s).drop 1 = [] := List.eq_nil_of_length_eq_zero (by rw [HCS.out, hk])
    rw [this]; exact SegZ.nil _ _
  have HX : Hid (Rz12 w.drew gn nx ∧ nx.length = K ∧ Rz12 w.drew gf (bnd12 K s)) := ⟨hl.nr.drew, hl.nxl, hl.fr.drew⟩
  have HLR : Hid (∀ w1, Rz12 w1 gn ((bnd12 K s).drop 1) → Kp (fun k => k = gn) w.drew w1 → Lr12 w1 b a n cap s K gs gf gn gr ((bnd12 K s).drop 1) R ∧ Kp (Wr12 gn gr) w w1) := by
    intro w1 h1 k1
    have kk : Kp (Wr12 gn gr) w w1 := (Kp.refl _ _).drew.trans (k1.mono (S' := Wr12 gn gr) (fun i _ e => Or.inl e)) (fun _ _ e => e)
    exact ⟨h.kp kk h1 (h.row.drew.kp k1 (fun e => h.e4 e.symm)) (by rw [HCS.out, hl.nxl]) rfl, kk⟩
  have hty : Ty12 n (S12 s) (sm12 s) := by have := ty12 s; rw [hn.out] at this; exact this
  have HST : Hid (Lm12 n s R ((bnd12 K s).drop 1) (st3_12 n (S12 s) (sm12 s) o 0)) :=
    ⟨fun q hq => hR (n - 1 - q) (by omega), fun i hi => bnd12_ends hW i hi⟩
  have HPP : Hid (∀ p, p ≤ n → Pg12 n (ng12 (S12 s)) (fun i => sm12 s i = true) (fun i => sm12 s i = false) (fun _ => False) (fun _ _ => True) p (st3_12 n (S12 s) (sm12 s) o p).1 (st3_12 n (S12 s) (sm12 s) o p).2) := fun p hp => st3_t hty ho p hp
  have HFR : Hid (Fr12 n (ng12 (S12 s)) (fun i => sm12 s i = true) (fun i => sm12 s i = false) (fun _ => False) (fun _ _ => True)) := hty.frt3
  clear h hl hR
  by_cases hK0 : K = 0
  · subst hK0
    go_enter Tryz.func196, Tryz.ntmps196
    go_wp2_with fail
    go_region_held3 (fun w' => w'.cell? ⟨b, 3, none⟩ = some (.slice (some ⟨gn, 0, none⟩) 0 0) ∧ w'.cell? ⟨b, 2, none⟩ = some (.slice (some ⟨gf, 0, none⟩) 1 1))
      (first | go_keep | exact ⟨(HLR.out _ R1 K1).1.li.c3, (HLR.out _ R1 K1).1.li.c2⟩)
      (first
        | (refine step_copy12 rfl (.tmp 10) (.tmp 15) rfl gn 0 _ _ _ rfl rfl nx HX.out.1 HX.out.2.1 ((bnd12 0 s).drop 1) HCS.out (Nat.le_refl _) (HS0.out _ _ (by first | trivial | rfl)) ?_; intro w1 R1 K1))
    obtain ⟨L1, KA⟩ := HLR.out w1 R1 K1
    clear R1 K1
    go_wp2_with fail
    go_loopw [20] (fun ti wr => ∃ (p : Nat) (nx' R' : List Int), p ≤ n ∧ ti = .int .i64 p ∧ Lr12 wr b a n cap s 0 gs gf gn gr nx' R' ∧ Lm12 n s R' nx' (st3_12 n (S12 s) (sm12 s) o p) ∧ Kp (Wr12 gn gr) w wr) (fun ti _ => n - (intOf ti).toNat)
    case atStart => exact ⟨0, _, _, Nat.zero_le _, rfl, L1, HST.out, KA⟩
    case round =>
      obtain ⟨p, nx', R', hp, rfl, LR, LM, KB⟩ := hrel
      by_cases h1 : p < n
      · exact absurd (hW.nat h1).2 (Nat.not_lt_zero _)
      · have h1i : ¬ (p : Int) < (n : Int) := by omega
        obtain rfl : p = n := by omega
        go_wp2_with fail
        refine bodyPost_end (results_none rfl _ _ _) rfl ?_
        exact ⟨rfl, nx', R', LR, LM, KB⟩
  · have k1 : ¬ K + 1 = 1 := by omega
    have k2 : (1 : Int) ≤ (K : Int) + 1 := by omega
    go_enter Tryz.func196, Tryz.ntmps196
    go_wp2_with fail
    go_region_held3 (fun w' => w'.cell? ⟨b, 3, none⟩ = some (.slice (some ⟨gn, 0, none⟩) K K) ∧ w'.cell? ⟨b, 2, none⟩ = some (.slice (some ⟨gf, 0, none⟩) (K + 1) (K + 1)))
      (first | go_keep | exact ⟨(HLR.out _ R1 K1).1.li.c3, (HLR.out _ R1 K1).1.li.c2⟩)
      (first
        | (refine step_copy12 rfl (.tmp 10) (.tmp 15) rfl gn K _ _ _ rfl rfl nx HX.out.1 HX.out.2.1 ((bnd12 K s).drop 1) HCS.out (Nat.le_refl _) (HSG.out _ HX.out.2.2) ?_; intro w1 R1 K1))
    obtain ⟨L1, KA⟩ := HLR.out w1 R1 K1
    clear R1 K1
    go_wp2_with fail
    go_loopw [20] (fun ti wr => ∃ (p : Nat) (nx' R' : List Int), p ≤ n ∧ ti = .int .i64 p ∧ Lr12 wr b a n cap s K gs gf gn gr nx' R' ∧ Lm12 n s R' nx' (st3_12 n (S12 s) (sm12 s) o p) ∧ Kp (Wr12 gn gr) w wr) (fun ti _ => n - (intOf ti).toNat)
    case atStart => exact ⟨0, _, _, Nat.zero_le _, rfl, L1, HST.out, KA⟩
    case round =>
      obtain ⟨p, nx', R', hp, rfl, LR, LM, KB⟩ := hrel
      by_cases h1 : p < n
      · have h1i : (p : Int) < (n : Int) := by omega
        obtain ⟨i, hi⟩ : ∃ i, n = i + 1 + p := ⟨n - 1 - p, by omega⟩
        have ei : (n : Int) - 1 - (p : Int) = (i : Int) := by omega
        have im : (i : Int) < (n : Int) := by omega
        have c1 := LR.row.cell (i := i) (by rw [LR.rl]; omega)
        have HV := LM.row p h1
        rw [show n - 1 - p = i by omega] at HV
        rw [HV] at c1
        have cs1 := LR.li.c1
        have HPG := HPP.out p (by omega)
        have HGO : Hid (st3_12 n (S12 s) (sm12 s) o (p + 1) = go12 (ng12 (S12 s)) true (sm12 s) (st3_12 n (S12 s) (sm12 s) o p) p) := rfl
        generalize hX : st3_12 n (S12 s) (sm12 s) o p = X at *
        have HOK := HPG.st.ok p h1
        by_cases z0 : 0 < X.1 p
        · obtain ⟨j, hj, ej⟩ : ∃ j : Nat, j + 1 < n ∧ X.1 p = (j : Int) + 1 := by
            rcases HOK with e | ⟨k, hk, e, _⟩
            · omega
            · exact ⟨k - 1, by omega, by omega⟩
          have c2 := LR.li.sm.cell (i := j) (by rw [typ12_len, hn.out]; omega)
          rw [typ12_get] at c2
          rw [ej] at c1
          have ij : (j : Int) < (n : Int) := by omega
          have ej2 : (X.1 p - 1).toNat = j := by omega
          by_cases zs : sm12 s j = true
          · rw [zs] at c2
            obtain ⟨_, hnin⟩ := HPG.new (HFR.out) h1 (j := j) (by omega) (by omega) zs
            obtain ⟨P, eP, _, _, _, hPn, _⟩ := HPG.st.place (j := j) (by omega) zs hnin
            have HNX := LM.nxt j (by omega)
            rw [eP] at HNX
            have hna := hW.nat (i := j) (by omega)
            have HC := ped12 b a n cap s K gs gf gn gr nx' R' j (S12 s j).toNat (n - 1 - P) wr LR hn n24 K25 (by omega) hna.1 hna.2 (by show _ = _; rw [HNX]; omega) (by omega)
            have HL2 : Hid (Lm12 n s (R'.set (n - 1 - P) (j : Int)) (nx'.set (S12 s j).toNat ((n - 1 - P : Nat) : Int)) (st3_12 n (S12 s) (sm12 s) o (p + 1))) := by
              rw [HGO.out]
              unfold go12
              rw [ej2, if_pos ⟨z0, zs⟩]
              exact LM.put hW LR.rl LR.li.nxl (by omega) eP hPn
            clear LM LR eP HNX hna hi HPG HOK HV hnin hX
            go_wp2_with (first | (go_at_call 224; refine HC.mono ?_; rintro e2 w2 ⟨rfl, L2, K2⟩))
            go_roundw
            case rel => exact ⟨p + 1, _, _, by omega, by go_num, L2, HL2.out, KB.trans K2 (fun _ _ e => e)⟩
            case measure => simp [intOf]; omega
          · have zs' : sm12 s j = false := by simpa using zs
            rw [zs'] at c2
            have HL2 : Hid (Lm12 n s R' nx' (st3_12 n (S12 s) (sm12 s) o (p + 1))) := by
              rw [HGO.out]
              unfold go12
              rw [ej2, if_neg (fun k => zs k.2)]
              exact LM
            have HLR2 : Hid (Lr12 wr b a n cap s K gs gf gn gr nx' R') := LR
            clear LM LR hi HPG HOK HV hX
            go_wp2_with fail
            go_roundw
            case rel => exact ⟨p + 1, _, _, by omega, by go_num, HLR2.out, HL2.out, KB⟩
            case measure => simp [intOf]; omega
        · have HL2 : Hid (Lm12 n s R' nx' (st3_12 n (S12 s) (sm12 s) o (p + 1))) := by
            rw [HGO.out]
            unfold go12
            rw [if_neg (fun k => z0 k.1)]
            exact LM
          have HLR2 : Hid (Lr12 wr b a n cap s K gs gf gn gr nx' R') := LR
          have zb : -1 ≤ X.1 p := by
            rcases HOK with e | ⟨k, hk, e, _⟩ <;> omega
          clear LM LR hi HPG HOK HV HGO hX
          generalize X.1 p = y at *
          go_wp2_with fail
          go_roundw
          case rel => exact ⟨p + 1, _, _, by omega, by go_num, HLR2.out, HL2.out, KB⟩
          case measure => simp [intOf]; omega
      · have h1i : ¬ (p : Int) < (n : Int) := by omega
        obtain rfl : p = n := by omega
        go_wp2_with fail
        refine bodyPost_end (results_none rfl _ _ _) rfl ?_
        exact ⟨rfl, nx', R', LR, LM, KB⟩
end Go.Proofs.YtmfpdchfofffeaaGreatDoor
