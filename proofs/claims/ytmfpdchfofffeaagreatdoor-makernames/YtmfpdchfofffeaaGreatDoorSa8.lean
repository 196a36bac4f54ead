import Derived.Test.YtmfpdchfofffeaaGreatDoorSa7
namespace Go.Proofs.YtmfpdchfofffeaaGreatDoor
open Go.RowKit
set_option linter.unusedVariables false
set_option maxRecDepth 100000 in
set_option maxHeartbeats 4000000 in
theorem ppt12 (b : Nat) (a : Option Addr) (n cap : Nat) (s : List Int) (K gs gf gn gr : Nat) (nx R : List Int) (oa : Option Addr) (o : List Nat) (m oc : Nat) (w : World) (h : Lr12 w b a n cap s K gs gf gn gr nx R) (hW : Wf12 s n K) (hR : ∀ q, q < n → R.getD q 0 = -1) (ho : Or12 n (sm12 s) o) (hm : Hid (o.length = m)) (hmb : m ≤ 16777216) (hseg : SegZ w oa (nz12 o)) (hoa : ∀ x off, oa = some ⟨x, off, none⟩ → 0 < (nz12 o).length → x ≠ gn ∧ x ≠ gr) :
    Calls Tryz.prog 193 #[.pointer (some ⟨b, 0, none⟩), .slice (some ⟨gr, 0, none⟩) n n, .slice oa m oc] w fun e w' => e = .returned (.tuple #[]) ∧ ∃ nx' R', Lr12 w' b a n cap s K gs gf gn gr nx' R' ∧ Lm12 n s R' nx' (ps12 n (S12 s) o) ∧ Kp (Wr12 gn gr) w w' := by
  have hl := h.li
  have q2 := hl.c2
  have q3 := hl.c3
  have n24 := hW.n24
  have K25 := hW.K25
  have hn : Hid (s.length = n) := hW.len
  have HCS : Hid (((bnd12 K s).drop 1).length = K) := by show _ = _; simp [bnd12_len]
  have HSG : Hid (∀ w', Rz12 w' gf (bnd12 K s) → SegZ w' (some ⟨gf, 1, none⟩) ((bnd12 K s).drop 1)) := fun w' h1 => by have := (h1.seg (bnd12_bd hW)).dropZ 1; simpa using this
  have HS0 : Hid (∀ sp w', K = 0 → SegZ w' sp ((bnd12 K s).drop 1)) := fun sp w' hk => by
    have : (bnd12 K s).drop 1 = [] := List.eq_nil_of_length_eq_zero (by rw [HCS.out, hk])
    rw [this]; exact SegZ.nil _ _
  have HX : Hid (Rz12 w.drew gn nx ∧ nx.length = K ∧ Rz12 w.drew gf (bnd12 K s)) := ⟨hl.nr.drew, hl.nxl, hl.fr.drew⟩
  have HLR : Hid (∀ w1, Rz12 w1 gn ((bnd12 K s).drop 1) → Kp (fun k => k = gn) w.drew w1 → Lr12 w1 b a n cap s K gs gf gn gr ((bnd12 K s).drop 1) R ∧ Kp (Wr12 gn gr) w w1) := by
    intro w1 h1 k1
    have kk : Kp (Wr12 gn gr) w w1 := (Kp.refl _ _).drew.trans (k1.mono (S' := Wr12 gn gr) (fun i _ e => Or.inl e)) (fun _ _ e => e)
    exact ⟨h.kp kk h1 (h.row.drew.kp k1 (fun e => h.e4 e.symm)) (by rw [HCS.out, hl.nxl]) rfl, kk⟩
  have HST : Hid (Lm12 n s R ((bnd12 K s).drop 1) (ps12 n (S12 s) (o.drop (m - 0)))) := by
    rw [show o.drop (m - 0) = [] from List.drop_eq_nil_of_le (by rw [hm.out]; omega)]
    exact ⟨fun q hq => hR (n - 1 - q) (by omega), fun i hi => bnd12_ends hW i hi⟩
  have HAT : Hid (∀ i, i < m → o.getD i 0 < n ∧ ∃ P : Nat, P < n ∧ (ps12 n (S12 s) (o.drop (i + 1))).2 (ng12 (S12 s) (o.getD i 0)) = (P : Int) ∧ ps12 n (S12 s) (o.drop i) = put12 (ng12 (S12 s)) (ps12 n (S12 s) (o.drop (i + 1))) (o.getD i 0)) := fun i hi => ps12_at hW ho (by rw [hm.out]; exact hi)
  clear h hl hR
  by_cases hK0 : K = 0
  · subst hK0
    go_enter Tryz.func193, Tryz.ntmps193
    go_wp2_with fail
    go_region_held3 (fun w' => w'.cell? ⟨b, 3, none⟩ = some (.slice (some ⟨gn, 0, none⟩) 0 0) ∧ w'.cell? ⟨b, 2, none⟩ = some (.slice (some ⟨gf, 0, none⟩) 1 1))
      (first | go_keep | exact ⟨(HLR.out _ R1 K1).1.li.c3, (HLR.out _ R1 K1).1.li.c2⟩)
      (first
        | (refine step_copy12 rfl (.tmp 11) (.tmp 16) rfl gn 0 _ _ _ rfl rfl nx HX.out.1 HX.out.2.1 ((bnd12 0 s).drop 1) HCS.out (Nat.le_refl _) (HS0.out _ _ (by first | trivial | rfl)) ?_; intro w1 R1 K1))
    obtain ⟨L1, KA⟩ := HLR.out w1 R1 K1
    clear R1 K1
    go_wp2_with fail
    go_loopw [21] (fun ti wr => ∃ (k : Nat) (nx' R' : List Int), k ≤ m ∧ ti = .int .i64 k ∧ Lr12 wr b a n cap s 0 gs gf gn gr nx' R' ∧ Lm12 n s R' nx' (ps12 n (S12 s) (o.drop (m - k))) ∧ Kp (Wr12 gn gr) w wr) (fun ti _ => m - (intOf ti).toNat)
    case atStart => exact ⟨0, _, _, Nat.zero_le _, rfl, L1, HST.out, KA⟩
    case round =>
      obtain ⟨k, nx', R', hk, rfl, LR, LM, KB⟩ := hrel
      by_cases h1 : k < m
      · exact absurd (hW.nat (HAT.out (m - 1) (by omega)).1).2 (Nat.not_lt_zero _)
      · have h1i : ¬ (k : Int) < (m : Int) := by omega
        obtain rfl : k = m := by omega
        go_wp2_with fail
        refine bodyPost_end (results_none rfl _ _ _) rfl ?_
        refine ⟨rfl, nx', R', LR, ?_, KB⟩
        rw [Nat.sub_self] at LM
        exact LM
  · have k1 : ¬ K + 1 = 1 := by omega
    have k2 : (1 : Int) ≤ (K : Int) + 1 := by omega
    go_enter Tryz.func193, Tryz.ntmps193
    go_wp2_with fail
    go_region_held3 (fun w' => w'.cell? ⟨b, 3, none⟩ = some (.slice (some ⟨gn, 0, none⟩) K K) ∧ w'.cell? ⟨b, 2, none⟩ = some (.slice (some ⟨gf, 0, none⟩) (K + 1) (K + 1)))
      (first | go_keep | exact ⟨(HLR.out _ R1 K1).1.li.c3, (HLR.out _ R1 K1).1.li.c2⟩)
      (first
        | (refine step_copy12 rfl (.tmp 11) (.tmp 16) rfl gn K _ _ _ rfl rfl nx HX.out.1 HX.out.2.1 ((bnd12 K s).drop 1) HCS.out (Nat.le_refl _) (HSG.out _ HX.out.2.2) ?_; intro w1 R1 K1))
    obtain ⟨L1, KA⟩ := HLR.out w1 R1 K1
    clear R1 K1
    go_wp2_with fail
    go_loopw [21] (fun ti wr => ∃ (k : Nat) (nx' R' : List Int), k ≤ m ∧ ti = .int .i64 k ∧ Lr12 wr b a n cap s K gs gf gn gr nx' R' ∧ Lm12 n s R' nx' (ps12 n (S12 s) (o.drop (m - k))) ∧ Kp (Wr12 gn gr) w wr) (fun ti _ => m - (intOf ti).toNat)
    case atStart => exact ⟨0, _, _, Nat.zero_le _, rfl, L1, HST.out, KA⟩
    case round =>
      obtain ⟨k, nx', R', hk, rfl, LR, LM, KB⟩ := hrel
      by_cases h1 : k < m
      · have h1i : (k : Int) < (m : Int) := by omega
        obtain ⟨i, hi⟩ : ∃ i, m = i + 1 + k := ⟨m - 1 - k, by omega⟩
        have ei : (m : Int) - 1 - (k : Int) = (i : Int) := by omega
        have im : (i : Int) < (m : Int) := by omega
        obtain ⟨hj, P, hPn, eP, eS⟩ := HAT.out i (by omega)
        have HE1 : Hid (o.drop (m - (k + 1)) = o.drop i ∧ o.drop (m - k) = o.drop (i + 1)) := by rw [show m - (k + 1) = i by omega, show m - k = i + 1 by omega]; exact ⟨rfl, rfl⟩
        rw [HE1.out.2] at LM
        obtain ⟨ob, off, rfl, c1⟩ := (hseg.kp KB (fun x off hx hp hw => by rcases hw with e | e; exact (hoa x off hx hp).1 e; exact (hoa x off hx hp).2 e)).at_ i (by rw [nz12_len, hm.out]; omega)
        rw [nz12_get o i 0 (by rw [hm.out]; omega)] at c1
        have HNX := LM.nxt _ hj
        rw [eP] at HNX
        have hna := hW.nat hj
        have HC := ped12 b a n cap s K gs gf gn gr nx' R' (o.getD i 0) (S12 s (o.getD i 0)).toNat (n - 1 - P) wr LR hn n24 K25 hj hna.1 hna.2 (by show _ = _; rw [HNX]; omega) (by omega)
        have HL2 : Hid (Lm12 n s (R'.set (n - 1 - P) ((o.getD i 0 : Nat) : Int)) (nx'.set (S12 s (o.getD i 0)).toNat ((n - 1 - P : Nat) : Int)) (ps12 n (S12 s) (o.drop (m - (k + 1))))) := by
          rw [HE1.out.1, eS]
          exact LM.put hW LR.rl LR.li.nxl hj eP hPn
        clear LM LR eS eP HNX hna hi HE1
        generalize o.getD i 0 = j at *
        go_wp2_with (first | (go_at_call 224; refine HC.mono ?_; rintro e2 w2 ⟨rfl, L2, K2⟩))
        go_roundw
        case rel => exact ⟨k + 1, _, _, by omega, by go_num, L2, HL2.out, KB.trans K2 (fun _ _ e => e)⟩
        case measure => simp [intOf]; omega
      · have h1i : ¬ (k : Int) < (m : Int) := by omega
        obtain rfl : k = m := by omega
        go_wp2_with fail
        refine bodyPost_end (results_none rfl _ _ _) rfl ?_
        refine ⟨rfl, nx', R', LR, ?_, KB⟩
        rw [Nat.sub_self] at LM
        exact LM
end Go.Proofs.YtmfpdchfofffeaaGreatDoor
