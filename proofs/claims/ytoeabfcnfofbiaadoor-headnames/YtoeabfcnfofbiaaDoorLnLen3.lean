
import Derived.Test.YtoeabfcnfofbiaaDoorLnFact
namespace Go.Proofs.YtoeabfcnfofbiaaDoor
open Go.RowKit
set_option linter.unusedVariables false

/-! As LnLen2's contract of Lengths, but with the row of the answer as the call's own. -/
set_option maxRecDepth 100000 in
set_option maxHeartbeats 2000000 in
theorem lengths_okO (lim : Nat) (a : Option Addr) (zs : List Int) (n cap : Nat) (hn : Hid (zs.length = n)) (w : World) (hs : SegZ w a zs) (h1 : 1 ≤ lim) (h15 : lim ≤ 15) (he : errOf zs = 0) :
    Calls Tryd.prog 65 #[.int .i64 lim, .slice a n cap] w fun e w' => ∃ b c, e = .returned (.tuple #[.slice b (lensR lim zs).length c, .int .i64 (errL lim zs)]) ∧ w'.ownsRow w.heap.size 3 1 (.slice b (lensR lim zs).length c) (lensR lim zs).length ((lensR lim zs).map (Value.int .i64)) ∧ Below w.heap.size w w' := by
  obtain ⟨h288, hbx⟩ := errOf_zero he
  have hn288 : n ≤ 288 := by have := hn.out; omega
  have HC : Hid (∀ W, SegZ W a zs → Calls Tryd.prog 88 #[.slice a n cap] W fun e w' => e = .returned (.int .i64 0) ∧ w' = W) := fun W hW => by
    have := refusal_any a zs cap W hW (by have := hn.out; omega)
    rw [he, hn.out] at this
    exact this
  have HE : Hid (errOf zs = 0) := he
  clear he h288
  have l1 : ¬ (lim : Int) < 1 := by omega
  have l2 : ¬ (15 : Int) < (lim : Int) := by omega
  go_enter Tryd.func65, Tryd.ntmps65
  go_wp2_with fail
  refine (HC.out _ hs).mono ?_
  rintro e w' ⟨rfl, hw'⟩
  subst w'
  go_wp2_with fail
  refine (leaves_any a zs n cap hn _ hs hn288).mono ?_
  rintro e w1 ⟨b, m, c, Y, rfl, LF, B1⟩
  obtain ⟨P, hP⟩ : ∃ P : Nat, P = 2 ^ lim := ⟨_, rfl⟩
  have hPb : P ≤ 32768 := by rw [hP]; exact Nat.le_trans (Nat.pow_le_pow_right (by decide) h15) (by decide)
  have hPw : RowKit.wrap64 ((2 : Int) ^ lim) = (P : Int) := by
    have e : ((2 : Int) ^ lim) = (P : Int) := by rw [hP]; exact (Int.natCast_pow 2 lim).symm
    rw [e, ← IntWalk.i64_left]
    exact IntWalk.i64_in _ (by omega)
  have HSRT : Hid ((lst Y 0 m).map toP = LFz zs) := sorted_LF (fun i => (hbx i).1) LF.pm LF.ord
  have HNU : Hid (nUse zs = m) := by show _ = _; unfold nUse; rw [← HSRT.out]; simp [lst]
  have HM288 : Hid (m ≤ 288) := by
    have h3 := LF.len
    have h4 := leafL_len zs zs.length
    have := hn.out
    show _ ≤ _
    omega
  have HPP : Hid (P = 2 ^ lim) := hP
  have hm288 : m ≤ 288 := HM288.out
  clear hP
  by_cases hmP : P < m
  · have hmPi : (P : Int) < (m : Int) := by omega
    have HER : Hid (errL lim zs = 41 ∧ lensR lim zs = []) := by
      have e1 : errL lim zs = 41 := by
        unfold errL
        rw [if_neg (by omega), if_pos HE.out, if_pos (by rw [HNU.out, Int.toNat_natCast, ← HPP.out]; exact hmP)]
      exact ⟨e1, by unfold lensR; rw [e1]; rfl⟩
    go_wp2
    go_ret2
    exact ⟨none, 0, by rw [HER.out.1, HER.out.2]; rfl, by rw [HER.out.2]; exact World.ownsRow_nil _ _ _ _, B1⟩
  · have hmPi : ¬ (P : Int) < (m : Int) := by omega
    have HER : Hid (errL lim zs = 0 ∧ lensR lim zs = lensL lim zs) := by
      have e1 : errL lim zs = 0 := by
        unfold errL
        rw [if_neg (by omega), if_pos HE.out, if_neg (by rw [HNU.out, Int.toNat_natCast, ← HPP.out]; exact hmP)]
      exact ⟨e1, by unfold lensR; rw [if_pos e1, Int.toNat_natCast]⟩
    have hmk := run_make_ints n (by omega) w1
    have O2 := own_zeros w1 n (by omega)
    have B2 : Below w1.heap.size w1 (w1.alloc (.cells (Array.replicate n (.int .i64 0)) 3)) := (Below.refl _ _).alloc (Nat.le_refl _) _
    have hsz2 : w1.heap.size < (w1.alloc (.cells (Array.replicate n (.int .i64 0)) 3)).heap.size := by simp
    obtain ⟨o, ho⟩ : ∃ o, o = w1.heap.size := ⟨_, rfl⟩
    have HO : Hid (o = w1.heap.size) := ho
    generalize w1.alloc (.cells (Array.replicate n (.int .i64 0)) 3) = w2 at *
    rw [← ho] at O2 hmk hsz2
    have B12 : Below w.heap.size w w2 := B1.trans (B2.mono B1.size)
    have hzb : ∀ z ∈ List.replicate n (0 : Int), -9223372036854775808 ≤ z ∧ z ≤ 9223372036854775807 := fun z hz => by obtain ⟨_, rfl⟩ := List.mem_replicate.1 hz; omega
    clear ho
    by_cases hm0 : m = 0
    · subst hm0
      have HLL : Hid (lensL lim zs = List.replicate n 0) := by show _ = _; unfold lensL; rw [if_pos HNU.out, hn.out]
      go_wp2
      go_ret2
      refine ⟨some ⟨o, 0, none⟩, n, ?_, ?_, B12⟩
      · rw [HER.out.1, HER.out.2, HLL.out, List.length_replicate]; rfl
      · rw [HER.out.2, HLL.out, List.length_replicate]
        exact own_base O2 (by have := HO.out; have := B1.size; omega)
    · obtain ⟨g, rfl, S1, hgB, hgs, hmc⟩ := LF.row (by omega)
      have S2 := S1.old hgs B2
      have hgo : g ≠ o := by have := HO.out; omega
      by_cases hm1 : m = 1
      · subst hm1
        have it0' := S2.it (k := 0) (by omega)
        have hy : Y 0 ∈ leafL zs zs.length := LF.pm.mem_iff.1 (mem_lst.2 ⟨0, Nat.le_refl _, by omega, rfl⟩)
        obtain ⟨g1, g2, g3, g4, g5, g6⟩ := leaf_good (fun i => (hbx i).1) _ hy
        obtain ⟨s, hsy⟩ : ∃ s : Nat, (Y 0).sy = (s : Int) := ⟨(Y 0).sy.toNat, by omega⟩
        have HLL : Hid (lensL lim zs = (List.replicate n 0).set s 1) := by
          show _ = _
          unfold lensL
          rw [if_neg (by rw [HNU.out]; decide), if_pos HNU.out, ← HSRT.out, hn.out]
          have : lst Y 0 1 = [Y 0] := rfl
          rw [this]
          simp [toP, hsy]
        have hsn : s < n := by have := hn.out; omega
        obtain ⟨c0, c1, c2, c3⟩ := it0'
        rw [hsy] at c1
        simp only [Nat.zero_mul, Nat.zero_add] at c0 c1 c2 c3
        obtain ⟨a0, fz⟩ := own_cell1 O2 (i := s) (by simp; omega)
        have f0 := fz s
        have HST := O2.stored s (.int .i64 1)
        rw [← List.map_set] at HST
        have HSS : Hid _ := HST
        clear HST
        have zi : (s : Int) < (n : Int) := by omega
        have hl9 : ((List.replicate n (0 : Int)).set s 1).length = n := by simp
        clear hsy g1 g2 g3 g4 g5 g6 hy
        generalize (List.replicate n (0 : Int)).getD s 0 = zz at *
        go_wp2
        go_ret2
        obtain ⟨o3, g3⟩ := HSS.out
        refine ⟨some ⟨o, 0, none⟩, n, ?_, ?_, B12.trans ((Below.refl _ _).grown g3 B12.size (by intro k e; simp at e; have := HO.out; have := B1.size; omega))⟩
        · rw [HER.out.1, HER.out.2, HLL.out, hl9]; rfl
        · rw [HER.out.2, HLL.out, hl9]
          exact own_base o3 (by have := HO.out; have := B1.size; omega)
      · have hm2 : 2 ≤ m := by omega
        have hLl := lst_len Y m
        have hLFl : (LFz zs).length = m := HNU.out
        have hFl : (itF (LFz zs)).length = m := by rw [itF_len]; exact hLFl
        have CL := lastRow_any (some ⟨g, 0, none⟩) m c lim o (lst Y 0 m) (itF (LFz zs)) w2 hLl (lst_RL S2) (leaf_row (fun i => (hbx i).1) LF.pm LF.ord) (by intro x hx; cases hx; exact hgo) hsz2 (fun t ht => by
          unfold itF at ht
          obtain ⟨x, hx, rfl⟩ := List.mem_map.1 ht
          have h3 := LF_mem (fun i => (hbx i).1) hx
          have h4 := hbx x.2
          simp only
          omega) hm288 hmc (by intro h; cases h) h1 h15
        have HHAS : Hid (2 * m - 2 ≤ (row (itF (LFz zs)) (lim - 1)).length) := by
          have h3 := row_has (itF (LFz zs)) lim h1 (by rw [hFl, ← HPP.out]; omega)
          rw [hFl] at h3
          exact h3
        have HLL : Hid (lensL lim zs = bumps (List.replicate n 0) (taken (LFz zs) lim)) := by
          show _ = _
          unfold lensL
          rw [if_neg (by rw [HNU.out]; omega), if_neg (by rw [HNU.out]; omega), hn.out]
        obtain ⟨q, hq⟩ : ∃ q, q = 2 * m - 2 := ⟨_, rfl⟩
        have rq : 2 * (m : Int) - 2 = (q : Int) := by omega
        have HQ : Hid (q = 2 * m - 2) := hq
        have HTK : Hid (taken (LFz zs) lim = syms ((row (itF (LFz zs)) (lim - 1)).take q) q) := by
          show _ = _
          unfold taken syms
          rw [List.take_take, Nat.min_self, hq, hLFl]
        have HSY : Hid (∀ s ∈ taken (LFz zs) lim, s < n) := by
          intro s hs
          unfold taken at hs
          obtain ⟨t, ht, hst⟩ := List.mem_flatMap.1 hs
          have h3 := row_sym (itF (LFz zs)) (fun s => s < n) (fun t ht s hs => by
            unfold itF at ht
            obtain ⟨x, hx, rfl⟩ := List.mem_map.1 ht
            simp at hs
            subst hs
            have := (LF_mem (fun i => (hbx i).1) hx).1
            have := hn.out
            omega) (lim - 1) t (List.mem_of_mem_take ht)
          exact h3 s hst
        have HLN : Hid ((taken (LFz zs) lim).length ≤ 4611686018427387904) := by
          unfold taken
          have h3 := flat_len 16384 ((row (itF (LFz zs)) (lim - 1)).take (2 * (LFz zs).length - 2)) (fun t ht => by
            have h4 := row_sl (itF (LFz zs)) (fun t ht => by
              unfold itF at ht
              obtain ⟨x, hx, rfl⟩ := List.mem_map.1 ht
              simp) (lim - 1) t (List.mem_of_mem_take ht)
            have h5 := pow14 ⟨lim - 1, by omega⟩
            simp only at h5
            omega)
          have h6 : ((row (itF (LFz zs)) (lim - 1)).take (2 * (LFz zs).length - 2)).length ≤ 576 := by
            rw [hLFl, List.length_take]; omega
          show _ ≤ _
          have h7 := Nat.mul_le_mul_right 16384 h6
          omega
        have hmi1 : ¬ (m : Int) = 1 := by omega
        have hmi2 : (1 : Int) < (m : Int) := by omega
        clear hq hLl hFl hLFl
        go_wp2_with fail
        refine CL.mono ?_
        rintro e w3 ⟨b3, c3, R, rfl, hRc, rr, hbo, mr, B3⟩
        have hRl : q ≤ R.length := by have := mr.len; have := HHAS.out; have := HQ.out; omega
        have hqc : (q : Int) ≤ (c3 : Int) := by omega
        have CT := tally_any o n o b3 q c3 (lim - 1) (List.replicate n 0) (R.take q) ((row (itF (LFz zs)) (lim - 1)).take q) w3 (by show _ = _; simp; omega) (rr.takeL q) (mr.takeL q) hbo (own_below O2 B3) (Nat.lt_of_lt_of_le hsz2 B3.size) (by show _ = _; simp) (by omega) (by omega) (by rw [← HTK.out]; exact HSY.out) (fun i => by
          by_cases h : i < n
          · simp [List.getD, h]
          · simp [List.getD, h]) (by rw [← HTK.out]; exact HLN.out)
        rw [← HTK.out] at CT
        clear CL
        go_wp2_with fail
        refine CT.mono ?_
        rintro e w4 ⟨rfl, O4, g4⟩
        go_wp2
        go_ret2
        have hbl : (bumps (List.replicate n (0 : Int)) (taken (LFz zs) lim)).length = n := by rw [bumps_len]; simp
        refine ⟨some ⟨o, 0, none⟩, n, ?_, ?_, ?_⟩
        · rw [HER.out.1, HER.out.2, HLL.out, hbl]; rfl
        · rw [HER.out.2, HLL.out, hbl]
          exact own_base O4 (by have := HO.out; have := B1.size; omega)
        · have B13 : Below w.heap.size w w3 := B12.trans (B3.mono B12.size)
          exact B13.trans ((Below.refl _ _).grown g4 B13.size (by intro k e; simp at e; have := HO.out; have := B1.size; omega))

def LenO (w : World) (lim : Int) (zs : List Int) (e : Ending) (w' : World) : Prop := ∃ b c, e = .returned (.tuple #[.slice b (lensR lim zs).length c, .int .i64 (errL lim zs)]) ∧ w'.ownsRow w.heap.size 3 1 (.slice b (lensR lim zs).length c) (lensR lim zs).length ((lensR lim zs).map (Value.int .i64)) ∧ Below w.heap.size w w'
set_option maxRecDepth 100000 in
theorem lengths_own (lim : Int) (a : Option Addr) (zs : List Int) (n cap : Nat) (hn : Hid (zs.length = n)) (w : World) (hs : SegZ w a zs) (hl : n ≤ 9223372036854775807) :
    Calls Tryd.prog 65 #[.int .i64 lim, .slice a n cap] w fun e w' => LenO w lim zs e w' := by
  by_cases h1 : lim < 1
  · have HER : Hid (errL lim zs = 1 ∧ lensR lim zs = []) := by
      have e1 : errL lim zs = 1 := by unfold errL; rw [if_pos (.inl h1)]
      exact ⟨e1, by unfold lensR; rw [e1]; rfl⟩
    go_enter Tryd.func65, Tryd.ntmps65
    go_wp2
    go_ret2
    exact ⟨none, 0, by rw [HER.out.1, HER.out.2]; rfl, by rw [HER.out.2]; exact World.ownsRow_nil _ _ _ _, Below.refl _ _⟩
  · by_cases h2 : 15 < lim
    · have HER : Hid (errL lim zs = 1 ∧ lensR lim zs = []) := by
        have e1 : errL lim zs = 1 := by unfold errL; rw [if_pos (.inr h2)]
        exact ⟨e1, by unfold lensR; rw [e1]; rfl⟩
      go_enter Tryd.func65, Tryd.ntmps65
      go_wp2
      go_ret2
      exact ⟨none, 0, by rw [HER.out.1, HER.out.2]; rfl, by rw [HER.out.2]; exact World.ownsRow_nil _ _ _ _, Below.refl _ _⟩
    · by_cases he : errOf zs = 0
      · obtain ⟨l, rfl⟩ : ∃ l : Nat, lim = (l : Int) := ⟨lim.toNat, by omega⟩
        exact lengths_okO l a zs n cap hn w hs (by omega) (by omega) he
      · have HER : Hid (errL lim zs = errOf zs ∧ lensR lim zs = []) := by
          have e1 : errL lim zs = errOf zs := by unfold errL; rw [if_neg (by omega), if_neg he]
          exact ⟨e1, by unfold lensR; rw [e1, if_neg he]⟩
        have HC := refusal_any a zs cap w hs (by have := hn.out; omega)
        rw [hn.out] at HC
        generalize errOf zs = E at *
        go_enter Tryd.func65, Tryd.ntmps65
        go_wp2_with fail
        refine HC.mono ?_
        rintro e w' ⟨rfl, hw'⟩
        subst w'
        go_wp2
        go_ret2
        exact ⟨none, 0, by rw [HER.out.1, HER.out.2]; rfl, by rw [HER.out.2]; exact World.ownsRow_nil _ _ _ _, Below.refl _ _⟩
end Go.Proofs.YtoeabfcnfofbiaaDoor
