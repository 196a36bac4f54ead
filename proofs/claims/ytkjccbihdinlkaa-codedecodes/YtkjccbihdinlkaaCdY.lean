
import Derived.Test.YtkjccbihdinlkaaCdX
namespace Go.Proofs.Ytkjccbihdinlkaa
open Go.RowKit
set_option linter.unusedVariables false

theorem results_tmp4 {fn : Func} {t u v x : Tmp} (h : fn.results = #[.tmp t, .tmp u, .tmp v, .tmp x]) (tmps : Array Value) (P : Program) (w : World) :
    (results fn tmps).run P w = .ok (.tuple #[tmps.getD t undef, tmps.getD u undef, tmps.getD v undef, tmps.getD x undef]) w := by
  simp [results, h]
theorem cbits_len (zs : List Int) (s : Nat) : (cbits zs s).length = ln zs s := by unfold cbits; rw [rev_len]
theorem cbits_vB {zs : List Int} (h : errC zs = 0) {k : Nat} (hk : k < zs.length) : vB (cbits zs k) (ln zs k) = cd zs k := by
  unfold vB
  rw [List.take_of_length_le (by rw [cbits_len]; exact Nat.le_refl _)]
  unfold cbits
  rw [List.reverse_reverse, num_bN_lt (cd_small h hk).1]
theorem vB_inj {H c : List Bool} {l : Nat} (h : vB H l = vB c l) (h1 : l ≤ H.length) (h2 : l ≤ c.length) : H.take l = c.take l := by
  unfold vB at h
  have := num_inj (by rw [List.length_reverse, List.length_reverse, List.length_take, List.length_take]; omega) h
  exact List.reverse_inj.1 this
theorem beg_begB {zs : List Int} {H : List Bool} (h : errC zs = 0) {s : Nat} (hs : s < zs.length) (h0 : zs.getD s 0 ≠ 0) : begB H (cbits zs s) = true ↔ Beg zs H s := by
  rw [begB_iff, cbits_len]
  constructor
  · rintro ⟨h1, h2⟩
    refine ⟨hs, h0, h1, ?_⟩
    rw [vB_same (c := cbits zs s) (by rw [h2, List.take_of_length_le (by rw [cbits_len]; exact Nat.le_refl _)]), cbits_vB h hs]
  · rintro ⟨_, _, h1, h2⟩
    refine ⟨h1, ?_⟩
    rw [← cbits_vB h hs] at h2
    have := vB_inj h2 h1 (by rw [cbits_len]; exact Nat.le_refl _)
    rw [this, List.take_of_length_le (by rw [cbits_len]; exact Nat.le_refl _)]
def MayAt (zs : List Int) (H : List Bool) (s : Nat) : Prop := H.length < ln zs s ∧ cd zs s / 2 ^ (ln zs s - H.length) = vB H H.length
theorem may_begB {zs : List Int} {H : List Bool} (h : errC zs = 0) {s : Nat} (hs : s < zs.length) (h0 : zs.getD s 0 ≠ 0) (hb : ¬ Beg zs H s) : begB (cbits zs s) H = true ↔ MayAt zs H s := by
  unfold MayAt
  rw [begB_iff, cbits_len]
  have hv : ∀ l, l ≤ ln zs s → vB (cbits zs s) l = cd zs s / 2 ^ (ln zs s - l) := fun l hl => by
    rw [← vB_div (cbits zs s) (a := l) (b := ln zs s) hl (by rw [cbits_len]; exact Nat.le_refl _), cbits_vB h hs]
  constructor
  · rintro ⟨h1, h2⟩
    have hlt : H.length < ln zs s := by
      rcases Nat.lt_or_ge H.length (ln zs s) with c | c
      · exact c
      · exfalso
        have e : H.length = ln zs s := by omega
        rw [e, List.take_of_length_le (by rw [cbits_len]; exact Nat.le_refl _)] at h2
        exact hb ((beg_begB h hs h0).1 (begB_iff.2 ⟨by rw [cbits_len]; omega, by rw [h2, List.take_of_length_le (Nat.le_refl _)]⟩))
    refine ⟨hlt, ?_⟩
    rw [← hv _ h1]
    exact (vB_same (by rw [h2, List.take_of_length_le (Nat.le_refl _)])).symm
  · rintro ⟨h1, h2⟩
    refine ⟨by omega, ?_⟩
    rw [← hv _ (by omega)] at h2
    have := vB_inj h2 (by rw [cbits_len]; omega) (Nat.le_refl _)
    rw [this, List.take_of_length_le (Nat.le_refl _)]

def NxR (w : World) (zs : List Int) (H : List Bool) (e : Ending) (w' : World) : Prop :=
  ((∃ s, Beg zs H s ∧ e = .returned (.tuple #[.int .i64 (s : Int), .bool true, .int .i64 (ln zs s : Int), .int .i64 0])) ∨ ((∀ s, ¬ Beg zs H s) ∧ May zs H ∧ e = .returned (.tuple #[.int .i64 0, .bool false, .int .i64 0, .int .i64 0])) ∨ ((∀ s, ¬ Beg zs H s) ∧ ¬ May zs H ∧ e = .returned (.tuple #[.int .i64 0, .bool false, .int .i64 0, .int .i64 54]))) ∧ Below w.heap.size w w'
/-- How far the symbols have been looked at. -/
def NxI (zs : List Int) (H : List Bool) (s : Nat) (mb : Bool) : Prop := (∀ t, t < s → ¬ Beg zs H t) ∧ (mb = true ↔ ∃ t, t < s ∧ t < zs.length ∧ zs.getD t 0 ≠ 0 ∧ MayAt zs H t)
theorem NxI.zero (zs : List Int) (H : List Bool) : NxI zs H 0 false := ⟨fun t h => by omega, by simp⟩
theorem NxI.skip {zs : List Int} {H : List Bool} {s : Nat} {mb : Bool} (h : NxI zs H s mb) (h0 : zs.getD s 0 = 0) : NxI zs H (s + 1) mb := by
  refine ⟨fun t ht hb => ?_, h.2.trans ⟨?_, ?_⟩⟩
  · by_cases e : t = s
    · subst e; exact hb.2.1 h0
    · exact h.1 t (by omega) hb
  · rintro ⟨t, h1, h2⟩; exact ⟨t, by omega, h2⟩
  · rintro ⟨t, h1, h2, h3, h4⟩
    by_cases e : t = s
    · subst e; exact absurd h0 h3
    · exact ⟨t, by omega, h2, h3, h4⟩
theorem NxI.next {zs : List Int} {H : List Bool} {s : Nat} {mb b : Bool} (h : NxI zs H s mb) (hok : errC zs = 0) (hs : s < zs.length) (h0 : zs.getD s 0 ≠ 0) (hb : begB H (cbits zs s) = false) (hm : begB (cbits zs s) H = b) : NxI zs H (s + 1) (mb || b) := by
  have hnb : ¬ Beg zs H s := fun e => by rw [(beg_begB hok hs h0).2 e] at hb; cases hb
  have hmi := may_begB hok hs h0 hnb
  rw [hm] at hmi
  refine ⟨fun t ht hb2 => ?_, ?_⟩
  · by_cases e : t = s
    · subst e; exact hnb hb2
    · exact h.1 t (by omega) hb2
  · rw [Bool.or_eq_true, h.2, hmi]
    constructor
    · rintro (⟨t, h1, h2⟩ | h1)
      · exact ⟨t, by omega, h2⟩
      · exact ⟨s, by omega, hs, h0, h1⟩
    · rintro ⟨t, h1, h2, h3, h4⟩
      by_cases e : t = s
      · subst e; exact .inr h4
      · exact .inl ⟨t, by omega, h2, h3, h4⟩
theorem NxI.end_ {zs : List Int} {H : List Bool} {mb : Bool} (h : NxI zs H zs.length mb) : (∀ s, ¬ Beg zs H s) ∧ (mb = true ↔ May zs H) := by
  refine ⟨fun s hb => h.1 s hb.1 hb, h.2.trans ⟨?_, ?_⟩⟩
  · rintro ⟨t, _, h2, h3, h4⟩; exact ⟨t, h2, h3, h4.1, h4.2⟩
  · rintro ⟨t, h2, h3, h4, h5⟩; exact ⟨t, h2, h2, h3, h4, h5⟩

set_option maxRecDepth 100000 in
set_option maxHeartbeats 2000000 in
theorem rnext_any (a : Option Addr) (zs : List Int) (n cap : Nat) (hn : Hid (zs.length = n)) (la : Option Addr) (H : List Bool) (nh lc : Nat) (hnh : Hid (H.length = nh)) (w : World) (hs : SegZ w a zs) (hH : SegB w la H) (hok : errC zs = 0) (h64 : nh ≤ 64) :
    Calls Try.prog 35 #[.slice a n cap, .slice la nh lc] w fun e w' => NxR w zs H e w' := by
  have HL := errS_zero (errC_zero hok).1
  have hn288 : n ≤ 288 := by have := hn.out; have := HL.1; omega
  have HC := rcodes_any a zs n cap hn w hs (by omega)
  have e1 : Hid (cdsR zs = cds zs) := by show _ = _; unfold cdsR; rw [if_pos hok]
  have e3 : Hid ((cds zs).length = n) := by show _ = _; rw [cds_len]; exact hn.out
  have HOK : Hid (errC zs = 0) := hok
  have HCB := cds_bd hok
  have HLK : Hid (LOk zs) := HL.2
  clear hok HL
  go_enter Try.func35, Try.ntmps35
  go_wp2_with fail
  refine HC.mono ?_
  rintro e w1 ⟨b1, c1, rfl, O1, B1⟩
  rw [e1.out, e3.out] at O1
  rw [e1.out, e3.out, HOK.out]
  have Z1 : SegZ w1 b1 (cds zs) := own_segZ O1 HCB
  clear O1
  go_wp2_with fail
  go_loopw [8, 23] (fun tm ti wr => ∃ (s : Nat) (mb : Bool), s ≤ n ∧ ti = .int .i64 (s : Int) ∧ tm = .bool mb ∧ Hid (NxI zs H s mb) ∧ Below w1.heap.size w1 wr) (fun _ ti _ => n - (intOf ti).toNat)
  case atStart => exact ⟨0, false, Nat.zero_le _, rfl, rfl, NxI.zero zs H, Below.refl _ _⟩
  case round =>
    obtain ⟨s, mb, hsn, rfl, rfl, HI, BR⟩ := hrel
    have Bw : Below w.heap.size w wr := B1.trans (BR.mono B1.size)
    by_cases hlt : s < n
    · have hlti : (s : Int) < (n : Int) := by omega
      have hsz : s < zs.length := by have := hn.out; omega
      obtain ⟨g, off, rfl, c0⟩ := (hs.old Bw).at_ s hsz
      obtain ⟨g1, off1, rfl, d0⟩ := (Z1.old BR).at_ s (by rw [e3.out]; omega)
      rw [cds_get zs hsz] at d0
      have HLN := (HLK.out.ln s).1
      rw [HLN] at c0
      have HSM := cd_small HOK.out hsz
      have hcs := HSM.2.2
      have hl15 := HSM.2.1
      have R := row5_any (cd zs s) (ln zs s)
      have HCB2 : Hid (cbits zs s = (bN (cd zs s) (ln zs s)).reverse) := rfl
      rw [← HCB2.out] at R
      have HNX : Hid (∀ b, zs.getD s 0 ≠ 0 → begB H (cbits zs s) = false → begB (cbits zs s) H = b → NxI zs H (s + 1) (mb || b)) := fun b h0 h1 h2 => HI.out.next HOK.out hsz h0 h1 h2
      have HBG : Hid (zs.getD s 0 ≠ 0 → begB H (cbits zs s) = true → Beg zs H s) := fun h0 h1 => (beg_begB HOK.out hsz h0).1 h1
      have HCL : Hid ((cbits zs s).length = ln zs s) := cbits_len zs s
      have HZL : Hid (zs.getD s 0 = (ln zs s : Int)) := HLN
      have HCC : Hid (∃ c, c = cbits zs s) := ⟨_, rfl⟩
      obtain ⟨C, hC⟩ := HCC.out
      rw [← hC] at R HNX HBG HCL
      clear HSM HLN hC HCC HCB2
      have HLV : Hid (∃ l, l = ln zs s) := ⟨_, rfl⟩
      obtain ⟨l, hl⟩ := HLV.out
      rw [← hl] at c0 hl15 R HCL HZL
      have HLE : Hid (ln zs s = l) := hl.symm
      clear hl HLV
      generalize cd zs s = cc at *
      by_cases hl0 : l = 0
      · subst hl0
        have HSK : Hid (NxI zs H (s + 1) mb) := HI.out.skip HZL.out
        go_wp2_with fail
        go_roundw
        case rel => exact ⟨s + 1, mb, by omega, by go_num, rfl, HSK, BR⟩
        case measure => simp [intOf]; omega
      · have hl0i : ¬ (l : Int) = 0 := by omega
        have hz0 : Hid (zs.getD s 0 ≠ 0) := by show _ ≠ _; rw [HZL.out]; omega
        go_wp2_with fail
        refine (R _ hcs hl15).mono ?_
        rintro e w2 ⟨a2, c2, rfl, O2, B2⟩
        have hH2 : SegB w2 la H := (hH.old Bw).old B2
        have SC : SegB w2 a2 C := own_segB O2
        have BR2 : Below w1.heap.size w1 w2 := BR.trans (B2.mono BR.size)
        clear R O2
        cases hbg : begB H C
        · have C1 := begins_any la a2 H C nh l lc c2 hnh HCL w2 hH2 SC (by omega) (by omega)
          rw [hbg] at C1
          cases mb
          · cases hbm : begB C H
            · have HNX2 : Hid (NxI zs H (s + 1) false) := HNX.out false hz0.out hbg hbm
              have HBM : Hid (begB C H = false) := hbm
              clear hbm hbg
              go_wp2_with fail
              refine C1.mono ?_
              rintro e w3 ⟨rfl, B3⟩
              have C2 := begins_any a2 la C H l nh c2 lc HCL hnh w3 (SC.old B3) (hH2.old B3) (by omega) (by omega)
              rw [HBM.out] at C2
              have BR3 : Below w1.heap.size w1 w3 := BR2.trans (B3.mono BR2.size)
              go_wp2_with fail
              refine C2.mono ?_
              rintro e w4 ⟨rfl, B4⟩
              go_wp2_with fail
              go_roundw
              case rel => exact ⟨s + 1, false, by omega, by go_num, rfl, HNX2, BR3.trans (B4.mono BR3.size)⟩
              case measure => simp [intOf]; omega
            · have HNX2 : Hid (NxI zs H (s + 1) true) := HNX.out true hz0.out hbg hbm
              have HBM : Hid (begB C H = true) := hbm
              clear hbm hbg
              go_wp2_with fail
              refine C1.mono ?_
              rintro e w3 ⟨rfl, B3⟩
              have C2 := begins_any a2 la C H l nh c2 lc HCL hnh w3 (SC.old B3) (hH2.old B3) (by omega) (by omega)
              rw [HBM.out] at C2
              have BR3 : Below w1.heap.size w1 w3 := BR2.trans (B3.mono BR2.size)
              go_wp2_with fail
              refine C2.mono ?_
              rintro e w4 ⟨rfl, B4⟩
              go_wp2_with fail
              go_roundw
              case rel => exact ⟨s + 1, true, by omega, by go_num, rfl, HNX2, BR3.trans (B4.mono BR3.size)⟩
              case measure => simp [intOf]; omega
          · have HNX2 : Hid (NxI zs H (s + 1) true) := by have := HNX.out (begB C H) hz0.out hbg rfl; rwa [Bool.true_or] at this
            clear hbg
            go_wp2_with fail
            refine C1.mono ?_
            rintro e w3 ⟨rfl, B3⟩
            have BR3 : Below w1.heap.size w1 w3 := BR2.trans (B3.mono BR2.size)
            go_wp2_with fail
            go_roundw
            case rel => exact ⟨s + 1, true, by omega, by go_num, rfl, HNX2, BR3⟩
            case measure => simp [intOf]; omega
        · have C1 := begins_any la a2 H C nh l lc c2 hnh HCL w2 hH2 SC (by omega) (by omega)
          rw [hbg] at C1
          have HBB : Hid (Beg zs H s) := HBG.out hz0.out hbg
          clear hbg
          go_wp2_with fail
          refine C1.mono ?_
          rintro e w3 ⟨rfl, B3⟩
          have BR3 : Below w1.heap.size w1 w3 := BR2.trans (B3.mono BR2.size)
          go_wp2_with fail
          try simp only [Exit.inBlock, Exit.then]
          refine bodyPost_ret (results_tmp4 rfl _ _ _) rfl ?_
          exact ⟨.inl ⟨s, HBB.out, by rw [HLE.out]; rfl⟩, B1.trans (BR3.mono B1.size)⟩
    · obtain rfl : s = n := by omega
      have HE : Hid ((∀ t, ¬ Beg zs H t) ∧ (mb = true ↔ May zs H)) := by
        have := HI.out
        rw [← hn.out] at this
        exact this.end_
      clear HI
      cases mb
      · have HM : Hid (¬ May zs H) := fun h => by have := HE.out.2.2 h; cases this
        go_wp2_with fail
        try simp only [Exit.inBlock, Exit.then]
        refine bodyPost_ret (results_tmp4 rfl _ _ _) rfl ?_
        exact ⟨.inr (.inr ⟨HE.out.1, HM.out, rfl⟩), Bw⟩
      · have HM : Hid (May zs H) := HE.out.2.1 rfl
        go_wp2_with fail
        try simp only [Exit.inBlock, Exit.then]
        refine bodyPost_ret (results_tmp4 rfl _ _ _) rfl ?_
        exact ⟨.inr (.inl ⟨HE.out.1, HM.out, rfl⟩), Bw⟩
end Go.Proofs.Ytkjccbihdinlkaa
