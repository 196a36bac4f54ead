import Derived.Test.YtkjccbihdinlkaaPr
namespace Go.Proofs.Ytkjccbihdinlkaa
open Go.RowKit
set_option linter.unusedVariables false

/-- The bits of symbols, one behind the other. -/
def PB (zs ps : List Int) : List Bool := ps.flatMap (putB zs)
theorem PB_nil (zs : List Int) : PB zs [] = [] := rfl
theorem PB_append (zs ps qs : List Int) : PB zs (ps ++ qs) = PB zs ps ++ PB zs qs := by simp [PB]
theorem PB_snoc (zs ps : List Int) (s : Int) : PB zs (ps ++ [s]) = PB zs ps ++ putB zs s := by rw [PB_append]; simp [PB]
theorem PB_len {zs : List Int} (h : errC zs = 0) : ∀ ps : List Int, (PB zs ps).length ≤ 15 * ps.length
  | [] => by simp [PB]
  | s :: ps => by
    have h1 := PB_len h ps
    have h2 := putB_le h s
    have : PB zs (s :: ps) = putB zs s ++ PB zs ps := by simp [PB]
    rw [this, List.length_append, List.length_cons]
    omega
theorem putB_lenIn {zs : List Int} (h : errC zs = 0) {k : Nat} (hk : k < zs.length) : (putB zs k).length = ln zs k := by rw [putB_in h hk, rev_len]
theorem putB_vB {zs : List Int} (h : errC zs = 0) {k : Nat} (hk : k < zs.length) : vB (putB zs k) (ln zs k) = cd zs k := by
  rw [putB_in h hk]
  unfold vB
  rw [List.take_of_length_le (by rw [rev_len]; exact Nat.le_refl _), List.reverse_reverse, num_bN_lt (cd_small h hk).1]
theorem vB_same {H c : List Bool} {l : Nat} (h : H.take l = c.take l) : vB H l = vB c l := by unfold vB; rw [h]
/-- What is held, and what comes behind it, are the symbol's bits and those behind. -/
theorem held_split {zs P : List Int} {i fed : Nat} {H : List Bool} (hi : i < P.length) (hH : PB zs (P.take i) ++ H = bB ((toB (PB zs P)).take fed)) :
    ∃ Y, H ++ bB ((toB (PB zs P)).drop fed) = putB zs (P.getD i 0) ++ Y := by
  obtain ⟨k, _, hB⟩ := bB_toB (L := PB zs P)
  have h1 : bB (toB (PB zs P)) = PB zs (P.take i) ++ H ++ bB ((toB (PB zs P)).drop fed) := by
    rw [hH, ← bB_append, List.take_append_drop]
  have h2 : PB zs P = PB zs (P.take i) ++ (putB zs (P.getD i 0) ++ PB zs (P.drop (i + 1))) := by
    rw [← List.append_assoc, ← PB_snoc, ← take_snocZ hi, ← PB_append, List.take_append_drop]
  refine ⟨PB zs (P.drop (i + 1)) ++ List.replicate k false, ?_⟩
  rw [hB] at h1
  have h3 : PB zs (P.take i) ++ (H ++ bB ((toB (PB zs P)).drop fed)) = PB zs (P.take i) ++ (putB zs (P.getD i 0) ++ (PB zs (P.drop (i + 1)) ++ List.replicate k false)) := by
    rw [← List.append_assoc, ← h1]
    generalize bB ((toB (PB zs P)).drop fed) = Z at *
    rw [h2]
    simp only [List.append_assoc]
  exact List.append_cancel_left h3
theorem held_beg {zs P : List Int} {i fed k : Nat} {H : List Bool} (hok : errC zs = 0) (hi : i < P.length) (hs : P.getD i 0 = (k : Int)) (hk : k < zs.length) (hk0 : zs.getD k 0 ≠ 0) (hH : PB zs (P.take i) ++ H = bB ((toB (PB zs P)).take fed)) (hl : ln zs k ≤ H.length) :
    Beg zs H k ∧ PB zs (P.take (i + 1)) ++ H.drop (ln zs k) = bB ((toB (PB zs P)).take fed) ∧ (PB zs (P.take (i + 1))).length = (PB zs (P.take i)).length + ln zs k := by
  obtain ⟨Y, hY⟩ := held_split hi hH
  rw [hs] at hY
  have hpl := putB_lenIn hok hk
  have h1 := congrArg (List.take (ln zs k)) hY
  rw [List.take_append_of_le_length hl, List.take_left' hpl] at h1
  have h2 : PB zs (P.take (i + 1)) = PB zs (P.take i) ++ putB zs k := by rw [take_snocZ hi, PB_snoc, hs]
  refine ⟨⟨hk, hk0, hl, ?_⟩, ?_, ?_⟩
  · rw [vB_same (c := putB zs k) (by rw [h1, List.take_of_length_le (by rw [hpl]; exact Nat.le_refl _)]), putB_vB hok hk]
  · rw [h2, ← h1, List.append_assoc, List.take_append_drop, hH]
  · rw [h2, List.length_append, hpl]
theorem held_may {zs P : List Int} {i fed k : Nat} {H : List Bool} (hok : errC zs = 0) (hi : i < P.length) (hs : P.getD i 0 = (k : Int)) (hk : k < zs.length) (hk0 : zs.getD k 0 ≠ 0) (hH : PB zs (P.take i) ++ H = bB ((toB (PB zs P)).take fed)) (hl : H.length < ln zs k) :
    (∀ s, ¬ Beg zs H s) ∧ May zs H ∧ fed < (toB (PB zs P)).length := by
  obtain ⟨Y, hY⟩ := held_split hi hH
  rw [hs] at hY
  have hpl := putB_lenIn hok hk
  have hlok := (errS_zero (errC_zero hok).1).2
  have h1 := congrArg (List.take H.length) hY
  rw [List.take_left' rfl, List.take_append_of_le_length (by omega)] at h1
  have hv : ∀ l, l ≤ H.length → vB H l = cd zs k / 2 ^ (ln zs k - l) := by
    intro l hle
    have e1 : H.take l = (putB zs k).take l := by
      have := congrArg (List.take l) h1
      rw [List.take_take, Nat.min_eq_left hle] at this
      exact this
    rw [vB_same e1, ← vB_div (putB zs k) (a := l) (b := ln zs k) (by omega) (by omega), putB_vB hok hk]
  refine ⟨fun s hb => ?_, ⟨k, hk, hk0, hl, (hv _ (Nat.le_refl _)).symm⟩, ?_⟩
  · obtain ⟨b1, b2, b3, b4⟩ := hb
    rw [hv _ b3] at b4
    have := cd_apart hlok b1 hk b2 (by omega) b4
    subst this
    omega
  · rcases Nat.lt_or_ge fed (toB (PB zs P)).length with h | h
    · exact h
    · exfalso
      rw [List.drop_eq_nil_of_le h] at hY
      have := congrArg List.length hY
      simp only [bB, List.append_nil, List.length_append, hpl] at this
      omega
end Go.Proofs.Ytkjccbihdinlkaa

namespace Go.Proofs.Ytkjccbihdinlkaa
open Go.RowKit
set_option linter.unusedVariables false

/-- Does a list begin with another one? -/
def begB (L M : List Bool) : Bool := decide (M.length ≤ L.length) && (L.take M.length == M)
theorem begB_short {L M : List Bool} (h : L.length < M.length) : begB L M = false := by
  unfold begB
  rw [decide_eq_false (by omega)]
  rfl
theorem begB_iff {L M : List Bool} : begB L M = true ↔ M.length ≤ L.length ∧ L.take M.length = M := by
  unfold begB
  simp
theorem SegB.get {w : World} {a : Option Addr} {L : List Bool} (h : SegB w a L) (i : Nat) (hi : i < L.length) : ∃ b off, a = some ⟨b, off, none⟩ ∧ w.cell? ⟨b, off + i, none⟩ = some (.bool (L.getD i false)) := h.at_ i hi

set_option maxRecDepth 100000 in
set_option maxHeartbeats 1000000 in
theorem begins_any (a b : Option Addr) (L M : List Bool) (nl nm ca cb : Nat) (hnl : Hid (L.length = nl)) (hnm : Hid (M.length = nm)) (w : World) (hx : SegB w a L) (hy : SegB w b M) (hl : nl ≤ 1000) (hm : nm ≤ 1000) :
    Calls Try.prog 54 #[.slice a nl ca, .slice b nm cb] w fun e w' => e = .returned (.bool (begB L M)) ∧ Below w.heap.size w w' := by
  by_cases hlen : nl < nm
  · have hleni : (nl : Int) < (nm : Int) := by omega
    have HF : Hid (begB L M = false) := begB_short (by have := hnl.out; have := hnm.out; omega)
    go_enter Try.func54, Try.ntmps54
    go_wp2_with fail
    go_ret
    exact ⟨by rw [HF.out]; rfl, Below.refl _ _⟩
  · have hleni : ¬ (nl : Int) < (nm : Int) := by omega
    go_enter Try.func54, Try.ntmps54
    go_wp2_with fail
    go_loopw [13] (fun ti wr => ∃ k : Nat, k ≤ nm ∧ ti = .int .i64 k ∧ Hid (L.take k = M.take k) ∧ Below w.heap.size w wr) (fun ti _ => nm - (intOf ti).toNat)
    case atStart => exact ⟨0, Nat.zero_le _, rfl, (by simp : _ = _), Below.refl _ _⟩
    case round =>
      obtain ⟨k, hk, rfl, HE, hb⟩ := hrel
      have hx := hx.old hb
      have hy := hy.old hb
      by_cases h1 : k < nm
      · have h1i : (k : Int) < (nm : Int) := by omega
        have hkL : (k : Int) < (nl : Int) := by omega
        have hkx : k < L.length := by have := hnl.out; omega
        have hky : k < M.length := by have := hnm.out; omega
        obtain ⟨b1, o1, rfl, c1⟩ := hx.at_ k hkx
        obtain ⟨b2, o2, rfl, c2⟩ := hy.at_ k hky
        have HT : Hid (L.take (k + 1) = L.take k ++ [L.getD k false] ∧ M.take (k + 1) = M.take k ++ [M.getD k false]) := ⟨take_succ_b hkx, take_succ_b hky⟩
        have HNE : Hid (L.getD k false ≠ M.getD k false → begB L M = false) := by
          intro hne
          rw [Bool.eq_false_iff]
          intro h
          have h2 := (begB_iff.1 h).2
          have h3 : (L.take M.length).getD k false = M.getD k false := by rw [h2]
          rw [List.getD_eq_getElem?_getD, List.getElem?_take_of_lt hky, ← List.getD_eq_getElem?_getD] at h3
          exact hne h3
        clear hkx hky
        generalize L.getD k false = z1 at *
        generalize M.getD k false = z2 at *
        by_cases hz : z1 = z2
        · subst hz
          go_wp2
          go_region
          go_wp2
          go_roundw
          case rel => exact ⟨k + 1, by omega, by go_num, (by rw [HT.out.1, HT.out.2, HE.out] : _ = _), hb.drew⟩
          case measure => simp [intOf]; omega
        · have hzb : (z1 == z2) = false := by cases z1 <;> cases z2 <;> simp_all
          have hne2 : begB L M = false := HNE.out hz
          have HNE2 : Hid (begB L M = false) := hne2
          clear hne2 hz HNE
          go_wp2
          go_region
          go_wp2
          go_ret
          exact ⟨by rw [HNE2.out]; rfl, hb.drew⟩
      · obtain rfl : k = nm := by omega
        go_wp2
        go_ret
        have e : begB L M = true := begB_iff.2 ⟨by have := hnl.out; have := hnm.out; omega, by
          rw [hnm.out]
          have := HE.out
          rw [List.take_of_length_le (l := M) (by have := hnm.out; omega)] at this
          exact this⟩
        exact ⟨by rw [e]; rfl, hb⟩
end Go.Proofs.Ytkjccbihdinlkaa

namespace Go.Proofs.Ytkjccbihdinlkaa
open Go.RowKit
set_option linter.unusedVariables false

theorem results_tmp4 {fn : Func} {t u v x : Tmp} (h : fn.results = #[.tmp t, .tmp u, .tmp v, .tmp x]) (tmps : Array Value) (P : Program) (w : World) :
    (results fn tmps).run P w = .ok (.tuple #[tmps.getD t undef, tmps.getD u undef, tmps.getD v undef, tmps.getD x undef]) w := by
  simp [results, h]
theorem cbits_len (zs : List Int) (s : Nat) : (cbits zs s).length = ln zs s := by unfold cbits; rw [rev_len]
theorem cbits_vB {zs : List Int} (h : errC zs = 0) {k : Nat} (hk : k < zs.length) : vB (cbits zs k) (ln zs k) = cd zs k := by
  unfold vB
  rw [List.take_of_length_le (by rw [cbits_len]; exact Nat.le_refl _)]
  unfold cbits
  rw [List.reverse_reverse, num_bN_lt (cd_small h hk).1]
theorem vB_inj {H c : List Bool} {l : Nat} (h : vB H l = vB c l) (h1 : l ≤ H.length) (h2 : l ≤ c.length) : H.take l = c.take l := by
  unfold vB at h
  have := num_inj (by rw [List.length_reverse, List.length_reverse, List.length_take, List.length_take]; omega) h
  exact List.reverse_inj.1 this
theorem beg_begB {zs : List Int} {H : List Bool} (h : errC zs = 0) {s : Nat} (hs : s < zs.length) (h0 : zs.getD s 0 ≠ 0) : begB H (cbits zs s) = true ↔ Beg zs H s := by
  rw [begB_iff, cbits_len]
  constructor
  · rintro ⟨h1, h2⟩
    refine ⟨hs, h0, h1, ?_⟩
    rw [vB_same (c := cbits zs s) (by rw [h2, List.take_of_length_le (by rw [cbits_len]; exact Nat.le_refl _)]), cbits_vB h hs]
  · rintro ⟨_, _, h1, h2⟩
    refine ⟨h1, ?_⟩
    rw [← cbits_vB h hs] at h2
    have := vB_inj h2 h1 (by rw [cbits_len]; exact Nat.le_refl _)
    rw [this, List.take_of_length_le (by rw [cbits_len]; exact Nat.le_refl _)]
def MayAt (zs : List Int) (H : List Bool) (s : Nat) : Prop := H.length < ln zs s ∧ cd zs s / 2 ^ (ln zs s - H.length) = vB H H.length
theorem may_begB {zs : List Int} {H : List Bool} (h : errC zs = 0) {s : Nat} (hs : s < zs.length) (h0 : zs.getD s 0 ≠ 0) (hb : ¬ Beg zs H s) : begB (cbits zs s) H = true ↔ MayAt zs H s := by
  unfold MayAt
  rw [begB_iff, cbits_len]
  have hv : ∀ l, l ≤ ln zs s → vB (cbits zs s) l = cd zs s / 2 ^ (ln zs s - l) := fun l hl => by
    rw [← vB_div (cbits zs s) (a := l) (b := ln zs s) hl (by rw [cbits_len]; exact Nat.le_refl _), cbits_vB h hs]
  constructor
  · rintro ⟨h1, h2⟩
    have hlt : H.length < ln zs s := by
      rcases Nat.lt_or_ge H.length (ln zs s) with c | c
      · exact c
      · exfalso
        have e : H.length = ln zs s := by omega
        rw [e, List.take_of_length_le (by rw [cbits_len]; exact Nat.le_refl _)] at h2
        exact hb ((beg_begB h hs h0).1 (begB_iff.2 ⟨by rw [cbits_len]; omega, by rw [h2, List.take_of_length_le (Nat.le_refl _)]⟩))
    refine ⟨hlt, ?_⟩
    rw [← hv _ h1]
    exact (vB_same (by rw [h2, List.take_of_length_le (Nat.le_refl _)])).symm
  · rintro ⟨h1, h2⟩
    refine ⟨by omega, ?_⟩
    rw [← hv _ (by omega)] at h2
    have := vB_inj h2 (by rw [cbits_len]; omega) (Nat.le_refl _)
    rw [this, List.take_of_length_le (Nat.le_refl _)]

def NxR (w : World) (zs : List Int) (H : List Bool) (e : Ending) (w' : World) : Prop :=
  ((∃ s, Beg zs H s ∧ e = .returned (.tuple #[.int .i64 (s : Int), .bool true, .int .i64 (ln zs s : Int), .int .i64 0])) ∨ ((∀ s, ¬ Beg zs H s) ∧ May zs H ∧ e = .returned (.tuple #[.int .i64 0, .bool false, .int .i64 0, .int .i64 0])) ∨ ((∀ s, ¬ Beg zs H s) ∧ ¬ May zs H ∧ e = .returned (.tuple #[.int .i64 0, .bool false, .int .i64 0, .int .i64 54]))) ∧ Below w.heap.size w w'
/-- How far the symbols have been looked at. -/
def NxI (zs : List Int) (H : List Bool) (s : Nat) (mb : Bool) : Prop := (∀ t, t < s → ¬ Beg zs H t) ∧ (mb = true ↔ ∃ t, t < s ∧ t < zs.length ∧ zs.getD t 0 ≠ 0 ∧ MayAt zs H t)
theorem NxI.zero (zs : List Int) (H : List Bool) : NxI zs H 0 false := ⟨fun t h => by omega, by simp⟩
theorem NxI.skip {zs : List Int} {H : List Bool} {s : Nat} {mb : Bool} (h : NxI zs H s mb) (h0 : zs.getD s 0 = 0) : NxI zs H (s + 1) mb := by
  refine ⟨fun t ht hb => ?_, h.2.trans ⟨?_, ?_⟩⟩
  · by_cases e : t = s
    · subst e; exact hb.2.1 h0
    · exact h.1 t (by omega) hb
  · rintro ⟨t, h1, h2⟩; exact ⟨t, by omega, h2⟩
  · rintro ⟨t, h1, h2, h3, h4⟩
    by_cases e : t = s
    · subst e; exact absurd h0 h3
    · exact ⟨t, by omega, h2, h3, h4⟩
theorem NxI.next {zs : List Int} {H : List Bool} {s : Nat} {mb b : Bool} (h : NxI zs H s mb) (hok : errC zs = 0) (hs : s < zs.length) (h0 : zs.getD s 0 ≠ 0) (hb : begB H (cbits zs s) = false) (hm : begB (cbits zs s) H = b) : NxI zs H (s + 1) (mb || b) := by
  have hnb : ¬ Beg zs H s := fun e => by rw [(beg_begB hok hs h0).2 e] at hb; cases hb
  have hmi := may_begB hok hs h0 hnb
  rw [hm] at hmi
  refine ⟨fun t ht hb2 => ?_, ?_⟩
  · by_cases e : t = s
    · subst e; exact hnb hb2
    · exact h.1 t (by omega) hb2
  · rw [Bool.or_eq_true, h.2, hmi]
    constructor
    · rintro (⟨t, h1, h2⟩ | h1)
      · exact ⟨t, by omega, h2⟩
      · exact ⟨s, by omega, hs, h0, h1⟩
    · rintro ⟨t, h1, h2, h3, h4⟩
      by_cases e : t = s
      · subst e; exact .inr h4
      · exact .inl ⟨t, by omega, h2, h3, h4⟩
theorem NxI.end_ {zs : List Int} {H : List Bool} {mb : Bool} (h : NxI zs H zs.length mb) : (∀ s, ¬ Beg zs H s) ∧ (mb = true ↔ May zs H) := by
  refine ⟨fun s hb => h.1 s hb.1 hb, h.2.trans ⟨?_, ?_⟩⟩
  · rintro ⟨t, _, h2, h3, h4⟩; exact ⟨t, h2, h3, h4.1, h4.2⟩
  · rintro ⟨t, h2, h3, h4, h5⟩; exact ⟨t, h2, h2, h3, h4, h5⟩

set_option maxRecDepth 100000 in
set_option maxHeartbeats 2000000 in
theorem rnext_any (a : Option Addr) (zs : List Int) (n cap : Nat) (hn : Hid (zs.length = n)) (la : Option Addr) (H : List Bool) (nh lc : Nat) (hnh : Hid (H.length = nh)) (w : World) (hs : SegZ w a zs) (hH : SegB w la H) (hok : errC zs = 0) (h64 : nh ≤ 64) :
    Calls Try.prog 35 #[.slice a n cap, .slice la nh lc] w fun e w' => NxR w zs H e w' := by
  have HL := errS_zero (errC_zero hok).1
  have hn288 : n ≤ 288 := by have := hn.out; have := HL.1; omega
  have HC := rcodes_any a zs n cap hn w hs (by omega)
  have e1 : Hid (cdsR zs = cds zs) := by show _ = _; unfold cdsR; rw [if_pos hok]
  have e3 : Hid ((cds zs).length = n) := by show _ = _; rw [cds_len]; exact hn.out
  have HOK : Hid (errC zs = 0) := hok
  have HCB := cds_bd hok
  have HLK : Hid (LOk zs) := HL.2
  clear hok HL
  go_enter Try.func35, Try.ntmps35
  go_wp2_with fail
  refine HC.mono ?_
  rintro e w1 ⟨b1, c1, rfl, O1, B1⟩
  rw [e1.out, e3.out] at O1
  rw [e1.out, e3.out, HOK.out]
  have Z1 : SegZ w1 b1 (cds zs) := own_segZ O1 HCB
  clear O1
  go_wp2_with fail
  go_loopw [8, 23] (fun tm ti wr => ∃ (s : Nat) (mb : Bool), s ≤ n ∧ ti = .int .i64 (s : Int) ∧ tm = .bool mb ∧ Hid (NxI zs H s mb) ∧ Below w1.heap.size w1 wr) (fun _ ti _ => n - (intOf ti).toNat)
  case atStart => exact ⟨0, false, Nat.zero_le _, rfl, rfl, NxI.zero zs H, Below.refl _ _⟩
  case round =>
    obtain ⟨s, mb, hsn, rfl, rfl, HI, BR⟩ := hrel
    have Bw : Below w.heap.size w wr := B1.trans (BR.mono B1.size)
    by_cases hlt : s < n
    · have hlti : (s : Int) < (n : Int) := by omega
      have hsz : s < zs.length := by have := hn.out; omega
      obtain ⟨g, off, rfl, c0⟩ := (hs.old Bw).at_ s hsz
      obtain ⟨g1, off1, rfl, d0⟩ := (Z1.old BR).at_ s (by rw [e3.out]; omega)
      rw [cds_get zs hsz] at d0
      have HLN := (HLK.out.ln s).1
      rw [HLN] at c0
      have HSM := cd_small HOK.out hsz
      have hcs := HSM.2.2
      have hl15 := HSM.2.1
      have R := row5_any (cd zs s) (ln zs s)
      have HCB2 : Hid (cbits zs s = (bN (cd zs s) (ln zs s)).reverse) := rfl
      rw [← HCB2.out] at R
      have HNX : Hid (∀ b, zs.getD s 0 ≠ 0 → begB H (cbits zs s) = false → begB (cbits zs s) H = b → NxI zs H (s + 1) (mb || b)) := fun b h0 h1 h2 => HI.out.next HOK.out hsz h0 h1 h2
      have HBG : Hid (zs.getD s 0 ≠ 0 → begB H (cbits zs s) = true → Beg zs H s) := fun h0 h1 => (beg_begB HOK.out hsz h0).1 h1
      have HCL : Hid ((cbits zs s).length = ln zs s) := cbits_len zs s
      have HZL : Hid (zs.getD s 0 = (ln zs s : Int)) := HLN
      have HCC : Hid (∃ c, c = cbits zs s) := ⟨_, rfl⟩
      obtain ⟨C, hC⟩ := HCC.out
      rw [← hC] at R HNX HBG HCL
      clear HSM HLN hC HCC HCB2
      have HLV : Hid (∃ l, l = ln zs s) := ⟨_, rfl⟩
      obtain ⟨l, hl⟩ := HLV.out
      rw [← hl] at c0 hl15 R HCL HZL
      have HLE : Hid (ln zs s = l) := hl.symm
      clear hl HLV
      generalize cd zs s = cc at *
      by_cases hl0 : l = 0
      · subst hl0
        have HSK : Hid (NxI zs H (s + 1) mb) := HI.out.skip HZL.out
        go_wp2_with fail
        go_roundw
        case rel => exact ⟨s + 1, mb, by omega, by go_num, rfl, HSK, BR⟩
        case measure => simp [intOf]; omega
      · have hl0i : ¬ (l : Int) = 0 := by omega
        have hz0 : Hid (zs.getD s 0 ≠ 0) := by show _ ≠ _; rw [HZL.out]; omega
        go_wp2_with fail
        refine (R _ hcs hl15).mono ?_
        rintro e w2 ⟨a2, c2, rfl, O2, B2⟩
        have hH2 : SegB w2 la H := (hH.old Bw).old B2
        have SC : SegB w2 a2 C := own_segB O2
        have BR2 : Below w1.heap.size w1 w2 := BR.trans (B2.mono BR.size)
        clear R O2
        cases hbg : begB H C
        · have C1 := begins_any la a2 H C nh l lc c2 hnh HCL w2 hH2 SC (by omega) (by omega)
          rw [hbg] at C1
          cases mb
          · cases hbm : begB C H
            · have HNX2 : Hid (NxI zs H (s + 1) false) := HNX.out false hz0.out hbg hbm
              have HBM : Hid (begB C H = false) := hbm
              clear hbm hbg
              go_wp2_with fail
              refine C1.mono ?_
              rintro e w3 ⟨rfl, B3⟩
              have C2 := begins_any a2 la C H l nh c2 lc HCL hnh w3 (SC.old B3) (hH2.old B3) (by omega) (by omega)
              rw [HBM.out] at C2
              have BR3 : Below w1.heap.size w1 w3 := BR2.trans (B3.mono BR2.size)
              go_wp2_with fail
              refine C2.mono ?_
              rintro e w4 ⟨rfl, B4⟩
              go_wp2_with fail
              go_roundw
              case rel => exact ⟨s + 1, false, by omega, by go_num, rfl, HNX2, BR3.trans (B4.mono BR3.size)⟩
              case measure => simp [intOf]; omega
            · have HNX2 : Hid (NxI zs H (s + 1) true) := HNX.out true hz0.out hbg hbm
              have HBM : Hid (begB C H = true) := hbm
              clear hbm hbg
              go_wp2_with fail
              refine C1.mono ?_
              rintro e w3 ⟨rfl, B3⟩
              have C2 := begins_any a2 la C H l nh c2 lc HCL hnh w3 (SC.old B3) (hH2.old B3) (by omega) (by omega)
              rw [HBM.out] at C2
              have BR3 : Below w1.heap.size w1 w3 := BR2.trans (B3.mono BR2.size)
              go_wp2_with fail
              refine C2.mono ?_
              rintro e w4 ⟨rfl, B4⟩
              go_wp2_with fail
              go_roundw
              case rel => exact ⟨s + 1, true, by omega, by go_num, rfl, HNX2, BR3.trans (B4.mono BR3.size)⟩
              case measure => simp [intOf]; omega
          · have HNX2 : Hid (NxI zs H (s + 1) true) := by have := HNX.out (begB C H) hz0.out hbg rfl; rwa [Bool.true_or] at this
            clear hbg
            go_wp2_with fail
            refine C1.mono ?_
            rintro e w3 ⟨rfl, B3⟩
            have BR3 : Below w1.heap.size w1 w3 := BR2.trans (B3.mono BR2.size)
            go_wp2_with fail
            go_roundw
            case rel => exact ⟨s + 1, true, by omega, by go_num, rfl, HNX2, BR3⟩
            case measure => simp [intOf]; omega
        · have C1 := begins_any la a2 H C nh l lc c2 hnh HCL w2 hH2 SC (by omega) (by omega)
          rw [hbg] at C1
          have HBB : Hid (Beg zs H s) := HBG.out hz0.out hbg
          clear hbg
          go_wp2_with fail
          refine C1.mono ?_
          rintro e w3 ⟨rfl, B3⟩
          have BR3 : Below w1.heap.size w1 w3 := BR2.trans (B3.mono BR2.size)
          go_wp2_with fail
          try simp only [Exit.inBlock, Exit.then]
          refine bodyPost_ret (results_tmp4 rfl _ _ _) rfl ?_
          exact ⟨.inl ⟨s, HBB.out, by rw [HLE.out]; rfl⟩, B1.trans (BR3.mono B1.size)⟩
    · obtain rfl : s = n := by omega
      have HE : Hid ((∀ t, ¬ Beg zs H t) ∧ (mb = true ↔ May zs H)) := by
        have := HI.out
        rw [← hn.out] at this
        exact this.end_
      clear HI
      cases mb
      · have HM : Hid (¬ May zs H) := fun h => by have := HE.out.2.2 h; cases this
        go_wp2_with fail
        try simp only [Exit.inBlock, Exit.then]
        refine bodyPost_ret (results_tmp4 rfl _ _ _) rfl ?_
        exact ⟨.inr (.inr ⟨HE.out.1, HM.out, rfl⟩), Bw⟩
      · have HM : Hid (May zs H) := HE.out.2.1 rfl
        go_wp2_with fail
        try simp only [Exit.inBlock, Exit.then]
        refine bodyPost_ret (results_tmp4 rfl _ _ _) rfl ?_
        exact ⟨.inr (.inl ⟨HE.out.1, HM.out, rfl⟩), Bw⟩
end Go.Proofs.Ytkjccbihdinlkaa
