import Derived.Test.YtbgnlbgoeogbaaaPar
import Derived.Test.YtbgnlbgoeogbaaaPas
import Derived.Test.YtbgnlbgoeogbaaaPaq
namespace Go.Proofs.Ytbgnlbgoeogbaaa
open Go.RowKit
set_option linter.unusedVariables false

/-! Turn: the landed one, the document's (written by mksut1.py). -/
def TnQ13 (w : World) (z : List Int) (A : List Nat) (n : Nat) (e : Ending) (w' : World) : Prop := ∃ ra rc, e = .returned (.tuple #[.slice ra n rc, .int .i64 ((te13 n A : Nat) : Int), .int .i64 0]) ∧ w'.ownsRow w.heap.size 5 1 (.slice ra n rc) n ((tn13 z (n :: A)).map (Value.int .u8)) ∧ Below w.heap.size w w'
def TnP13 (w : World) (z : List Int) (n : Nat) (e : Ending) (w' : World) : Prop := ∃ A, Ar12 n (S12 z) A ∧ TnQ13 w z A n e w'
theorem nz13_cons (n : Nat) (A : List Nat) : ([Value.int .i64 (n : Int)] ++ (nz12 A).map (Value.int .i64)) = (nz12 (n :: A)).map (Value.int .i64) := rfl
theorem rows13_bd {n : Nat} {S : Nat → Int} {A : List Nat} (h : Ar12 n S A) (hn : n ≤ 16777216) : ∀ y ∈ nz12 (n :: A), -9223372036854775808 ≤ y ∧ y ≤ 9223372036854775807 := by
  intro y hy
  unfold nz12 at hy
  rw [List.mem_map] at hy
  obtain ⟨q, hq, rfl⟩ := hy
  rw [List.mem_cons] at hq
  rcases hq with rfl | hq
  · omega
  · have := h.lt q hq
    omega
theorem rows13_get {n : Nat} {S : Nat → Int} {A : List Nat} (h : Ar12 n S A) {q : Nat} (hq : q ≤ n) : (nz12 (n :: A)).getD q 0 = (((n :: A).getD q 0 : Nat) : Int) := nz12_get13 (by simp [h.len]; omega)
set_option maxRecDepth 100000 in
set_option maxHeartbeats 4000000 in
theorem pturn13 (a : Option Addr) (z : List Int) (n cap : Nat) (w : World) (hs : Seg w a z) (hn : Hid (z.length = n)) (hb : n ≤ 16777216) :
    Calls Try.prog 24 #[.slice a n cap] w (TnP13 w z n) := by
  obtain ⟨i0, hi, hz0, hz1, hz2⟩ := info_parts info_i12
  obtain ⟨i8, h8, z80, z81, z82⟩ := info_parts info_u8'
  have HSO := psort13 a z n cap w hs hn hb
  have HSD : Hid (∀ W, Below w.heap.size w W → Seg W a z) := fun W hb => hs.old hb
  clear hs
  go_enter Try.func24, Try.ntmps24
  go_wp2_with (first
    | (go_at_call 43; refine HSO.mono ?_; rintro e1 w1 ⟨g, A, rfl, R1, q1, hA, B1⟩; clear HSO; obtain ⟨wm, hmk, om, gm⟩ := run_make_own (P := Try.prog) w1 w.heap.size 41 5 i8 (.int .u8 0) 1 Try.underlying41 h8 z80 z81 .i64 .i64 n (by rw [z82]; omega) (by unfold maxLen; omega) B1.size; have Bm : Below w1.heap.size w1 wm := ⟨gm.os, gm.tape, gm.output, gm.size, fun k hk => gm.block k hk (by simp)⟩; have lo := om.lt w1.heap.size rfl; have sA := ((R1.old Bm).seg (nz12_bd13 hA.lt hb)).alloc (.cells #[.int .i64 (n : Int)] 3); have hlit : (wm.alloc (.cells #[.int .i64 (n : Int)] 3)).ownsRow wm.heap.size 3 1 (.slice (some ⟨wm.heap.size, 0, none⟩) 1 1) 1 [.int .i64 (n : Int)] := World.ownsRow_lit wm #[.int .i64 (n : Int)] 1 (Nat.le_refl _) (by decide) rfl; have hnl : (nz12 A).length = n := by rw [nz12_len13, hA.len])
    | (at_builtin; refine wpList_appZ rfl (.tmp 24) (.tmp 25) 22 rfl wm.heap.size 3 i0 (.int .i64 0) 8 Try.underlying22 hi hz0 hz1 hz2 rfl hlit sA (by intro h; cases h) rfl (by rw [hnl]; rfl) (by omega) (by omega) (by simp) ?_; intro a4 c4 w4 o4 g4 f4 n4; rw [show 1 + (nz12 A).length = n + 1 by omega] at o4 ⊢))
  rw [nz13_cons] at o4
  have Bm4 : Below wm.heap.size wm w4 := ((Below.refl wm.heap.size wm).alloc (Nat.le_refl _) _).trans (below_own hlit g4 (by simp))
  have zm := B1.size
  have D4 : Below w.heap.size w w4 := (B1.trans (Bm.mono B1.size)).trans (Bm4.mono (by omega))
  have oO : w4.ownsRow w.heap.size 5 1 (.slice (some ⟨w1.heap.size, 0, none⟩) 0 n) 0 (([] : List Int).map (Value.int .u8)) := own_below om Bm4
  obtain ⟨go, hgo⟩ : ∃ go, w1.heap.size = go := ⟨_, rfl⟩
  rw [hgo] at oO lo zm
  have hO : Hid (∀ k, (Value.slice (some ⟨go, 0, none⟩) 0 n).ownBlock = some k → k = go ∨ w4.heap.size ≤ k) := fun k hk => Or.inl (by simpa [Value.ownBlock] using hk.symm)
  clear om gm Bm Bm4 hlit sA R1 q1 B1 g4 f4 n4 hmk hnl
  rw [hgo]
  clear hgo
  obtain ⟨gr, cp4, hv4, -, lr1, lr2⟩ := own_shape o4 (by omega)
  simp only [Value.slice.injEq] at hv4
  obtain ⟨rfl, -, rfl⟩ := hv4
  have sR4 : SegZ w4 (some ⟨gr, 0, none⟩) (nz12 (n :: A)) := own_segZ o4 (rows13_bd hA hb)
  have HK : Hid (∀ W, Kp (fun k => k = go) w4 W → SegZ W (some ⟨gr, 0, none⟩) (nz12 (n :: A)) ∧ Below w.heap.size w W) := fun W K => ⟨sR4.kp K (fun x off e _ hS => by cases e; omega), D4.trans (K.below (fun i e => by omega) D4.size)⟩
  have HRG : Hid (∀ q, q ≤ n → (nz12 (n :: A)).getD q 0 = (((n :: A).getD q 0 : Nat) : Int) ∧ (n :: A).getD q 0 ≤ n) := fun q hq => ⟨rows13_get hA hq, row13_le hA hq⟩
  have HIF : Hid (∀ q, q ≤ n → ((n :: A).getD q 0 = 0 ↔ q = te13 n A)) := fun q hq => te13_iff hA hq
  have HTK : Hid (∀ q, q ≤ n → tn13 z ((n :: A).take (q + 1)) = tn13 z ((n :: A).take q) ++ (if (n :: A).getD q 0 = 0 then [] else [z.getD ((n :: A).getD q 0 - 1) 0])) := fun q hq => tn13_take z _ q (by simp [hA.len]; omega)
  have HTA : Hid (tn13 z ((n :: A).take (n + 1)) = tn13 z (n :: A)) := by show _ = _; rw [List.take_of_length_le (by simp [hA.len])]
  have HTE : Hid (te13 n A ≤ n) := te13_le hA
  have HD4 : Hid (w.heap.size ≤ w4.heap.size) := D4.size
  have HLN : Hid ((nz12 (n :: A)).length = n + 1) := by show _ = _; rw [nz12_len13]; simp [hA.len]
  have HT0 : Hid (tn13 z ((n :: A).take 0) = []) := rfl
  have HE0 : Hid (en13 (te13 n A) 0 = 0) := en13_zero _
  have HL0 : Hid (la13 (te13 n A) 0 = 0) := by show _ = _; unfold la13; split <;> omega
  have HA : Hid (Ar12 n (S12 z) A) := hA
  clear o4 sR4 D4 hA
  generalize hE : te13 n A = E at *
  have HE : Hid (te13 n A = E) := hE
  clear hE
  go_loopw [7, 8, 28] (fun te to_ ti wr => ∃ (i m c : Nat) (r : Option Addr) (L : List Int), i ≤ n + 1 ∧ te = .int .i64 ((en13 E i : Nat) : Int) ∧ to_ = .slice r m c ∧ ti = .int .i64 i ∧ Hid (L = tn13 z ((n :: A).take i)) ∧ Hid (m = la13 E i) ∧ m ≤ i ∧ L.length = m ∧ wr.ownsRow w.heap.size 5 1 (.slice r m c) m (L.map (Value.int .u8)) ∧ Kp (fun k => k = go) w4 wr ∧ Hid (∀ k, (Value.slice r m c).ownBlock = some k → k = go ∨ w4.heap.size ≤ k)) (fun _ _ ti _ => n + 1 - (intOf ti).toNat)
  case atStart => exact ⟨0, 0, n, some ⟨go, 0, none⟩, [], Nat.zero_le _, by rw [HE0.out]; rfl, rfl, rfl, HT0.out.symm, HL0.out.symm, Nat.le_refl _, rfl, oO, Kp.refl _ _, hO.out⟩
  case round =>
    obtain ⟨i, m, c, r, L, hi1, rfl, rfl, rfl, HL, HM, hmi, hLm, oL, KL, HO⟩ := hrel
    obtain ⟨sR, DW⟩ := HK.out wr KL
    have zw := KL.size
    have z4 := HD4.out
    by_cases h1 : i < n + 1
    · have h1i : (i : Int) < (n : Int) + 1 := by omega
      have c1 : wr.cell? ⟨gr, i, none⟩ = some (.int .i64 (((n :: A).getD i 0 : Nat) : Int)) := by
        obtain ⟨b', o', q1, q2⟩ := sR.at_ i (by rw [HLN.out]; omega)
        cases q1
        rw [Nat.zero_add, (HRG.out i (by omega)).1] at q2
        exact q2
      have HTI : Hid (tn13 z ((n :: A).take (i + 1)) = L ++ (if (n :: A).getD i 0 = 0 then [] else [z.getD ((n :: A).getD i 0 - 1) 0])) := by show _ = _; rw [HL.out]; exact HTK.out i (by omega)
      have HIE := HIF.out i (by omega)
      have hal := (HRG.out i (by omega)).2
      clear sR
      generalize (n :: A).getD i 0 = at0 at c1 HTI HIE hal
      by_cases h2 : at0 = 0
      · subst h2
        have HQE : Hid (i = E) := HIE.1 rfl
        have c1 : wr.cell? ⟨gr, i, none⟩ = some (.int .i64 0) := c1
        have HN1 : Hid (L = tn13 z ((n :: A).take (i + 1))) := by show _ = _; rw [HTI.out, if_pos rfl, List.append_nil]
        have HN2 : Hid (m = la13 E (i + 1)) := by show _ = _; rw [HM.out, HQE.out, la13_hit]
        have HN3 : Hid (en13 E (i + 1) = i) := by show _ = _; rw [HQE.out, en13_hit]
        clear HIE HTI
        go_wp2_with fail
        go_roundw
        case rel => exact ⟨i + 1, m, c, r, L, by omega, by rw [HN3.out], rfl, by go_num, HN1, HN2, by omega, hLm, oL, KL, HO⟩
        case measure => simp [intOf]; omega
      · have hie : i ≠ E := fun e => h2 (HIE.2 e)
        obtain ⟨a1, ha1⟩ : ∃ a1, a1 = at0 - 1 := ⟨_, rfl⟩
        have er : (at0 : Int) - 1 = (a1 : Int) := by omega
        have ha2 : a1 < n := by omega
        have ha3 : (a1 : Int) < (n : Int) := by omega
        have h2i : ¬ (at0 : Int) = 0 := by omega
        have h2b : ((at0 : Int) == 0) = false := beq_eq_false_iff_ne.2 h2i
        obtain ⟨db, dof, rfl, c2⟩ := (HSD.out wr DW).at_ a1 (by rw [hn.out]; exact ha2)
        have yb := (HSD.out wr DW).bd a1
        have HN1 : Hid (L ++ [z.getD a1 0] = tn13 z ((n :: A).take (i + 1))) := by show _ = _; rw [HTI.out, if_neg h2, ha1]
        have HN2 : Hid (m + 1 = la13 E (i + 1)) := by show _ = _; rw [HM.out, la13_not hie]
        have HN3 : Hid (en13 E (i + 1) = en13 E i) := en13_not hie
        clear HIE HTI ha1
        generalize z.getD a1 0 = y at *
        go_wp2_with (first
          | (at_builtin; refine wpList_app1 rfl (.tmp 36) (.tmp 42) 41 rfl w.heap.size 5 i8 (.int .u8 0) 1 Try.underlying41 h8 z80 z81 z82 rfl wr (.int .u8 y) rfl oL rfl rfl (by omega) (by omega) (by omega) ?_; intro g7 c7 w7 o7 g77 f7))
        have K7 := KL.trans (Kp.grown (S := fun k => (Value.slice r m c).ownBlock = some k) g77 (fun _ e => e)) (fun k hk e => by rcases HO.out k e with h | h <;> omega)
        have HO7 : Hid (∀ k, (Value.slice (some ⟨g7, 0, none⟩) (m + 1) c7).ownBlock = some k → k = go ∨ w4.heap.size ≤ k) := fun k hk => by
          rcases f7 k hk with h | h
          · exact HO.out k h
          · right; omega
        have o7' : w7.ownsRow w.heap.size 5 1 (.slice (some ⟨g7, 0, none⟩) (m + 1) c7) (m + 1) ((L ++ [y]).map (Value.int .u8)) := by rw [List.map_append]; exact o7
        clear o7 oL g77 f7
        go_roundw
        case rel => exact ⟨i + 1, m + 1, c7, some ⟨g7, 0, none⟩, L ++ [y], by omega, by rw [HN3.out], rfl, by go_num, HN1, HN2, by omega, by simp [hLm], o7', K7, HO7⟩
        case measure => simp [intOf]; omega
    · have h1i : ¬ (i : Int) < (n : Int) + 1 := by omega
      obtain rfl : i = n + 1 := by omega
      have hmn : m = n := by rw [HM.out]; exact la13_all HTE.out
      subst hmn
      have HEE : Hid (en13 E (m + 1) = E) := en13_all HTE.out
      have HLL : Hid (L = tn13 z (m :: A)) := HL.out.trans HTA.out
      rw [HEE.out]
      go_wp2_with fail
      go_ret3
      refine ⟨A, HA.out, r, c, ?_⟩
      rw [HE.out, ← HLL.out]
      exact ⟨rfl, oL, DW⟩
set_option maxRecDepth 100000 in
set_option maxHeartbeats 4000000 in
theorem rturn13 (a : Option Addr) (z : List Int) (n cap : Nat) (A : List Nat) (w : World) (hs : Seg w a z) (hc : n ≤ cap) (hn : Hid (z.length = n)) (hA : Ar12 n (S12 z) A) (hb : n ≤ 16777216) :
    Calls Try.prog 25 #[.slice a n cap] w (TnQ13 w z A n) := by
  obtain ⟨i0, hi, hz0, hz1, hz2⟩ := info_parts info_i12
  obtain ⟨i8, h8, z80, z81, z82⟩ := info_parts info_u8'
  have hbi : ¬ (16777216 : Int) < (n : Int) := by omega
  have B1 : Below w.heap.size w (w.alloc (.cells #[.int .i64 (n : Int)] 3)) := (Below.refl _ _).alloc (Nat.le_refl _) _
  have hlit : (w.alloc (.cells #[.int .i64 (n : Int)] 3)).ownsRow w.heap.size 3 1 (.slice (some ⟨w.heap.size, 0, none⟩) 1 1) 1 [.int .i64 (n : Int)] := World.ownsRow_lit w #[.int .i64 (n : Int)] 1 (Nat.le_refl _) (by decide) rfl
  have HAR := rarr13 a z n cap A _ (hs.old B1) hc hn hA hb
  obtain ⟨ga, hga⟩ : ∃ ga, (w.alloc (.cells #[.int .i64 (n : Int)] 3)).heap.size = ga := ⟨_, rfl⟩
  rw [hga] at HAR
  have HGA : Hid (ga = (w.alloc (.cells #[.int .i64 (n : Int)] 3)).heap.size) := hga.symm
  clear hga
  have hnl : (nz12 A).length = n := by rw [nz12_len13, hA.len]
  have HSD : Hid (∀ W, Below w.heap.size w W → Seg W a z) := fun W hb => hs.old hb
  clear hs
  go_enter Try.func25, Try.ntmps25
  go_wp2_with (first
    | (go_at_call 44; refine HAR.mono ?_; rintro e1 w1 ⟨rfl, R1, B2⟩; clear HAR; rw [HGA.out] at B2; have sA := R1.seg (nz12_bd13 hA.lt hb); have hl1 := own_below hlit B2)
    | (at_builtin; refine wpList_appZ rfl (.tmp 15) (.tmp 17) 22 rfl w.heap.size 3 i0 (.int .i64 0) 8 Try.underlying22 hi hz0 hz1 hz2 rfl hl1 sA (by intro h; cases h) rfl (by rw [hnl]; rfl) (by omega) (by omega) (by have := B1.size; have := B2.size; omega) ?_; intro a4 c4 w4 o4 g4 f4 n4; rw [show 1 + (nz12 A).length = n + 1 by omega] at o4 ⊢))
  rw [nz13_cons] at o4
  have D1 : Below w.heap.size w w1 := B1.trans (B2.mono B1.size)
  have D4 : Below w.heap.size w w4 := D1.trans (below_own hl1 g4 D1.size)
  have oO : w4.ownsRow w.heap.size 5 1 (.slice none 0 0) 0 (([] : List Int).map (Value.int .u8)) := World.ownsRow_nil _ _ _ _
  obtain ⟨go, hgo⟩ : ∃ go, w4.heap.size = go := ⟨_, rfl⟩
  have hO : Hid (∀ k, (Value.slice none 0 0).ownBlock = some k → k = go ∨ w4.heap.size ≤ k) := fun k hk => by cases hk
  have lo : w.heap.size ≤ go := by rw [← hgo]; exact D4.size
  clear hlit sA R1 B1 B2 D1 g4 f4 n4 hnl hl1
  obtain ⟨gr, cp4, hv4, -, lr1, lr2⟩ := own_shape o4 (by omega)
  simp only [Value.slice.injEq] at hv4
  obtain ⟨rfl, -, rfl⟩ := hv4
  have sR4 : SegZ w4 (some ⟨gr, 0, none⟩) (nz12 (n :: A)) := own_segZ o4 (rows13_bd hA hb)
  have HK : Hid (∀ W, Kp (fun k => k = go) w4 W → SegZ W (some ⟨gr, 0, none⟩) (nz12 (n :: A)) ∧ Below w.heap.size w W) := fun W K => ⟨sR4.kp K (fun x off e _ hS => by cases e; omega), D4.trans (K.below (fun i e => by omega) D4.size)⟩
  have HRG : Hid (∀ q, q ≤ n → (nz12 (n :: A)).getD q 0 = (((n :: A).getD q 0 : Nat) : Int) ∧ (n :: A).getD q 0 ≤ n) := fun q hq => ⟨rows13_get hA hq, row13_le hA hq⟩
  have HIF : Hid (∀ q, q ≤ n → ((n :: A).getD q 0 = 0 ↔ q = te13 n A)) := fun q hq => te13_iff hA hq
  have HTK : Hid (∀ q, q ≤ n → tn13 z ((n :: A).take (q + 1)) = tn13 z ((n :: A).take q) ++ (if (n :: A).getD q 0 = 0 then [] else [z.getD ((n :: A).getD q 0 - 1) 0])) := fun q hq => tn13_take z _ q (by simp [hA.len]; omega)
  have HTA : Hid (tn13 z ((n :: A).take (n + 1)) = tn13 z (n :: A)) := by show _ = _; rw [List.take_of_length_le (by simp [hA.len])]
  have HTE : Hid (te13 n A ≤ n) := te13_le hA
  have HD4 : Hid (w.heap.size ≤ w4.heap.size) := D4.size
  have HLN : Hid ((nz12 (n :: A)).length = n + 1) := by show _ = _; rw [nz12_len13]; simp [hA.len]
  have HT0 : Hid (tn13 z ((n :: A).take 0) = []) := rfl
  have HE0 : Hid (en13 (te13 n A) 0 = 0) := en13_zero _
  have HL0 : Hid (la13 (te13 n A) 0 = 0) := by show _ = _; unfold la13; split <;> omega
  clear o4 sR4 D4 hA
  generalize hE : te13 n A = E at *
  have HE : Hid (te13 n A = E) := hE
  clear hE
  go_loopw [6, 7, 21] (fun to_ te ti wr => ∃ (i m c : Nat) (r : Option Addr) (L : List Int), i ≤ n + 1 ∧ te = .int .i64 ((en13 E i : Nat) : Int) ∧ to_ = .slice r m c ∧ ti = .int .i64 i ∧ Hid (L = tn13 z ((n :: A).take i)) ∧ Hid (m = la13 E i) ∧ m ≤ i ∧ L.length = m ∧ wr.ownsRow w.heap.size 5 1 (.slice r m c) m (L.map (Value.int .u8)) ∧ Kp (fun k => k = go) w4 wr ∧ Hid (∀ k, (Value.slice r m c).ownBlock = some k → k = go ∨ w4.heap.size ≤ k)) (fun _ _ ti _ => n + 1 - (intOf ti).toNat)
  case atStart => exact ⟨0, 0, 0, none, [], Nat.zero_le _, by rw [HE0.out]; rfl, rfl, rfl, HT0.out.symm, HL0.out.symm, Nat.le_refl _, rfl, oO, Kp.refl _ _, hO.out⟩
  case round =>
    obtain ⟨i, m, c, r, L, hi1, rfl, rfl, rfl, HL, HM, hmi, hLm, oL, KL, HO⟩ := hrel
    obtain ⟨sR, DW⟩ := HK.out wr KL
    have zw := KL.size
    have z4 := HD4.out
    by_cases h1 : i < n + 1
    · have h1i : (i : Int) < (n : Int) + 1 := by omega
      have c1 : wr.cell? ⟨gr, i, none⟩ = some (.int .i64 (((n :: A).getD i 0 : Nat) : Int)) := by
        obtain ⟨b', o', q1, q2⟩ := sR.at_ i (by rw [HLN.out]; omega)
        cases q1
        rw [Nat.zero_add, (HRG.out i (by omega)).1] at q2
        exact q2
      have HTI : Hid (tn13 z ((n :: A).take (i + 1)) = L ++ (if (n :: A).getD i 0 = 0 then [] else [z.getD ((n :: A).getD i 0 - 1) 0])) := by show _ = _; rw [HL.out]; exact HTK.out i (by omega)
      have HIE := HIF.out i (by omega)
      have hal := (HRG.out i (by omega)).2
      clear sR
      generalize (n :: A).getD i 0 = at0 at c1 HTI HIE hal
      by_cases h2 : at0 = 0
      · subst h2
        have HQE : Hid (i = E) := HIE.1 rfl
        have c1 : wr.cell? ⟨gr, i, none⟩ = some (.int .i64 0) := c1
        have HN1 : Hid (L = tn13 z ((n :: A).take (i + 1))) := by show _ = _; rw [HTI.out, if_pos rfl, List.append_nil]
        have HN2 : Hid (m = la13 E (i + 1)) := by show _ = _; rw [HM.out, HQE.out, la13_hit]
        have HN3 : Hid (en13 E (i + 1) = i) := by show _ = _; rw [HQE.out, en13_hit]
        clear HIE HTI
        go_wp2_with fail
        go_roundw
        case rel => exact ⟨i + 1, m, c, r, L, by omega, by rw [HN3.out], rfl, by go_num, HN1, HN2, by omega, hLm, oL, KL, HO⟩
        case measure => simp [intOf]; omega
      · have hie : i ≠ E := fun e => h2 (HIE.2 e)
        obtain ⟨a1, ha1⟩ : ∃ a1, a1 = at0 - 1 := ⟨_, rfl⟩
        have er : (at0 : Int) - 1 = (a1 : Int) := by omega
        have ha2 : a1 < n := by omega
        have ha3 : (a1 : Int) < (n : Int) := by omega
        have h2i : ¬ (at0 : Int) = 0 := by omega
        have h2b : ((at0 : Int) == 0) = false := beq_eq_false_iff_ne.2 h2i
        obtain ⟨db, dof, rfl, c2⟩ := (HSD.out wr DW).at_ a1 (by rw [hn.out]; exact ha2)
        have yb := (HSD.out wr DW).bd a1
        have HN1 : Hid (L ++ [z.getD a1 0] = tn13 z ((n :: A).take (i + 1))) := by show _ = _; rw [HTI.out, if_neg h2, ha1]
        have HN2 : Hid (m + 1 = la13 E (i + 1)) := by show _ = _; rw [HM.out, la13_not hie]
        have HN3 : Hid (en13 E (i + 1) = en13 E i) := en13_not hie
        clear HIE HTI ha1
        generalize z.getD a1 0 = y at *
        go_wp2_with (first
          | (at_builtin; refine wpList_app1 rfl (.tmp 29) (.tmp 35) 41 rfl w.heap.size 5 i8 (.int .u8 0) 1 Try.underlying41 h8 z80 z81 z82 rfl wr (.int .u8 y) rfl oL rfl rfl (by omega) (by omega) (by omega) ?_; intro g7 c7 w7 o7 g77 f7))
        have K7 := KL.trans (Kp.grown (S := fun k => (Value.slice r m c).ownBlock = some k) g77 (fun _ e => e)) (fun k hk e => by rcases HO.out k e with h | h <;> omega)
        have HO7 : Hid (∀ k, (Value.slice (some ⟨g7, 0, none⟩) (m + 1) c7).ownBlock = some k → k = go ∨ w4.heap.size ≤ k) := fun k hk => by
          rcases f7 k hk with h | h
          · exact HO.out k h
          · right; omega
        have o7' : w7.ownsRow w.heap.size 5 1 (.slice (some ⟨g7, 0, none⟩) (m + 1) c7) (m + 1) ((L ++ [y]).map (Value.int .u8)) := by rw [List.map_append]; exact o7
        clear o7 oL g77 f7
        go_roundw
        case rel => exact ⟨i + 1, m + 1, c7, some ⟨g7, 0, none⟩, L ++ [y], by omega, by rw [HN3.out], rfl, by go_num, HN1, HN2, by omega, by simp [hLm], o7', K7, HO7⟩
        case measure => simp [intOf]; omega
    · have h1i : ¬ (i : Int) < (n : Int) + 1 := by omega
      obtain rfl : i = n + 1 := by omega
      have hmn : m = n := by rw [HM.out]; exact la13_all HTE.out
      subst hmn
      have HEE : Hid (en13 E (m + 1) = E) := en13_all HTE.out
      have HLL : Hid (L = tn13 z (m :: A)) := HL.out.trans HTA.out
      rw [HEE.out]
      go_wp2_with fail
      go_ret3
      refine ⟨r, c, ?_⟩
      rw [HE.out, ← HLL.out]
      exact ⟨rfl, oL, DW⟩
end Go.Proofs.Ytbgnlbgoeogbaaa

namespace Go.Proofs.Ytbgnlbgoeogbaaa
open Go.RowKit
set_option linter.unusedVariables false

/-! The document's Types and Lms. -/
set_option maxRecDepth 100000 in
set_option maxHeartbeats 1000000 in
theorem rtyp12 (a : Option Addr) (s : List Int) (n cap : Nat) (w : World) (hs : SegZ w a s) (hn : Hid (s.length = n)) (hb : n ≤ 140737488355328) :
    Calls Try.prog 36 #[.slice a n cap] w fun e w' => e = .returned (.slice (some ⟨w.heap.size, 0, none⟩) n n) ∧ Rb12 w' w.heap.size (typ12 s) ∧ Below w.heap.size w w' := by
  have HM := run_make_b12 n hb
  have HA : Hid (typ12 s = tl12 s (n - 1)) := (tl12_all s (n - 1) (by rw [hn.out]; omega)).symm
  have HZ : Hid (List.replicate n false = tl12 s 0) := by show _ = _; rw [tl12_zero, hn.out]
  have hal : Below w.heap.size w (w.alloc (.cells (vb12 (List.replicate n false)) 4)) := (Below.refl _ _).alloc (Nat.le_refl _) _
  have hr0 := Rb12.new w (List.replicate n false)
  rw [HZ.out] at hal hr0 HM
  generalize hg : w.heap.size = g at *
  generalize hw1 : w.alloc (.cells (vb12 (tl12 s 0)) 4) = w1 at *
  have HM1 : (Instr.makeSlice 45 (.int .i64 (n : Int)) (.int .i64 (n : Int))).run Try.prog w = .ok (.slice (some ⟨g, 0, none⟩) n n) w1 := by rw [HM w, hg, hw1]
  have HG : Hid (g ≤ w1.heap.size ∧ w.heap.size = g) := ⟨by have := hal.size; omega, hg⟩
  clear HM hw1 hg
  go_enter Try.func36, Try.ntmps36
  go_wp2
  go_loopw [4] (fun ti wr => ∃ k : Nat, (k = 0 ∨ k + 1 ≤ n) ∧ ti = .int .i64 ((n : Int) - 2 - (k : Int)) ∧ Rb12 wr g (tl12 s k) ∧ Below g w wr) (fun ti _ => (intOf ti + 1).toNat)
  case atStart => exact ⟨0, Or.inl rfl, by go_num, hr0, hal⟩
  case round =>
    obtain ⟨k, hk, rfl, hr, hb2⟩ := hrel
    by_cases h1 : k + 1 < n
    · have h1i : (0 : Int) ≤ (n : Int) - 2 - (k : Int) := by omega
      obtain ⟨i, hi⟩ : ∃ i, n = i + 2 + k := ⟨n - 2 - k, by omega⟩
      have hsg : SegZ wr a s := hs.old (by rw [HG.out.2]; exact hb2)
      obtain ⟨b, off, rfl, c1⟩ := hsg.at_ i (by rw [hn.out]; omega)
      have c2 : wr.cell? ⟨b, off + (i + 1), none⟩ = some (.int .i64 (s.getD (i + 1) 0)) := by
        obtain ⟨b', off', ha, c⟩ := hsg.at_ (i + 1) (by rw [hn.out]; omega)
        cases ha
        exact c
      have bd1 := hsg.bd i
      have bd2 := hsg.bd (i + 1)
      have c3 : wr.cell? ⟨g, i + 1, none⟩ = some (.bool (sm12 s (i + 1))) := by
        rw [hr.cell (by rw [tl12_len, hn.out]; omega), tl12_get s k (i + 1) (by rw [hn.out]; omega)]
        have : s.length ≤ i + 1 + 1 + k := by rw [hn.out]; omega
        simp [this]
      have c4 : wr.cell? ⟨g, i, none⟩ = some (.bool ((tl12 s k).getD i false)) := hr.cell (by rw [tl12_len, hn.out]; omega)
      have f4 := hr.free i
      have HR : Hid (sm12 s i = (decide (s.getD i 0 < s.getD (i + 1) 0) || (decide (s.getD i 0 = s.getD (i + 1) 0) && sm12 s (i + 1)))) := (ty12 s).rc i (by rw [hn.out]; omega)
      have HS : Hid (∀ x, x = sm12 s i → Rb12 (wr.setCell ⟨g, i, none⟩ (.bool x)) g (tl12 s (k + 1))) := by
        intro x hx
        have := hr.set i x
        rw [hx, tl12_set s k i (by rw [hn.out]; omega)] at this
        rw [hx]; exact this
      have HB : Hid (∀ x, Below g w (wr.setCell ⟨g, i, none⟩ x)) := by
        intro x
        exact hb2.trans ((Kp.set (S := fun j => j = g) rfl x).below (fun j h => by omega) (by have := hb2.size; have := HG.out; omega))
      have ei : (n : Int) - 2 - (k : Int) = (i : Int) := by omega
      have in1 : (i : Int) < (n : Int) := by omega
      have in2 : (i : Int) + 1 < (n : Int) := by omega
      have kn : (k : Int) < 140737488355328 := by omega
      generalize s.getD i 0 = x at *
      generalize s.getD (i + 1) 0 = y at *
      generalize sm12 s (i + 1) = z at *
      generalize (tl12 s k).getD i false = u at *
      clear hi hk hr hsg
      rcases Int.lt_trichotomy x y with hx | hx | hx
      · go_wp2
        go_region
        go_wp2
        go_roundw
        case rel => exact ⟨k + 1, Or.inr (by omega), by go_num, (HS.out _ (by rw [HR.out]; simp [hx])).drew, (HB.out _).drew⟩
        case measure => simp [intOf]; omega
      · subst hx
        go_wp2
        go_region
        go_wp2
        go_roundw
        case rel => exact ⟨k + 1, Or.inr (by omega), by go_num, (HS.out _ (by rw [HR.out]; simp)).drew, (HB.out _).drew⟩
        case measure => simp [intOf]; omega
      · have hx1 : ¬ x < y := by omega
        have hx2 : ¬ x = y := by omega
        have hx3 : (x == y) = false := by simp [hx2]
        have hx4 : decide (x = y) = false := by simp [hx2]
        have hx5 : decide (x < y) = false := by simp [hx1]
        clear hx
        go_wp2
        go_region
        go_wp2
        go_roundw
        case rel => exact ⟨k + 1, Or.inr (by omega), by go_num, (HS.out _ (by rw [HR.out]; simp [hx1, hx2])).drew, (HB.out _).drew⟩
        case measure => simp [intOf]; omega
    · have h1i : ¬ (0 : Int) ≤ (n : Int) - 2 - (k : Int) := by omega
      go_wp2
      go_ret
      refine ⟨rfl, ?_, hb2⟩
      rw [HA.out]
      rcases hk with rfl | hk
      · rw [show n - 1 = 0 by omega]; exact hr
      · rw [show n - 1 = k by omega]; exact hr
theorem tb12_pos (f : Nat → Bool) (k : Nat) (h : 0 < k) : tb12 f k = (f k && !f (k - 1)) := by unfold tb12; simp [h]
set_option maxRecDepth 100000 in
set_option maxHeartbeats 1000000 in
theorem rlms12 (a : Option Addr) (s : List Int) (n cap : Nat) (w : World) (hs : SegZ w a s) (hn : Hid (s.length = n)) (hb : n ≤ 17592186044416) :
    Calls Try.prog 50 #[.slice a n cap] w (AnsZ12 w (nz12 (tns12 s))) := by
  obtain ⟨i0, hi, hz0, hz1, hz2⟩ := info_parts info_i12
  have HC := rtyp12 a s n cap w hs hn (by omega)
  have HE : Hid (tu12 (sm12 s) n = tns12 s) := by show _ = _; rw [← hn.out]; rfl
  have H1 : Hid (tu12 (sm12 s) 1 = []) := by show _ = _; rw [tu12_succ]; simp [tb12, tu12]
  rw [← HE.out]
  generalize hg : w.heap.size = g at *
  have HG : Hid (w.heap.size = g) := hg
  clear hg
  go_enter Try.func50, Try.ntmps50
  go_wp2_with (first
    | (go_at_call 36; refine HC.mono ?_; rintro e1 w1 ⟨rfl, R1, B1⟩))
  go_loopw [4, 5] (fun to ti wr => ∃ (k m rc : Nat) (ra : Option Addr), 1 ≤ k ∧ (k = 1 ∨ k ≤ n) ∧ ti = .int .i64 k ∧ to = .slice ra m rc ∧ Hid ((tu12 (sm12 s) k).length = m) ∧ wr.ownsRow w1.heap.size 3 1 (.slice ra m rc) m ((nz12 (tu12 (sm12 s) k)).map (Value.int .i64)) ∧ Below w1.heap.size w1 wr) (fun _ ti _ => n - (intOf ti).toNat)
  case atStart => exact ⟨1, 0, 0, none, by omega, Or.inl rfl, rfl, rfl, (by rw [H1.out]; rfl : _ = _), by rw [H1.out]; exact World.ownsRow_nil _ _ _ _, Below.refl _ _⟩
  case round =>
    obtain ⟨k, m, rc, ra, hk0, hk, rfl, rfl, HM, hown, hb2⟩ := hrel
    have hsz : w1.heap.size ≤ wr.heap.size := hb2.size
    have hmk : m ≤ k := by rw [← HM.out]; exact tu12_le _ _
    by_cases h1 : k < n
    · have h1i : (k : Int) < (n : Int) := by omega
      have hR := R1.old hb2
      have c1 := hR.cell (i := k) (by rw [typ12_len, hn.out]; exact h1)
      have c2 := hR.cell (i := k - 1) (by rw [typ12_len, hn.out]; omega)
      rw [typ12_get] at c1 c2
      have er : (k : Int) - 1 = ((k - 1 : Nat) : Int) := by omega
      have ir : ((k - 1 : Nat) : Int) < (n : Int) := by omega
      have HS : Hid (tu12 (sm12 s) (k + 1) = if (sm12 s k && !sm12 s (k - 1)) = true then tu12 (sm12 s) k ++ [k] else tu12 (sm12 s) k) := by show _ = _; rw [tu12_succ, tb12_pos _ k (by omega)]
      clear hR
      generalize sm12 s k = x at *
      generalize sm12 s (k - 1) = y at *
      generalize tu12 (sm12 s) k = T at *
      generalize k - 1 = k1 at *
      cases x
      · go_wp2_with fail
        go_roundw
        case rel => exact ⟨k + 1, m, rc, ra, by omega, Or.inr (by omega), by go_num, rfl, (by rw [HS.out]; exact HM.out : _ = _), by rw [HS.out]; exact hown, hb2⟩
        case measure => simp [intOf]; omega
      · cases y
        · go_wp2_with (first
            | (at_builtin; refine wpList_ap12 rfl (.tmp 26) (.tmp 28) 22 rfl w1.heap.size 3 i0 (.int .i64 0) 8 Try.underlying22 hi hz0 hz1 hz2 rfl wr _ hown rfl rfl (by omega) (by omega) hsz ?_; intro ga gc w3 own3 hk3 hat3))
          have B3 : Below w1.heap.size w1 w3 := hb2.trans (hk3.below (fun q e => (hown.lt q e).1) hsz)
          go_roundw
          case rel => exact ⟨k + 1, m + 1, gc, some ⟨ga, 0, none⟩, by omega, Or.inr (by omega), by go_num, rfl, (by rw [HS.out]; simp [HM.out] : _ = _), by rw [HS.out]; simpa [nz12] using own3, B3⟩
          case measure => simp [intOf]; omega
        · go_wp2_with fail
          go_roundw
          case rel => exact ⟨k + 1, m, rc, ra, by omega, Or.inr (by omega), by go_num, rfl, (by rw [HS.out]; exact HM.out : _ = _), by rw [HS.out]; exact hown, hb2⟩
          case measure => simp [intOf]; omega
    · have h1i : ¬ (k : Int) < (n : Int) := by omega
      have HT : Hid (tu12 (sm12 s) k = tu12 (sm12 s) n) := by
        show _ = _
        rcases hk with rfl | hk
        · by_cases hn0 : n = 0
          · subst hn0; rw [H1.out]; simp [tu12]
          · rw [show n = 1 by omega]
        · rw [show k = n by omega]
      rw [HT.out] at HM hown
      go_wp2_with fail
      go_ret
      refine ⟨ra, rc, ?_, ?_, ?_⟩
      · (try rw [nz12_len]); rw [HM.out]; rfl
      · (try rw [nz12_len]); rw [HM.out]; exact own_base hown (by have := B1.size; have := HG.out; omega)
      · rw [HG.out]; exact B1.trans (hb2.mono (by have := B1.size; have := HG.out; omega))
end Go.Proofs.Ytbgnlbgoeogbaaa
