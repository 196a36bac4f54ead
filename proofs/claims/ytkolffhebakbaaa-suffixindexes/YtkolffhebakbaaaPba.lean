import Derived.Test.YtkolffhebakbaaaPax
import Derived.Test.YtkolffhebakbaaaPaz
import Derived.Test.YtkolffhebakbaaaProg
import Derived.Test.YtkolffhebakbaaaPaa
import Derived.Test.YtkolffhebakbaaaPau
import Derived.WalkKit
import Derived.WalkSpells
import Derived.WalkLawsBesides
import Derived.Deep.QuietTactic
import Derived.BigQuiet
namespace Go.Proofs.Ytkolffhebakbaaa
open Go.RowKit
set_option linter.unusedVariables false

/-! The law's own: what an index gives is the caller's. -/
theorem lp13_bdI {z : List Int} {A : List Nat} {n : Nat} (hz : z.length = n) (hA : Ar12 n (S12 z) A) (hn : n ≤ 16777216) : ∀ y ∈ lp13 z A, -9223372036854775808 ≤ y ∧ y ≤ 9223372036854775807 := by
  subst hz
  intro y hy
  unfold lp13 at hy
  rw [List.mem_map] at hy
  obtain ⟨r, hr, rfl⟩ := hy
  rw [List.mem_range] at hr
  have := (lv13_le hA hr).1
  omega
theorem seg_three13 (w : World) : SegZ (w.alloc (.cells #[.int .i64 1, .int .i64 2, .int .i64 3] 3)) (some ⟨w.heap.size, 0, none⟩) [1, 2, 3] :=
  (Rz12.new w [1, 2, 3]).seg (lit12_bd (by kernel_rfl))
set_option maxRecDepth 100000 in
set_option maxHeartbeats 8000000 in
theorem pownI13 (b : Nat) (da : Option Addr) (dc : Nat) (aa : Option Addr) (ac gb gr n : Nat) (z : List Int) (A : List Nat) (w : World) (h : Ix13 w b da dc aa ac gb gr n z A) :
    Calls Try.prog 18 #[.pointer (some ⟨b, 0, none⟩)] w fun e w' => e = .returned (.bool true) ∧ Below w.heap.size w w' := by
  obtain ⟨i0, hi, hz0, hz1, hz2⟩ := info_parts info_i12
  have hn24 := h.n24
  have HZL : Hid (z.length = n) := h.len
  have HP1 : Hid (∀ W, Below w.heap.size w W → Calls Try.prog 15 #[.pointer (some ⟨b, 0, none⟩)] W (AnI13 W n (nz12 A))) := fun W hb => parr13 b da dc aa ac gb gr n z A W (h.old hb)
  have HP2 : Hid (∀ W, Below w.heap.size w W → Calls Try.prog 16 #[.pointer (some ⟨b, 0, none⟩)] W (LvQ13 W z A n)) := fun W hb => plcp13 b da dc aa ac gb gr n z A W (h.old hb)
  have HP3 : Hid (∀ W, Below w.heap.size w W → Calls Try.prog 13 #[.pointer (some ⟨b, 0, none⟩)] W (AnB13 W n z)) := fun W hb => pdat13 b da dc aa ac gb gr n z A W (h.old hb)
  have HS3 : Hid (∀ W pa pb L pc qc, SegZ W pa L → SegZ W pb L → L.length = n → Calls Try.prog 14 #[.slice pa n pc, .slice pb n qc] W fun e w' => e = .returned (.bool true) ∧ Below W.heap.size W w') := fun W pa pb L pc qc s1 s2 hL => by
    refine (same13 pa pb L L n n pc qc W s1 s2 hL hL (by omega) (by omega)).mono ?_
    rintro e w' ⟨rfl, hB⟩
    exact ⟨by simp, hB⟩
  have HLB : Hid (∀ y ∈ lp13 z A, -9223372036854775808 ≤ y ∧ y ≤ 9223372036854775807) := lp13_bdI h.len h.ar hn24
  have HLL : Hid ((lp13 z A).length = n) := by show _ = _; rw [lp13_len, h.len]
  have HNB : Hid (∀ y ∈ nz12 A, -9223372036854775808 ≤ y ∧ y ≤ 9223372036854775807) := nz12_bd13 h.ar.lt hn24
  have HNL : Hid ((nz12 A).length = n) := by show _ = _; rw [nz12_len13, h.ar.len]
  clear h
  go_enter Try.func18, Try.ntmps18
  go_wp2_with (first
    | (go_at_call 15; refine (HP1.out w (Below.refl _ _)).mono ?_; rintro e1 w1 ⟨ra, rc, rfl, hna, oa, B1⟩)
    | (go_at_call 15; refine (HP1.out w1 B1).mono ?_; rintro e2 w2 ⟨ba, bc, rfl, hnb, ob, B2⟩; have D2 := B1.trans (B2.mono B1.size))
    | (go_at_call 16; refine (HP2.out w2 D2).mono ?_; rintro e3 w3 ⟨g3, rfl, R3, q3, B3⟩; have D3 := D2.trans (B3.mono D2.size))
    | (go_at_call 16; refine (HP2.out w3 D3).mono ?_; rintro e4 w4 ⟨g4, rfl, R4, q4, B4⟩; have D4 := D3.trans (B4.mono D3.size)))
  have z1 := B1.size
  have z2 := B2.size
  have z3 := B3.size
  have z4 := B4.size
  have l3 := R3.lt
  have la := oa.lt
  have oa4 := own_below (own_below (own_below oa B2) B3) B4
  have oc4 : w4.ownsRow w2.heap.size 3 1 (.slice (some ⟨g3, 0, none⟩) n n) n ((lp13 z A).map (Value.int .i64)) := by
    have h5 := (R3.old B4).own q3 (by rw [HLL.out]; omega)
    rw [HLL.out] at h5
    exact h5
  have HNE : Hid ((Value.slice ra n rc).ownBlock ≠ some g3) := fun e => by have := la g3 e; omega
  have HBD : Hid (∀ W, Kp (fun q => (Value.slice ra n rc).ownBlock = some q ∨ q = g3) w4 W → SegZ W ba (nz12 A) ∧ SegZ W (some ⟨g4, 0, none⟩) (lp13 z A) ∧ Below w.heap.size w W) := fun W K => by
    refine ⟨?_, ?_, ?_⟩
    · refine (((own_segZ ob HNB.out).old B3).old B4).kp K fun x off e _ hS => ?_
      have l5 := ob.lt x (by rw [e]; rfl)
      rcases hS with c | c
      · have := la x c; omega
      · omega
    · refine (R4.seg HLB.out).kp K fun x off e _ hS => ?_
      cases e
      rcases hS with c | c
      · have := la g4 c; omega
      · omega
    · exact D4.trans (K.below (fun i hS => by
        rcases hS with c | c
        · have := la i c; omega
        · omega) (by omega))
  have HZ : Hid (w.heap.size ≤ w4.heap.size ∧ w2.heap.size ≤ w4.heap.size) := ⟨by omega, by omega⟩
  clear ob R3 R4 q3 q4 B1 B2 B3 B4 D2 D3 D4 z1 z2 z3 z4 l3 la oa hnb
  go_loopw [19] (fun ti wr => ∃ (k : Nat) (L : List Int), k ≤ n ∧ ti = .int .i64 k ∧ L.length = n ∧ wr.ownsRow w.heap.size 3 1 (.slice ra n rc) n (L.map (Value.int .i64)) ∧ wr.ownsRow w2.heap.size 3 1 (.slice (some ⟨g3, 0, none⟩) n n) n ((lp13 z A).map (Value.int .i64)) ∧ Kp (fun q => (Value.slice ra n rc).ownBlock = some q ∨ q = g3) w4 wr) (fun ti _ => n - (intOf ti).toNat)
  case atStart => exact ⟨0, nz12 A, Nat.zero_le _, rfl, HNL.out, oa4, oc4, Kp.refl _ _⟩
  case round =>
    obtain ⟨k, L, hk, rfl, hL, oL, oC, KL⟩ := hrel
    clear oa4 oc4
    by_cases h1 : k < n
    · have h1i : (k : Int) < (n : Int) := by omega
      obtain ⟨g, cap', hsh, _, _, _⟩ := own_shape oL (by omega)
      simp only [Value.slice.injEq] at hsh
      obtain ⟨rfl, _, rfl⟩ := hsh
      have c1 := oL.cells (g := g) rfl k (.int .i64 (L.getD k 0)) (by simp [List.getD, hL, h1])
      have hadd : (⟨g, 0, none⟩ : Addr).add k = ⟨g, k, none⟩ := by unfold Addr.add; split <;> simp_all
      rw [hadd] at c1
      have fz := oL.frozenAt k
      have HST := oL.stored k (.int .i64 (-1))
      rw [← List.map_set] at HST
      have HS : Hid _ := HST.1
      have HG : Hid _ := HST.2
      have HC2 : Hid _ := oC.kept HST.2 (Or.inr (by intro e; exact HNE.out e.symm))
      generalize L.getD k 0 = y at c1
      clear oL HST oC
      go_wp2_with fail
      go_roundw
      case rel => exact ⟨k + 1, L.set k (-1), by omega, by go_num, by rw [List.length_set]; exact hL, HS.out, HC2.out, KL.trans (Kp.grown (S := fun q => (Value.slice (some ⟨g, 0, none⟩) n rc).ownBlock = some q ∨ q = g3) HG.out (fun i e => Or.inl e)) (fun _ _ e => e)⟩
      case measure => simp [intOf]; omega
    · have h1i : ¬ (k : Int) < (n : Int) := by omega
      go_wp2_with fail
      go_loopw [28] (fun ti wr => ∃ (k : Nat) (L L2 : List Int), k ≤ n ∧ ti = .int .i64 k ∧ L.length = n ∧ L2.length = n ∧ wr.ownsRow w.heap.size 3 1 (.slice ra n rc) n (L.map (Value.int .i64)) ∧ wr.ownsRow w2.heap.size 3 1 (.slice (some ⟨g3, 0, none⟩) n n) n (L2.map (Value.int .i64)) ∧ Kp (fun q => (Value.slice ra n rc).ownBlock = some q ∨ q = g3) w4 wr) (fun ti _ => n - (intOf ti).toNat)
      case atStart => exact ⟨0, L, lp13 z A, Nat.zero_le _, rfl, hL, HLL.out, oL, oC, KL⟩
      case round =>
        clear oL oC KL hL
        obtain ⟨k2, La, Lc, hk2, rfl, hLa, hLc, oA, oC, KL⟩ := hrel
        by_cases h2 : k2 < n
        · have h2i : (k2 : Int) < (n : Int) := by omega
          have c1 := oC.cells (g := g3) rfl k2 (.int .i64 (Lc.getD k2 0)) (by simp [List.getD, hLc, h2])
          have hadd : (⟨g3, 0, none⟩ : Addr).add k2 = ⟨g3, k2, none⟩ := by unfold Addr.add; split <;> simp_all
          rw [hadd] at c1
          have fz := oC.frozenAt k2
          have HST := oC.stored k2 (.int .i64 (-1))
          rw [← List.map_set] at HST
          have HS : Hid _ := HST.1
          have HG : Hid _ := HST.2
          have HC2 : Hid _ := oA.kept HST.2 (Or.inr HNE.out)
          generalize Lc.getD k2 0 = y at c1
          clear oC HST oA
          go_wp2_with fail
          go_roundw
          case rel => exact ⟨k2 + 1, La, Lc.set k2 (-1), by omega, by go_num, hLa, by rw [List.length_set]; exact hLc, HC2.out, HS.out, KL.trans (Kp.grown (S := fun q => (Value.slice ra n rc).ownBlock = some q ∨ q = g3) HG.out (fun i e => Or.inr (by simpa [Value.ownBlock] using e.symm))) (fun _ _ e => e)⟩
          case measure => simp [intOf]; omega
        · have h2i : ¬ (k2 : Int) < (n : Int) := by omega
          have zr := KL.size
          have zz := HZ.out
          go_wp2_with (first
            | (at_builtin; refine wpList_appZ rfl (.tmp 35) (.tmp 36) 30 rfl w.heap.size 3 i0 (.int .i64 0) 8 Try.underlying30 hi hz0 hz1 hz2 rfl (oA.alloc _) (seg_three13 _) (by intro h; cases h) rfl rfl (by simp; omega) (by simp; omega) (by simp; omega) ?_; intro a5 c5 w5 o5 hg5 hf5 hn5; have oC5 := (oC.alloc (.cells #[.int .i64 1, .int .i64 2, .int .i64 3] 3)).kept hg5 (Or.inr (fun e => HNE.out e.symm)); have K5 := (KL.trans (Kp.alloc (S := fun q => (Value.slice ra n rc).ownBlock = some q ∨ q = g3) wr (.cells #[.int .i64 1, .int .i64 2, .int .i64 3] 3)) (fun _ _ e => e)).trans (Kp.grown (S := fun q => (Value.slice ra n rc).ownBlock = some q ∨ q = g3) hg5 (fun i e => Or.inl e)) (fun _ _ e => e); have z5 := K5.size; clear hf5 hn5)
            | (at_builtin; refine wpList_appZ rfl (.tmp 38) (.tmp 39) 30 rfl w2.heap.size 3 i0 (.int .i64 0) 8 Try.underlying30 hi hz0 hz1 hz2 rfl (oC5.alloc _) (seg_three13 _) (by intro h; cases h) rfl rfl (by simp; omega) (by simp; omega) (by simp; omega) ?_; intro a6 c6 w6 o6 hg6 hf6 hn6)
            | (go_at_call 15; fail))
          have K6 := (K5.trans (Kp.alloc (S := fun q => (Value.slice ra n rc).ownBlock = some q ∨ q = g3) w5 (.cells #[.int .i64 1, .int .i64 2, .int .i64 3] 3)) (fun _ _ e => e)).trans (Kp.grown (S := fun q => (Value.slice ra n rc).ownBlock = some q ∨ q = g3) hg6 (fun i e => Or.inr (by simpa [Value.ownBlock] using e.symm))) (fun _ _ e => e)
          clear hg5 hg6 hf6 hn6 o5 o6 oC5 oA oC K5 KL z5 zr
          obtain ⟨sb6, sd6, D6⟩ := HBD.out w6 K6
          have HSB : Hid (∀ W, Below w6.heap.size w6 W → SegZ W ba (nz12 A) ∧ SegZ W (some ⟨g4, 0, none⟩) (lp13 z A)) := fun W hb => ⟨sb6.old hb, sd6.old hb⟩
          have HDD : Hid (∀ W, Below w6.heap.size w6 W → Below w.heap.size w W) := fun W hb => D6.trans (hb.mono D6.size)
          clear sb6 sd6
          refine (HP1.out w6 D6).mono ?_
          rintro e7 w7 ⟨ra7, rc7, rfl, hn7, o7, B7⟩
          have s7 := own_segZ o7 HNB.out
          go_wp2_with (first
            | (go_at_call 14; refine (HS3.out w7 _ _ _ _ _ (HSB.out w7 B7).1 s7 HNL.out).mono ?_; rintro e8 w8 ⟨rfl, B8⟩; have E8 := B7.trans (B8.mono B7.size); clear s7)
            | (go_at_call 16; refine (HP2.out w8 (HDD.out w8 E8)).mono ?_; rintro e9 w9 ⟨g9, rfl, R9, q9, B9⟩; have E9 := E8.trans (B9.mono E8.size); have hS9 := HS3.out w9 (some ⟨g4, 0, none⟩) (some ⟨g9, 0, none⟩) _ n n (HSB.out w9 E9).2 (R9.seg HLB.out) HLL.out)
            | (go_at_call 14; refine hS9.mono ?_; rintro e10 w10 ⟨rfl, B10⟩; have E10 := E9.trans (B10.mono E9.size))
            | (go_at_call 13; refine (HP3.out w10 (HDD.out w10 E10)).mono ?_; rintro e11 w11 ⟨xa, xc, rfl, hn11, o11, B11⟩; have E11 := E10.trans (B11.mono E10.size))
            | (go_at_call 13; refine (HP3.out w11 (HDD.out w11 E11)).mono ?_; rintro e12 w12 ⟨ya, yc, rfl, hn12, o12, B12⟩; have E12 := E11.trans (B12.mono E11.size))
            | (go_at_call 30; fail))
          have rx : Row 5 w12 w10.heap.size (.slice xa n xc) z := by
            have h5 := own_below o11 B12
            rw [← HZL.out] at h5
            unfold Row
            rw [← HZL.out]
            exact h5
          have ry : Row 5 w12 w11.heap.size (.slice ya n yc) z := by
            have h5 := o12
            rw [← HZL.out] at h5
            unfold Row
            rw [← HZL.out]
            exact h5
          have rx0 : Row 5 w11 w10.heap.size (.slice xa n xc) z := by
            have h5 := o11
            rw [← HZL.out] at h5
            unfold Row
            rw [← HZL.out]
            exact h5
          have hap : Ap (Value.slice xa n xc).ownBlock (Value.slice ya n yc).ownBlock := ap_of rx0 (Nat.le_refl _) ry (Nat.le_refl _)
          have z10 := (HDD.out w10 E10).size
          have z11 := B11.size
          have z12 := B12.size
          refine (own_two w.heap.size _ _ z z w12 (row_base rx (by omega)) (row_base ry (by omega)) hap (by rw [HZL.out]; omega) (by rw [HZL.out]; omega) (by omega)).mono ?_
          rintro e13 w13 ⟨rfl, B13⟩
          have E13 := (HDD.out w12 E12).trans B13
          go_wp2_with fail
          go_ret
          exact ⟨rfl, E13⟩
end Go.Proofs.Ytkolffhebakbaaa

namespace Go.Proofs.Ytkolffhebakbaaa
open Go.RowKit
set_option linter.unusedVariables false

theorem info_u8' : (Try.prog.info? 5).map (fun i => (i.zero, i.size, i.bytes)) = some (some (.int .u8 0), 1, 1) := by kernel_rfl
def lentL (zs : List Int) : List Int := zs ++ [171, 172, 173, 174, 175]

theorem seg_five (w : World) : Seg (w.alloc (.cells #[.int .u8 171, .int .u8 172, .int .u8 173, .int .u8 174, .int .u8 175] 5)) (some ⟨w.heap.size, 0, none⟩) [171, 172, 173, 174, 175] := by
  refine ⟨fun i hi => ⟨w.heap.size, 0, rfl, ?_⟩, by decide, ?_⟩
  · simp only [List.length_cons, List.length_nil] at hi
    match i, hi with
    | 0, _ => simp
    | 1, _ => simp
    | 2, _ => simp
    | 3, _ => simp
    | 4, _ => simp
  · exact getD_bd (by decide) (by intro z hz; simp at hz; omega)

set_option maxRecDepth 100000 in
set_option maxHeartbeats 400000 in
theorem lend_any (a : Option Addr) (zs : List Int) (cap : Nat) (w : World) (hs : Seg w a zs) (hnil : a = none → cap = 0) (hl : zs.length ≤ 140737488351232) :
    Calls Try.prog 7 #[.slice a zs.length cap] w fun e w' => ∃ g cap', e = .returned (.tuple #[.slice (some ⟨g, 0, none⟩) (zs.length + 5) cap', .slice (some ⟨g, 0, none⟩) zs.length cap']) ∧
      w'.ownsRow w.heap.size 5 1 (.slice (some ⟨g, 0, none⟩) (zs.length + 5) cap') (zs.length + 5) ((lentL zs).map (Value.int .u8)) ∧ Below w.heap.size w w' := by
  obtain ⟨i0, hi, hz0, hz1, hz2⟩ := info_parts info_u8'
  go_enter Try.func7, Try.ntmps7
  have hm0 : (w.alloc (.cells #[] 5)).ownsRow w.heap.size 5 1 (.slice (some ⟨w.heap.size, 0, none⟩) 0 0) 0 [] := World.ownsRow_made w #[] 0 (Nat.le_refl _) (by decide) rfl
  have hb0 : Below w.heap.size w (w.alloc (.cells #[] 5)) := (Below.refl _ _).alloc (Nat.le_refl _) _
  go_wp2_with (first
    | (at_builtin; refine wpList_append_seg rfl (.tmp 5) (.tmp 6) 22 rfl w.heap.size 5 i0 (.int .u8 0) 1 Try.underlying22 hi hz0 hz1 hz2 rfl hm0 (hs.alloc _) hnil rfl rfl (by omega) (by omega) (by simp) ?_; intro v1 w1 hown1 hg1 hb1)
    | (at_builtin; refine wpList_append_seg rfl (.tmp 7) (.tmp 8) 22 rfl w.heap.size 5 i0 (.int .u8 0) 1 Try.underlying22 hi hz0 hz1 hz2 rfl (hown1.alloc _) (seg_five w1) (by intro h; cases h) rfl rfl (by simp; omega) (by simp; omega) (by have := hb1.size; simp at this ⊢; omega) ?_; intro v2 w2 hown2 hg2 hb2))
  obtain ⟨g, cap', rfl, hc2, hg, hgs⟩ := own_shape hown2 (by simp)
  have hcc : (zs.length : Int) ≤ (cap' : Int) := by simp at hc2; omega
  have hs1 := hb1.size
  have hbb : Below w.heap.size w w2 := hb0.trans (hb1.trans (((Below.refl _ _).alloc (by simp at hs1; omega) _).trans hb2))
  have hown3 : w2.ownsRow w.heap.size 5 1 (.slice (some ⟨g, 0, none⟩) (zs.length + 5) cap') (zs.length + 5) ((lentL zs).map (Value.int .u8)) := by
    have := hown2
    simp only [List.nil_append, Nat.zero_add, ← List.map_append] at this
    exact this
  clear hown2 hown1 hg1 hg2 hb1 hb2
  have e5 : 0 + zs.length + ([171, 172, 173, 174, 175] : List Int).length = zs.length + 5 := by simp
  rw [e5]
  clear e5 hc2
  go_region
  go_wp2
  go_ret2
  exact ⟨g, cap', rfl, hown3, hbb.drew⟩

theorem lent_bd {zs : List Int} (h : ∀ z ∈ zs, 0 ≤ z ∧ z ≤ 255) : ∀ z ∈ lentL zs, 0 ≤ z ∧ z ≤ 255 := by
  intro z hz
  unfold lentL at hz
  rw [List.mem_append] at hz
  rcases hz with hz | hz
  · exact h z hz
  · simp at hz; omega

set_option maxRecDepth 100000 in
/-- The longer list is as Lend made it. -/
theorem kept_any (a b : Option Addr) (xs zs : List Int) (ca cap : Nat) (w : World) (hx : Seg w b xs) (hs : Seg w a zs) (hnil : a = none → cap = 0) (hl : zs.length ≤ 140737488351232) :
    Calls Try.prog 9 #[.slice b xs.length ca, .slice a zs.length cap] w fun e w' => e = .returned (.bool (xs == lentL zs)) ∧ Below w.heap.size w w' := by
  go_enter Try.func9, Try.ntmps9
  go_wp2_with fail
  refine (lend_any a zs cap _ hs hnil hl).mono ?_
  rintro e w1 ⟨g, cap', rfl, hown, hb⟩
  obtain ⟨hn, a', c', hv, hseg, _, _, _⟩ := own_seg hown (M := 255) (by decide) (lent_bd hs.mem)
  have ha : a' = some ⟨g, 0, none⟩ := by simp at hv; exact hv.1.symm
  subst ha
  clear hv
  have hx1 := hx.old hb
  go_wp2_with fail
  refine (bsame_any b (some ⟨g, 0, none⟩) xs (lentL zs) ca cap' _ hx1 hseg).mono ?_
  rintro e w2 ⟨rfl, hw2⟩
  subst w2
  go_wp2
  go_ret
  exact ⟨rfl, hb⟩
end Go.Proofs.Ytkolffhebakbaaa
