
import Derived.Test.YthebboppbebffaaRgKeepsW
import Derived.Test.YthebboppbebffaaRgRepM
namespace Go.Proofs.Ythebboppbebffaa
open Go.RowKit
set_option linter.unusedVariables false

set_option maxRecDepth 100000 in
set_option maxHeartbeats 1600000 in
theorem ringRepeats_walk (w : World) (s : Int) (hs0 : 0 ≤ s) (hs1 : s ≤ 18446744073709551615) (pa : Option Addr) (p : List Int) (pc : Nat) (hs : Seg w pa p) (hc : p.length ≤ pc) (hnil : pa = none → pc = 0) (hl : p.length ≤ 140737488351232) (dist : Int) (hd0 : 0 ≤ dist) (hd1 : dist ≤ 18446744073709551615) (many : Int) (hm0 : 0 ≤ many) (hm1 : many ≤ 18446744073709551615) :
    Calls Try.prog 7 #[.agg #[.int .u64 s, .slice pa p.length pc, .int .u64 dist, .int .u64 many]] w fun e w' => e = .returned (.bool true) ∧ Below w.heap.size w w' := by
  obtain ⟨S, s1, s2, CS⟩ := size6_any s hs0 hs1
  have HS : Hid (1 ≤ S ∧ S ≤ 32768) := ⟨s1, s2⟩
  obtain ⟨wA, hwA⟩ : ∃ wA, wA = w.alloc (.cells #[.int .u64 s, .slice pa p.length pc, .int .u64 dist, .int .u64 many] 54) := ⟨_, rfl⟩
  have bA : Below w.heap.size w wA := by rw [hwA]; exact (Below.refl _ _).alloc (Nat.le_refl _) _
  have cA : wA.cell? ⟨w.heap.size, 0, none⟩ = some (.int .u64 s) ∧ wA.cell? ⟨w.heap.size, 1, none⟩ = some (.slice pa p.length pc) ∧ wA.cell? ⟨w.heap.size, 2, none⟩ = some (.int .u64 dist) ∧ wA.cell? ⟨w.heap.size, 3, none⟩ = some (.int .u64 many) := by rw [hwA]; exact four_cells (heap_alloc_new _ _)
  obtain ⟨c0, c1, c2, c3⟩ := cA
  have HWA : Hid (wA = w.alloc (.cells #[.int .u64 s, .slice pa p.length pc, .int .u64 dist, .int .u64 many] 54)) := hwA
  clear hwA
  have sA : Seg wA pa p := hs.old bA
  have C1 : Hid (∀ W, Calls Try.prog 23 #[.int .u64 s] W fun e w' => e = .returned (.int .i64 (S : Int)) ∧ w' = W) := CS
  have C2 : Hid (∀ W, Calls Try.prog 11 #[.int .i64 (S : Int)] W fun e w' => ∃ b F, e = .returned (.tuple #[.pointer (some ⟨b, 0, none⟩), .int .i64 0]) ∧ RP w' b F S [] ∧ Below W.heap.size W w' ∧ ∀ k, F k → W.heap.size ≤ k) := pnew_ok S s1 s2
  clear CS
  go_enter Try.func7, Try.ntmps7
  go_wp2_with fail
  rw [← HWA.out]
  go_quiet (fail)
  go_wp2_with fail
  have b1 : Below w.heap.size w (wA.drewN nq) := bA.trans ⟨rfl, rfl, rfl, Nat.le_refl _, fun _ _ => rfl⟩
  generalize wA.drewN nq = w1 at *
  clear HWA c0 c1 c2 c3 sA bA
  refine (C1.out w1).mono ?_
  rintro e w1' ⟨rfl, hw1⟩
  subst w1'
  go_wp2_with fail
  refine (C2.out w1).mono ?_
  rintro e w2 ⟨b, F, rfl, R2, B2, N2⟩
  go_wp2_with fail
  refine (awake6_any w2).mono ?_
  rintro e w3 ⟨rfl, B3⟩
  have z1 := b1.size
  have b2 : Below w.heap.size w w2 := b1.trans (B2.mono z1)
  have b3 : Below w.heap.size w w3 := b2.trans (B3.mono b2.size)
  have CP := pput_any pa p p.length pc rfl (R2.old B3) (hs.old b3) hc hnil (fun g off e h0 h1 => by have := hs.lt g off e h0; have := N2 g h1; omega) (by simp; omega)
  rw [List.nil_append] at CP
  clear R2 B3
  go_wp2_with fail
  refine CP.mono ?_
  rintro e w4 ⟨rfl, F4, R4, K4, P4⟩
  have b4 : Below w.heap.size w w4 := b3.trans (K4.below (fun k e => by have := N2 k e; omega) b3.size)
  have z3 := b3.size
  have N4 : ∀ k, F4 k → w.heap.size ≤ k := fun k e => by
    rcases P4 k e with e | e
    · have := N2 k e; omega
    · omega
  clear CP K4 P4 N2 B2 b1 b2 b3 z1 z3
  have CH := pheld_any R4 (by omega)
  go_wp2_with fail
  refine CH.mono ?_
  rintro e w5 ⟨rfl, B5⟩
  have R5 := R4.old B5
  have b5 := b4.trans (B5.mono b4.size)
  clear CH R4 B5 b4 w4
  by_cases hp : p = []
  · subst hp
    rw [show heldN S [] = 0 by simp [heldN]]
    have CC := pcopy_no 1 0 R5 (by simp) (by unfold copyOk; simp [heldN])
    rw [if_neg (by omega)] at CC
    go_wp2_with fail
    refine CC.mono ?_
    rintro e w6 ⟨rfl, B6⟩
    go_wp2_with fail
    go_ret
    exact ⟨rfl, b5.trans (B6.mono b5.size)⟩
  · have hpos : 0 < p.length := List.length_pos_iff.2 hp
    have hH0 : 0 < heldN S p := by unfold heldN; omega
    have hHp : heldN S p ≤ p.length := heldN_le S p
    have hHS : heldN S p ≤ 32768 := by unfold heldN; omega
    have CH := pheld_any R5 (by omega)
    have HLast : Hid (∀ (W : World) (N : Nat), RP W b F4 S p → N ≤ heldN S p → Calls Try.prog 19 #[.pointer (some ⟨b, 0, none⟩), .int .i64 (N : Int)] W fun e w' => ∃ oa oc, e = .returned (.tuple #[.slice oa N oc, .int .i64 0]) ∧ w'.ownsRow W.heap.size 5 1 (.slice oa N oc) N ((p.drop (p.length - N)).map (Value.int .u8)) ∧ Below W.heap.size W w') := fun W N h hN => plast_ok N h (by omega) hN
    have HCopy : Hid (∀ (W : World) (D N : Nat), RP W b F4 S p → 1 ≤ D → D ≤ heldN S p → N ≤ 258 → Calls Try.prog 18 #[.pointer (some ⟨b, 0, none⟩), .int .i64 (D : Int), .int .i64 (N : Int)] W fun e w' => ∃ oa oc F', e = .returned (.tuple #[.slice oa N oc, .int .i64 0]) ∧ w'.ownsRow W.heap.size 5 1 (.slice oa N oc) N ((cpyO p D N).map (Value.int .u8)) ∧ RP w' b F' S (cpyA p D N) ∧ Kp F4 W w' ∧ FrP W F4 F' ∧ Dj (OB (.slice oa N oc)) F') := fun W D N h h1 h2 h3 => pcopy_ok D N h (by omega) (by unfold copyOk; omega)
    generalize heldN S p = H at *
    have hHi : ¬ (H : Int) = 0 := by omega
    obtain ⟨d, hd⟩ : ∃ d : Nat, (d : Int) = 1 + dist % (H : Int) := ⟨(1 + dist % (H : Int)).toNat, by have := Int.emod_nonneg dist hHi; omega⟩
    obtain ⟨k, hk⟩ : ∃ k : Nat, (k : Int) = many % 259 := ⟨(many % 259).toNat, by omega⟩
    have hd2 := Int.emod_lt_of_pos dist (show (0 : Int) < H by omega)
    have hd3 := Int.emod_nonneg dist hHi
    have t1 : dist.tmod (H : Int) = dist % (H : Int) := Int.tmod_eq_emod_of_nonneg hd0
    have t2 : many.tmod 259 = many % 259 := Int.tmod_eq_emod_of_nonneg hm0
    have hdH : d ≤ H ∧ 1 ≤ d := by omega
    have hk2 : k ≤ 258 := by omega
    go_wp2_with fail
    refine CH.mono ?_
    rintro e w6 ⟨rfl, B6⟩
    have R6 := R5.old B6
    have b6 := b5.trans (B6.mono b5.size)
    clear CH R5 B6 b5
    go_wp2_with fail
    rw [← hd, ← hk]
    obtain ⟨hdH, hd1'⟩ := hdH
    clear hd hk t1 t2 hd2 hd3
    generalize dist % (H : Int) = q1 at *
    refine (HLast.out w6 d R6 hdH).mono ?_
    rintro e w7 ⟨oa, oc, rfl, O7, B7⟩
    have R7 := R6.old B7
    have b7 := b6.trans (B7.mono b6.size)
    go_wp2_with fail
    refine (HCopy.out w7 d k R7 hd1' hdH hk2).mono ?_
    rintro e w8 ⟨ob, oc8, F8, rfl, O8, R8, K8, P8, J8⟩
    have O78 := own_kp O7 K8 (fun k e1 e2 => by have := (O7.lt k e1).1; have := R6.lt k e2; omega)
    have b8 := b7.trans (K8.below (fun k e => N4 k e) b7.size)
    have CT := ptotal_any R8 (by rw [cpyA_len]; omega)
    rw [cpyA_len, Int.natCast_add] at CT
    obtain ⟨g7, oc', hv, hoc, hgB, hgl⟩ := own_shape O78 (by omega)
    simp only [Value.slice.injEq] at hv
    obtain ⟨rfl, _, rfl⟩ := hv
    have HEq : Hid (∀ i, i < k → (cpyO p d k).getD i 0 = (p.drop (p.length - d)).getD (i % d) 0) := fun i hi => cpyO_rep p d k i hd1' (by omega) hi
    have HL1 : Hid ((cpyO p d k).length = k) := cpyO_len p d k
    have HL2 : Hid ((p.drop (p.length - d)).length = d) := by show _ = _; rw [List.length_drop]; omega
    generalize cpyO p d k = X at *
    generalize p.drop (p.length - d) = Y at *
    have HO7 : Hid (∀ W, Below w8.heap.size w8 W → ∀ i, i < d → W.cell? ⟨g7, i, none⟩ = some (.int .u8 (Y.getD i 0))) := fun W hW i hi => own_cellB (own_kp O78 (Kp.of_below (S := fun _ => False) hW) (fun _ _ e => e)) (by have := HL2.out; omega)
    have HO8 : Hid (∀ W, Below w8.heap.size w8 W → ∀ i, i < k → ∃ g8, ob = some ⟨g8, 0, none⟩ ∧ W.cell? ⟨g8, i, none⟩ = some (.int .u8 (X.getD i 0))) := fun W hW i hi => by
      obtain ⟨g8, oc', hv, _, _, _⟩ := own_shape O8 (by omega)
      simp only [Value.slice.injEq] at hv
      obtain ⟨rfl, _, rfl⟩ := hv
      exact ⟨g8, rfl, own_cellB (own_kp O8 (Kp.of_below (S := fun _ => False) hW) (fun _ _ e => e)) (by have := HL1.out; omega)⟩
    clear O7 O8 O78 R7 R8 K8 P8 J8 B7 b7 R6 b6 HLast HCopy
    have Hb8 : Hid _ := b8
    clear b8
    go_wp2_with fail
    refine CT.mono ?_
    rintro e w9 ⟨rfl, B9⟩
    clear CT
    go_wp2_with fail
    go_loopw [15] (fun ti wr => ∃ i : Nat, i ≤ k ∧ ti = .int .i64 (i : Int) ∧ Below w8.heap.size w8 wr) (fun ti _ => k - (intOf ti).toNat)
    case atStart => exact ⟨0, by omega, rfl, B9⟩
    case round =>
      obtain ⟨i, hi, rfl, BQ⟩ := hrel
      by_cases hik : i < k
      · have hii : (i : Int) < (k : Int) := by omega
        obtain ⟨m, hm⟩ : ∃ m, m = i % d := ⟨_, rfl⟩
        have hmd : m < d := by rw [hm]; exact Nat.mod_lt _ (by omega)
        have hmdi : (m : Int) < (d : Int) := by omega
        have t3 : (i : Int).tmod (d : Int) = (m : Int) := by rw [hm, Int.natCast_emod]; exact Int.tmod_eq_emod_of_nonneg (by omega)
        have hdn : ¬ (d : Int) = 0 := by omega
        have c7 := HO7.out _ BQ m hmd
        obtain ⟨g8, rfl, c8⟩ := HO8.out _ BQ i hik
        rw [HEq.out i hik, ← hm] at c8
        generalize Y.getD m 0 = zz at *
        clear hm
        go_wp2_with fail
        go_quiet (fail)
        go_wp2_with fail
        go_roundw
        case rel => exact ⟨i + 1, by omega, by go_num, BQ.trans ⟨rfl, rfl, rfl, Nat.le_refl _, fun _ _ => rfl⟩⟩
        case measure => simp [intOf]; omega
      · have hie : i = k := by omega
        subst hie
        go_wp2_with fail
        go_ret
        exact ⟨rfl, Hb8.out.trans (BQ.mono Hb8.out.size)⟩
end Go.Proofs.Ythebboppbebffaa
