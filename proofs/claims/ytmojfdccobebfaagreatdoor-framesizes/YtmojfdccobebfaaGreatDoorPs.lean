import Derived.Test.YtmojfdccobebfaaGreatDoorProg
import Derived.Test.YtmojfdccobebfaaGreatDoorPf
import Derived.Test.YtmojfdccobebfaaGreatDoorPa
import Derived.WalkKit
import Derived.WalkSpells
import Derived.WalkLawsBesides
import Derived.Test.YtmojfdccobebfaaGreatDoorPr
import Derived.Test.YtmojfdccobebfaaGreatDoorPg
import Derived.Laws.BitsLemmas
namespace Go.Proofs.YtmojfdccobebfaaGreatDoor
open Go.RowKit
set_option linter.unusedVariables false

theorem info_u8r : (Tryz.prog.info? 5).map (fun i => (i.zero, i.size, i.bytes)) = some (some (.int .u8 0), 1, 1) := by kernel_rfl

set_option maxRecDepth 100000 in
set_option maxHeartbeats 1000000 in
theorem rbytes_any (x : Int) (w : World) (hx0 : 0 ≤ x) (hx1 : x ≤ 18446744073709551615) :
    Calls Tryz.prog 48 #[.int .u64 x] w fun e w' => ∃ v, e = .returned v ∧ w'.ownsRow w.heap.size 5 1 v (encI x).length ((encI x).map (Value.int .u8)) ∧ Below w.heap.size w w' := by
  obtain ⟨i0, hi, hz0, hz1, hz2⟩ := info_parts info_u8r
  go_enter Tryz.func48, Tryz.ntmps48
  go_wp2
  go_loopw [0, 3] (fun t o wr => ∃ (pre : List Int) (f : Nat) (u : Int), t = .int .u64 u ∧ wr.ownsRow w.heap.size 5 1 o pre.length (pre.map (Value.int .u8)) ∧ encI x = pre ++ encL f u ∧ pre.length + f = 9 ∧ 0 ≤ u ∧ u < 2 * 128 ^ f ∧ Below w.heap.size w wr) (fun t _ _ => (intOf t).toNat)
  case atStart => exact ⟨[], 9, x, rfl, World.ownsRow_nil _ _ _ _, rfl, rfl, hx0, by rw [pow9]; omega, Below.refl _ _⟩
  case round =>
    obtain ⟨pre, f, u, rfl, hown2, he, hf, hu0, hu1, hb2⟩ := hrel
    have hu2 : u ≤ 18446744073709551615 := by
      have h9 : (128 : Int) ^ f ≤ 128 ^ 9 := pow128_mono (by omega)
      have := pow9
      omega
    have hszr := hb2.size
    by_cases h7 : 127 < u
    · obtain ⟨f, rfl⟩ : ∃ g, f = g + 1 := ⟨f - 1, by
        cases f with
        | zero => simp at hu1; omega
        | succ f => rfl⟩
      have h8 : 128 ≤ u := by omega
      have HN : Hid (encI x = (pre ++ [u % 128 + 128]) ++ encL f (u / 128)) := by
        show encI x = _
        rw [he]; simp only [encL, if_pos h7, List.append_assoc, List.singleton_append]
      have hu3 : u / 128 < 2 * 128 ^ f := by rw [Int.pow_succ] at hu1; omega
      clear he h7
      go_wp2_with (at_builtin; refine wpList_push rfl _ _ 30 rfl w.heap.size 5 i0 (.int .u8 0) 1 Tryz.underlying30 hi hz0 hz1 hz2 rfl wr (.int .u8 (u % 128 + 128)) rfl hown2 rfl rfl (by omega) (by omega) hszr ?_; intro v' w2 hown3 hg3 hb3)
      go_roundw
      case rel => exact ⟨pre ++ [u % 128 + 128], f, u / 128, rfl, by simpa using hown3, HN.out, by simp; omega, by omega, hu3, hb2.trans hb3⟩
      case measure => simp [intOf]; omega
    · have h8 : u < 128 := by omega
      have HN : Hid (encI x = pre ++ [u]) := by
        show encI x = _
        rw [he]
        cases f <;> simp [encL, h7]
      clear he h7
      go_wp2_with (at_builtin; refine wpList_push rfl _ _ 30 rfl w.heap.size 5 i0 (.int .u8 0) 1 Tryz.underlying30 hi hz0 hz1 hz2 rfl wr (.int .u8 u) rfl hown2 rfl rfl (by omega) (by omega) hszr ?_; intro v' w2 hown3 hg3 hb3)
      go_ret
      exact ⟨_, rfl, by rw [HN.out]; simpa using hown3, hb2.trans hb3⟩

set_option maxRecDepth 100000 in
set_option maxHeartbeats 1000000 in
theorem rencode_any (a : Option Addr) (zs : List Int) (cap : Nat) (w : World) (hs : Seg64 w a zs) (hl : zs.length ≤ 8796093022208) :
    Calls Tryz.prog 28 #[.slice a zs.length cap] w fun e w' => ∃ v, e = .returned v ∧ w'.ownsRow w.heap.size 5 1 v (encA zs).length ((encA zs).map (Value.int .u8)) ∧ Below w.heap.size w w' := by
  obtain ⟨i0, hi, hz0, hz1, hz2⟩ := info_parts info_u8r
  go_enter Tryz.func28, Tryz.ntmps28
  go_wp2
  go_loopw [3, 8] (fun o i wr => ∃ k : Nat, k ≤ zs.length ∧ i = .int .i64 k ∧ wr.ownsRow w.heap.size 5 1 o (encA (zs.take k)).length ((encA (zs.take k)).map (Value.int .u8)) ∧ Below w.heap.size w wr) (fun _ i _ => zs.length - (intOf i).toNat)
  case atStart => exact ⟨0, Nat.zero_le _, rfl, World.ownsRow_nil _ _ _ _, Below.refl _ _⟩
  case round =>
    obtain ⟨k, hk, rfl, hown, hb⟩ := hrel
    have hle := encA_take_len zs k
    by_cases hlt : k < zs.length
    · have hsr := hs.old hb
      obtain ⟨b, off, rfl, hcell⟩ := hsr.at_ k hlt
      have hx := hs.bd k
      have HT : Hid (encA (zs.take (k + 1)) = encA (zs.take k) ++ encI (zs.getD k 0)) := encA_take zs k hlt
      have hlen := encI_len (zs.getD k 0)
      have hszr := hb.size
      have hbd := encI_bd (zs.getD k 0) hx.1 hx.2
      generalize zs.getD k 0 = x at *
      generalize encA (zs.take k) = E at *
      go_wp2_with fail
      refine (rbytes_any x _ hx.1 hx.2).mono ?_
      rintro e w1 ⟨v1, rfl, hown1, hb1⟩
      obtain ⟨_, a1, c1, rfl, hseg1, hblk, hc1, _⟩ := own_seg hown1 (M := 255) (by decide) hbd
      have hn1 : a1 = none → c1 = 0 := by
        intro e
        subst e
        rcases hown1.2 with ⟨h0, _⟩ | ⟨g, cp, cur, h0, _⟩
        · simp at h0; exact h0.2
        · simp at h0
      have hownA := own_below hown hb1
      have hz1' := hb1.size
      clear hown1 hblk hsr hcell
      go_wp2_with (at_builtin; refine wpList_append_seg rfl _ _ 30 rfl w.heap.size 5 i0 (.int .u8 0) 1 Tryz.underlying30 hi hz0 hz1 hz2 rfl hownA hseg1 hn1 rfl rfl (by omega) (by omega) (by omega) ?_; intro v2 w2 hown2 hg2 hb2)
      go_roundw
      case rel => exact ⟨k + 1, by omega, by go_num, by rw [HT.out]; simpa using hown2, hb.trans ((hb1.mono hszr).trans hb2)⟩
      case measure => simp [intOf]; omega
    · obtain rfl : k = zs.length := by omega
      have HT : Hid (zs.take zs.length = zs) := List.take_length
      rw [HT.out] at hown
      clear hle hlt
      go_wp2
      go_ret
      exact ⟨_, rfl, hown, hb⟩
end Go.Proofs.YtmojfdccobebfaaGreatDoor

namespace Go.Proofs.YtmojfdccobebfaaGreatDoor
open Go.RowKit Go.Shelf
set_option linter.unusedVariables false

/-! The document's Sizes. -/
theorem sv18_cell {V : World} {g i : Nat} {s : Sz18} {t : TypeId} (q : V.heap[g]? = some (.cells s.cs t (0, 0))) (hi : i < 7) : V.cell? ⟨g, i, none⟩ = some (.int .i64 ((sv18 s).getD i 0)) := by
  match i, hi with
  | 0, _ => exact cell18 q rfl
  | 1, _ => exact cell18 q rfl
  | 2, _ => exact cell18 q rfl
  | 3, _ => exact cell18 q rfl
  | 4, _ => exact cell18 q rfl
  | 5, _ => exact cell18 q rfl
  | 6, _ => exact cell18 q rfl
theorem sv18_take {s : Sz18} {i : Nat} (hi : i < 7) : (sv18 s).take (i + 1) = (sv18 s).take i ++ [(sv18 s).getD i 0] := by
  rw [List.take_succ_eq_append_getElem (show i < (sv18 s).length from hi)]
  simp [List.getD, show i < (sv18 s).length from hi]
set_option maxRecDepth 100000 in
set_option maxHeartbeats 4000000 in
theorem rsz18 (h : Hd18) (i : Int) (s : Sz18) (w : World) : Calls Tryz.prog 22 #[.agg #[.int .i64 h.o, .int .i64 h.n, .int .u32 h.so, .int .u32 h.sn, .int .i64 h.wi, .int .i64 h.lo], .int .i64 i, .agg #[.int .i64 s.p, .int .i64 s.r0, .int .i64 s.r1, .int .i64 s.r2, .int .i64 s.k0, .int .i64 s.k1, .int .i64 s.k2]] w (HdQ18 w (sb18 h i s) (ft18 h i s)) := by
  obtain ⟨wB, b4, b5, X⟩ := bw18 w h s
  have HX : Hid (Bw18 w h s wB b4 b5) := X
  obtain ⟨l0, l1, l2, l3, l4, l5⟩ := X.cl (Below.refl _ _)
  obtain ⟨m0, m1, m2, m3, m4, m5, m6⟩ := X.cz (Below.refl _ _)
  rw [← X.wa] at l0 l1 l2 l3 l4 l5 m0 m1 m2 m3 m4 m5 m6
  rw [← X.e5] at m0 m1 m2 m3 m4 m5 m6
  rw [← X.e4] at l0 l1 l2 l3 l4 l5 m0 m1 m2 m3 m4 m5 m6
  have CK := rfts18 h i s wB
  clear X
  unfold sb18
  by_cases hf : ft18 h i s = 0
  · rw [if_pos hf, hf]
    rw [hf] at CK
    obtain ⟨hk, hn, hs⟩ := ft18_ok hf
    have hZ := siz18_bd hk hn
    have hbd := fs18_bd hs hZ hk.1.2
    have HVB : Hid (∀ z ∈ sv18 s, 0 ≤ z ∧ z ≤ 16777216) := fun z hz => by
      obtain ⟨x0, x1, x2, x3, x4, x5, x6⟩ := hbd
      simp [sv18] at hz
      omega
    clear hf hk hn hs hZ hbd
    go_enter Tryz.func22, Tryz.ntmps22
    go_wp2_with fail
    rw [HX.out.wa, HX.out.e4, HX.out.e5]
    clear l0 l1 l2 l3 l4 l5 m0 m1 m2 m3 m4 m5 m6
    refine CK.mono ?_
    rintro e1 w1 ⟨rfl, b1⟩
    have HB1 : Hid (Below wB.heap.size wB w1) := b1
    clear b1 CK
    obtain ⟨m0, m1, m2, m3, m4, m5, m6⟩ := HX.out.cz HB1.out
    have cL := cb16 w1 s.cs 3
    obtain ⟨w2, hw2⟩ : ∃ w2, w2 = w1.alloc (.cells s.cs 3) := ⟨_, rfl⟩
    rw [← hw2] at cL
    have HW2 : Hid (w1.alloc (.cells #[.int .i64 s.p, .int .i64 s.r0, .int .i64 s.r1, .int .i64 s.r2, .int .i64 s.k0, .int .i64 s.k1, .int .i64 s.k2] 3) = w2) := hw2.symm
    obtain ⟨gL, hgL⟩ : ∃ gL, gL = w1.heap.size := ⟨_, rfl⟩
    have HGL : Hid (w1.heap.size = gL) := hgL.symm
    have qL : w2.heap[gL]? = some (.cells s.cs 3 (0, 0)) := by rw [hgL]; exact cL.cl
    have HB2 : Hid (Below wB.heap.size wB w2) := HB1.out.trans (cL.bl.mono HB1.out.size)
    have HZ2 : Hid (gL < w2.heap.size) := (Array.getElem?_eq_some_iff.1 qL).1
    clear cL hw2 hgL
    go_wp2_with fail
    rw [HW2.out, HGL.out]
    clear m0 m1 m2 m3 m4 m5 m6
    go_loopw [9, 41] (fun t9 t41 V => ∃ j : Nat, j ≤ 7 ∧ t41 = .int .i64 (j : Int) ∧ V.ownsRow w2.heap.size 60 1 t9 j (((sv18 s).take j).map (Value.int .u64)) ∧ V.heap[gL]? = some (.cells s.cs 3 (0, 0)) ∧ Below w2.heap.size w2 V) (fun _ t41 _ => 7 - (intOf t41).toNat)
    case atStart => exact ⟨0, by omega, rfl, ⟨rfl, .inl ⟨rfl, rfl⟩⟩, qL, Below.refl _ _⟩
    case round =>
      obtain ⟨j, hj7, rfl, own, hqL, hB⟩ := hrel
      clear qL
      obtain ⟨pv, cv, hv⟩ := own_sl18 own
      subst hv
      by_cases hj : j < 7
      · have hj1 : (j : Int) < 7 := by omega
        have hj0 : (0 : Int) ≤ (j : Int) := by omega
        have cc := sv18_cell hqL hj
        have HTK : Hid ((sv18 s).take (j + 1) = (sv18 s).take j ++ [(sv18 s).getD j 0]) := sv18_take hj
        have hvb : 0 ≤ (sv18 s).getD j 0 ∧ (sv18 s).getD j 0 ≤ 16777216 := by
          have : (sv18 s).getD j 0 ∈ sv18 s := by
            rw [List.getD, List.getElem?_eq_getElem (show j < (sv18 s).length from hj)]
            exact List.getElem_mem _
          exact HVB.out _ this
        obtain ⟨g, rc, wE, hr, ow, k1⟩ := appv18 wr ((sv18 s).getD j 0) own (by omega) hB.size
        have HO : Hid (wE.ownsRow w2.heap.size 60 1 (.slice (some ⟨g, 0, none⟩) (j + 1) rc) (j + 1) (((sv18 s).take (j + 1)).map (Value.int .u64))) := by
          show World.ownsRow _ _ _ _ _ _ _
          rw [HTK.out, List.map_append]; exact ow
        have HE : Hid (Below w2.heap.size w2 wE) := hB.trans (k1.below (fun k x => (own.lt k x).1) hB.size)
        have HQE : Hid (wE.heap[gL]? = some (.cells s.cs 3 (0, 0))) := k1.heap hqL (fun e => by have := (own.lt gL e).1; have := HZ2.out; omega)
        clear own ow k1 hqL hB HTK
        generalize (sv18 s).getD j 0 = v at *
        have hwv : IntKind.u64.wrap v = v := IntWalk.u64_in _ (by omega)
        go_wp2_with (first | (at_builtin; refine wpList_app18 rfl (.tmp 45) (.tmp 48) 61 rfl rfl rfl hr ?_))
        go_roundw
        case rel => exact ⟨j + 1, by omega, by simp, HO.out, HQE.out, HE.out⟩
        case measure => simp [intOf]; omega
      · have hj2 : j = 7 := by omega
        subst hj2
        obtain ⟨-, a, c2, hv, sg, -, -, -⟩ := own_seg (zs := sv18 s) own (M := 18446744073709551615) (by decide) (fun z hz => by have := HVB.out z hz; omega)
        injection hv with h1 h2 h3
        subst h1
        have EN := rencode_any pv (sv18 s) cv wr sg (by simp [sv18])
        have EN : Hid (Calls Tryz.prog 28 #[.slice pv 7 cv] wr fun e w' => ∃ v, e = .returned v ∧ w'.ownsRow wr.heap.size 5 1 v (encA (sv18 s)).length ((encA (sv18 s)).map (Value.int .u8)) ∧ Below wr.heap.size wr w') := EN
        have HBW : Hid (Below wB.heap.size wB wr) := HB2.out.trans (hB.mono HB2.out.size)
        clear own sg hqL hB h2 h3
        go_wp2_with fail
        refine EN.out.mono ?_
        rintro e3 w3 ⟨v3, rfl, o3, b3⟩
        obtain ⟨p3, c3, hv3⟩ := own_sl18 o3
        subst hv3
        have HB3 : Below wB.heap.size wB w3 := HBW.out.trans (b3.mono HBW.out.size)
        have HQQ : Hid (HdQ18 w (encA (sv18 s)) 0 (.returned (.tuple #[.slice p3 (encA (sv18 s)).length c3, .int .i64 0])) w3) := ⟨p3, c3, rfl, own_base o3 (Nat.le_trans HX.out.bl.size HBW.out.size), HX.out.bl.trans (HB3.mono HX.out.bl.size)⟩
        clear o3 b3 HB3 EN
        go_wp2_with fail
        go_ret2
        exact HQQ.out
  · rw [if_neg hf]
    have hne : (ft18 h i s != 0) = true := by simp [hf]
    generalize ft18 h i s = er at *
    clear hf
    go_enter Tryz.func22, Tryz.ntmps22
    go_wp2_with fail
    rw [HX.out.wa, HX.out.e4, HX.out.e5]
    clear l0 l1 l2 l3 l4 l5 m0 m1 m2 m3 m4 m5 m6
    refine CK.mono ?_
    rintro e1 w1 ⟨rfl, b1⟩
    have HQQ : Hid (HdQ18 w [] er (.returned (.tuple #[.slice none 0 0, .int .i64 er])) w1) := ⟨none, 0, rfl, ⟨rfl, .inl ⟨rfl, rfl⟩⟩, HX.out.bl.trans (b1.mono HX.out.bl.size)⟩
    clear b1 CK
    go_wp2_with fail
    go_ret2
    exact HQQ.out
end Go.Proofs.YtmojfdccobebfaaGreatDoor

namespace Go.Proofs.YtmojfdccobebfaaGreatDoor
open Go.RowKit
set_option linter.unusedVariables false
set_option linter.unusedSimpArgs false

theorem i64_and1 (n : Int) : bits .and .i64 n 1 = n % 2 := by
  have h1 : (BitVec.ofInt 64 1).toNat = 2 ^ 1 - 1 := by decide
  have key : (BitVec.ofInt 64 n &&& BitVec.ofInt 64 1).toNat = (n % ((2 ^ 64 : Nat) : Int)).toNat % 2 ^ 1 := by
    rw [BitVec.toNat_and, BitVec.toNat_ofInt, h1, Nat.and_two_pow_sub_one_eq_mod]
  show IntKind.i64.wrap ((BitVec.ofInt 64 n &&& BitVec.ofInt 64 1).toNat : Nat) = n % 2
  rw [key, IntKind.wrap_i64]
  omega
theorem byte_on : (8388608 : Int) = wI (onN 8 oneW) := by decide
theorem sq (e : Nat) : act (onN e oneW) (onN e oneW) = onN (2 * e) oneW := by
  rw [act_pow', ← onN_add]
  congr 1
  omega

end Go.Proofs.YtmojfdccobebfaaGreatDoor

namespace Go.Proofs.YtmojfdccobebfaaGreatDoor
open Go.RowKit
set_option linter.unusedVariables false
set_option linter.unusedSimpArgs false

theorem wI_low (a : W32) : bits .and .u32 (wI a) 1 = wI (a &&& 1#32) := wI_and a 1#32
theorem wI_eq (a b : W32) : (wI a == wI b) = (a == b) := by
  rw [Bool.eq_iff_iff, beq_iff_eq, beq_iff_eq]
  exact ⟨wI_inj, fun h => by rw [h]⟩
theorem wI_low1 (a : W32) : (bits .and .u32 (wI a) 1 == 1) = a.getLsbD 0 := by
  rw [wI_low, show (1 : Int) = wI 1#32 from rfl, wI_eq]
  have h := and_two a 0 (by decide)
  rw [show BitVec.twoPow 32 0 = 1#32 from rfl] at h
  rw [← h]
  have e : (a &&& 1#32) = BitVec.ofNat 32 (a.toNat % 2) := by
    apply BitVec.eq_of_toNat_eq
    have : a.toNat &&& 1 = a.toNat % 2 := Nat.and_two_pow_sub_one_eq_mod _ 1
    simp [this]
    omega
  rw [e]
  rcases Nat.mod_two_eq_zero_or_one a.toNat with h | h <;> rw [h] <;> decide

set_option maxRecDepth 100000 in
/-- The register behind one more bit. -/
theorem step_any (a c : W32) (w : World) (hc : c = 0#32 ∨ c = 1#32) : Calls Tryz.prog 77 #[.int .u32 (wI a), .int .u32 (wI c)] w fun e w' => e = .returned (.int .u32 (wI (on (a ^^^ c)))) ∧ w' = w := by
  have b := wI_bd a
  have hx := wI_xor a c
  have hl := wI_low1 (a ^^^ c)
  have h2 : wI a / (2 : Int) = wI ((a ^^^ c) >>> 1) := by
    rw [wI_half, BitVec.ushiftRight_xor_distrib]
    congr 1
    rcases hc with rfl | rfl
    · simp
    · simp
  cases h : (a ^^^ c).getLsbD 0
  · have HL : Hid (wI a / 2 = wI (on (a ^^^ c))) := by
      show _ = _
      rw [h2]; unfold on; rw [h]; simp
    rw [h] at hl
    rw [← hx] at hl
    clear h h2 hx
    go_enter Tryz.func77, Tryz.ntmps77
    go_wp2
    go_ret
    exact ⟨ret_u32 HL.out, rfl⟩
  · have HL : Hid (bits .xor .u32 (wI a / 2) 3988292384 = wI (on (a ^^^ c))) := by
      show _ = _
      rw [h2, show (3988292384 : Int) = wI genW from rfl, wI_xor]; unfold on; rw [h, if_pos rfl]
    rw [h] at hl
    rw [← hx] at hl
    clear h h2 hx
    go_enter Tryz.func77, Tryz.ntmps77
    go_wp2
    go_ret
    exact ⟨ret_u32 HL.out, rfl⟩
theorem step0_any (a : W32) (w : World) : Calls Tryz.prog 77 #[.int .u32 (wI a), .int .u32 0] w fun e w' => e = .returned (.int .u32 (wI (on a))) ∧ w' = w := by
  have := step_any a 0#32 w (Or.inl rfl)
  rw [BitVec.xor_zero, wI_zero] at this
  exact this

theorem wI_shrbit (a : W32) (i : Nat) : (bits .and .u32 (wI a / 2 ^ i) 1 == 1) = a.getLsbD i := by
  rw [wI_shr, wI_low1]
  simp

theorem one_one : (2147483648 : Int) = wI (onN 0 oneW) := by decide

end Go.Proofs.YtmojfdccobebfaaGreatDoor

namespace Go.Proofs.YtmojfdccobebfaaGreatDoor
open Go.RowKit
set_option linter.unusedVariables false
set_option linter.unusedSimpArgs false

/-- The low bits of a byte. -/
def lowW (x : Int) (k : Nat) : W32 := BitVec.ofNat 32 (x.toNat % 2 ^ k)
def bitW (x : Int) (k : Nat) : W32 := BitVec.ofNat 32 (x.toNat / 2 ^ k % 2)
theorem low_next0 : ∀ (x : Fin 256) (k : Fin 8), BitVec.ofNat 32 (x.val % 2 ^ (k.val + 1)) = BitVec.ofNat 32 (x.val % 2 ^ k.val) ^^^ (BitVec.ofNat 32 (x.val / 2 ^ k.val % 2) <<< k.val) := by decide +kernel
theorem low_next (x : Int) (h0 : 0 ≤ x) (h1 : x ≤ 255) (k : Nat) (hk : k < 8) : lowW x (k + 1) = lowW x k ^^^ (bitW x k <<< k) :=
  low_next0 ⟨x.toNat, by omega⟩ ⟨k, hk⟩
theorem low_step (r : W32) (x : Int) (h0 : 0 ≤ x) (h1 : x ≤ 255) (k : Nat) (hk : k < 8) : on (onN k (r ^^^ lowW x k) ^^^ bitW x k) = onN (k + 1) (r ^^^ lowW x (k + 1)) := by
  have e : bitW x k = onN k (bitW x k <<< k) := by
    refine (onN_shl k _ ?_ (by omega)).symm
    have h2 : (bitW x k).toNat < 2 := by
      unfold bitW
      have := Nat.mod_lt (x.toNat / 2 ^ k) (show 0 < 2 by decide)
      simp
      omega
    have h3 : 2 ^ 1 ≤ 2 ^ (32 - k) := Nat.pow_le_pow_right (by decide) (by omega)
    exact Nat.lt_of_lt_of_le h2 h3
  conv => lhs; rw [e]
  rw [← onN_xor, BitVec.xor_assoc, ← low_next x h0 h1 k hk]
  rfl
theorem bit_or (x : Int) (k : Nat) : bitW x k = 0#32 ∨ bitW x k = 1#32 := by
  unfold bitW
  rcases Nat.mod_two_eq_zero_or_one (x.toNat / 2 ^ k) with h | h <;> rw [h]
  · exact Or.inl rfl
  · exact Or.inr rfl
theorem bit_is (x : Int) (h0 : 0 ≤ x) (h1 : x ≤ 255) (k : Nat) : bits .and .u32 (x / 2 ^ k % 4294967296) 1 = wI (bitW x k) := by
  obtain ⟨n, rfl⟩ := Int.eq_ofNat_of_zero_le h0
  have hd : n / 2 ^ k ≤ n := Nat.div_le_self _ _
  have e1 : ((n : Int) / 2 ^ k) = wI (BitVec.ofNat 32 (n / 2 ^ k)) := by
    unfold wI
    rw [BitVec.toNat_ofNat, Nat.mod_eq_of_lt (by omega)]
    simp
  have e0 : (n : Int) / 2 ^ k % 4294967296 = (n : Int) / 2 ^ k := by
    have := wI_bd (BitVec.ofNat 32 (n / 2 ^ k))
    rw [← e1] at this
    exact Int.emod_eq_of_lt this.1 this.2
  rw [e0, e1, wI_low]
  congr 1
  apply BitVec.eq_of_toNat_eq
  unfold bitW
  rw [BitVec.toNat_and, BitVec.toNat_ofNat, BitVec.toNat_ofNat, Nat.mod_eq_of_lt (a := n / 2 ^ k) (by omega)]
  have : n / 2 ^ k &&& 1 = n / 2 ^ k % 2 := Nat.and_two_pow_sub_one_eq_mod _ 1
  simp [this]
  omega

set_option maxRecDepth 100000 in
set_option maxHeartbeats 1000000 in
theorem run_any (r : W32) (a : Option Addr) (zs : List Int) (cap : Nat) (w : World) (hs : Seg w a zs) (hl : zs.length ≤ 9223372036854775807) :
    Calls Tryz.prog 49 #[.int .u32 (wI r), .slice a zs.length cap] w fun e w' => e = .returned (.int .u32 (wI (runW r zs))) ∧ w' = w := by
  go_enter Tryz.func49, Tryz.ntmps49
  go_wp2
  go_loopw [0, 5] (fun tr ti wr => ∃ k : Nat, k ≤ zs.length ∧ tr = .int .u32 (wI (runW r (zs.take k))) ∧ ti = .int .i64 k ∧ wr = w) (fun _ ti _ => zs.length - (intOf ti).toNat)
  case atStart => exact ⟨0, Nat.zero_le _, by simp [runW], rfl, rfl⟩
  case round =>
    obtain ⟨k, hk, rfl, rfl, rfl⟩ := hrel
    by_cases hlt : k < zs.length
    · have hlti : (k : Int) < (zs.length : Int) := by omega
      obtain ⟨b, off, rfl, hc⟩ := hs.at_ k hlt
      have hbd := hs.bd k
      have HT : Hid (runW r (zs.take (k + 1)) = takeW (runW r (zs.take k)) (zs.getD k 0)) := by
        show _ = _
        rw [take_snoc hlt, runW_snoc]
      generalize zs.getD k 0 = z at *
      generalize runW r (zs.take k) = q at *
      go_wp2
      go_loopw [0, 6] (fun tr ti w2 => ∃ j : Nat, j ≤ 8 ∧ tr = .int .u32 (wI (onN j (q ^^^ lowW z j))) ∧ ti = .int .i64 j ∧ w2 = wr) (fun _ ti _ => 8 - (intOf ti).toNat)
      case atStart => exact ⟨0, by decide, by simp [lowW, onN, Nat.mod_one], rfl, rfl⟩
      case round =>
        obtain ⟨j, hj, rfl, rfl, rfl⟩ := hrel
        by_cases hj8 : j < 8
        · have hj8' : (j : Int) < 8 := by omega
          have hb := bit_is z hbd.1 hbd.2 j
          have HS : Hid (on (onN j (q ^^^ lowW z j) ^^^ bitW z j) = onN (j + 1) (q ^^^ lowW z (j + 1))) := low_step q z hbd.1 hbd.2 j hj8
          have ho := bit_or z j
          go_wp2_with (go_at_call 77; refine (step_any _ _ _ ho).mono ?_; rintro e w' ⟨rfl, hw'⟩; subst w')
          go_roundw
          case rel => exact ⟨j + 1, by omega, by rw [HS.out], by go_num, trivial⟩
          case measure => simp [intOf]; omega
        · obtain rfl : j = 8 := by omega
          clear hj8
          have H8 : Hid (onN 8 (q ^^^ lowW z 8) = takeW q z) := by
            show _ = _
            unfold takeW lowW bW
            rw [Nat.mod_eq_of_lt (by omega)]
          go_wp2
          go_roundw
          case rel => exact ⟨k + 1, by omega, by rw [HT.out, H8.out], by go_num, trivial⟩
          case measure => simp [intOf]; omega
    · obtain rfl : k = zs.length := by omega
      have e1 : zs.take zs.length = zs := List.take_of_length_le (Nat.le_refl _)
      rw [e1]
      clear hlt e1
      go_wp2
      go_ret
      exact ⟨rfl, rfl⟩
end Go.Proofs.YtmojfdccobebfaaGreatDoor

namespace Go.Proofs.YtmojfdccobebfaaGreatDoor
open Go.RowKit
set_option linter.unusedVariables false
set_option linter.unusedSimpArgs false
set_option maxRecDepth 100000 in
set_option maxHeartbeats 400000 in
theorem rsum_any (a : Option Addr) (ps : List Part) (cap : Nat) (w : World) (hs : Parts w a ps) (hl : ps.length ≤ 9223372036854775807) :
    Calls Tryz.prog 30 #[.slice a ps.length cap] w fun e w' => e = .returned (.int .u32 (wI (sumW (flat ps)))) ∧ w' = w := by
  have hsg := u32_unsigned
  obtain ⟨o, ho⟩ : ∃ o : W32, o = ~~~ 0#32 := ⟨_, rfl⟩
  have z0 : (4294967295 : Int) = wI (runW o (flat (ps.take 0))) := by rw [ho]; simp [flat]; decide
  have HO : Hid (o = ~~~ 0#32) := ho
  clear ho
  go_enter Tryz.func30, Tryz.ntmps30
  go_wp2
  go_loopw [3, 4] (fun tr ti wr => ∃ k : Nat, k ≤ ps.length ∧ tr = .int .u32 (wI (runW o (flat (ps.take k)))) ∧ ti = .int .i64 k ∧ wr = w) (fun _ ti _ => ps.length - (intOf ti).toNat)
  case atStart => exact ⟨0, Nat.zero_le _, by rw [← z0], rfl, rfl⟩
  case round =>
    clear z0
    obtain ⟨k, hk, rfl, rfl, rfl⟩ := hrel
    by_cases hlt : k < ps.length
    · have hlti : (k : Int) < (ps.length : Int) := by omega
      obtain ⟨b, off, rfl, hc⟩ := hs.at_ k hlt
      have hsg := hs.seg k hlt
      have hln := hs.len k hlt
      have HT : Hid (runW (runW o (flat (ps.take k))) (ps.getD k noPart).zs = runW o (flat (ps.take (k + 1)))) := by
        show _ = _
        rw [flat_snoc hlt, runW_append]
      generalize ps.getD k noPart = p at *
      obtain ⟨pa, pz, pc⟩ := p
      unfold Part.val at hc
      simp only at hc hsg hln HT
      go_wp2_with (go_at_call 49; refine (run_any _ _ _ _ _ hsg hln).mono ?_; rintro e w' ⟨rfl, hw'⟩; subst w')
      go_roundw
      case rel => exact ⟨k + 1, by omega, by rw [HT.out], by go_num, trivial⟩
      case measure => simp [intOf]; omega
    · obtain rfl : k = ps.length := by omega
      have e1 : ps.take ps.length = ps := List.take_of_length_le (Nat.le_refl _)
      rw [e1]
      clear hlt e1
      have hn := wI_not (runW o (flat ps))
      go_wp2
      go_ret
      exact ⟨by unfold sumW; rw [← HO.out]; rfl, rfl⟩

/-- Each part owns its bytes. -/
def Owned (w : World) (base : Nat) (qs : List Part) : Prop := ∀ i, i < qs.length → w.ownsRow base 5 1 (qs.getD i noPart).val (qs.getD i noPart).zs.length ((qs.getD i noPart).zs.map (Value.int .u8))
/-- The sum of one part, the document's. -/
theorem rsum_one (w : World) (g n : Nat) (a : Option Addr) (zs : List Int) (cap c : Nat) (t : TypeId) (h : Seg w a zs) (hg : g = w.heap.size) (hn : n = zs.length) (hl : zs.length ≤ 9223372036854775807) :
    Calls Tryz.prog 30 #[.slice (some ⟨g, 0, none⟩) 1 c] (w.alloc (.cells #[.slice a n cap] t)) fun e w' => e = .returned (.int .u32 (wI (sumW zs))) ∧ w' = w.alloc (.cells #[.slice a n cap] t) := by
  refine (rsum_any (some ⟨g, 0, none⟩) [⟨a, zs, cap⟩] c _ (parts_one w g n a zs cap t h hg hn hl) (by simp)).mono ?_
  rintro e w' ⟨rfl, hw'⟩
  rw [flat_one]
  exact ⟨rfl, hw'⟩
end Go.Proofs.YtmojfdccobebfaaGreatDoor
