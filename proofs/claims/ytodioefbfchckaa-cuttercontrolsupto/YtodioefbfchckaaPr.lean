import Derived.Test.YtodioefbfchckaaPi
import Derived.Test.YtodioefbfchckaaProg
import Derived.Test.YtodioefbfchckaaPm
import Derived.Test.YtodioefbfchckaaPa
import Derived.WalkKit
import Derived.WalkSpells
import Derived.WalkLawsBesides
import Derived.Test.YtodioefbfchckaaPn
namespace Go.Proofs.Ytodioefbfchckaa
open Go.RowKit Go.Shelf
set_option linter.unusedVariables false

/-! The document's in, Sums. -/
set_option maxRecDepth 100000 in
theorem rin17 (x lo hi : Int) (w : World) : Calls Try.prog 41 #[.int .i64 x, .int .i64 lo, .int .i64 hi] w fun e w' => e = .returned (.bool (decide (lo ≤ x ∧ x ≤ hi))) ∧ w' = w := by
  by_cases h1 : lo ≤ x
  · by_cases h2 : x ≤ hi
    · rw [decide_eq_true ⟨h1, h2⟩]
      go_enter Try.func41, Try.ntmps41
      go_wp2
      go_ret
      exact ⟨rfl, rfl⟩
    · rw [decide_eq_false (by omega)]
      go_enter Try.func41, Try.ntmps41
      go_wp2
      go_ret
      exact ⟨rfl, rfl⟩
  · rw [decide_eq_false (by omega)]
    go_enter Try.func41, Try.ntmps41
    go_wp2
    go_ret
    exact ⟨rfl, rfl⟩
/-- The i-th step's numbers may be summed up. -/
def M17 (S : List St16) (i : Nat) : Prop := 0 ≤ (S.getD i z16).1 ∧ (S.getD i z16).1 ≤ 16777216 ∧ 0 ≤ (S.getD i z16).2.1 ∧ (S.getD i z16).2.1 ≤ 16777216 ∧ sa16 S (i + 1) ≤ 16777216 ∧ sc16 S (i + 1) ≤ 16777216
open Classical in
noncomputable def sms17 (S : List St16) (n : Nat) : Value := if (∀ i, i < n → M17 S i) then .tuple #[.int .i64 (sa16 S n : Int), .int .i64 (sc16 S n : Int), .bool true] else .tuple #[.int .i64 0, .int .i64 0, .bool false]
theorem sms17_ok {S : List St16} {n : Nat} (h : ∀ i, i < n → M17 S i) : sms17 S n = .tuple #[.int .i64 (sa16 S n : Int), .int .i64 (sc16 S n : Int), .bool true] := by unfold sms17; rw [if_pos h]
theorem sms17_no {S : List St16} {n : Nat} (h : ¬ ∀ i, i < n → M17 S i) : sms17 S n = .tuple #[.int .i64 0, .int .i64 0, .bool false] := by unfold sms17; rw [if_neg h]
set_option maxRecDepth 100000 in
set_option maxHeartbeats 4000000 in
theorem rsum17 (a : Option Addr) (n cap : Nat) (S : List St16) (w : World) (hs : SegS w a S) (hn : Hid (S.length = n)) (hl : n ≤ 5864062014805) :
    Calls Try.prog 46 #[.slice a n cap] w fun e w' => e = .returned (sms17 S n) ∧ Below w.heap.size w w' := by
  go_enter Try.func46, Try.ntmps46
  go_wp2_with fail
  go_loopw [5, 6, 11] (fun ta tc ti wr => ∃ i : Nat, i ≤ n ∧ ti = .int .i64 (i : Int) ∧ ta = .int .i64 (sa16 S i : Int) ∧ tc = .int .i64 (sc16 S i : Int) ∧ Hid (∀ j, j < i → M17 S j) ∧ (sa16 S i ≤ 16777216 ∧ sc16 S i ≤ 16777216) ∧ Below w.heap.size w wr) (fun _ _ ti _ => n - (intOf ti).toNat)
  case atStart => exact ⟨0, by omega, rfl, rfl, rfl, fun j hj => by omega, by simp [sa16, sc16], Below.refl _ _⟩
  case round =>
    obtain ⟨i, hi, rfl, rfl, rfl, HM, hb, BR⟩ := hrel
    by_cases hin : i < n
    · have hii : (i : Int) < (n : Int) := by omega
      have hi0 : (0 : Int) ≤ (i : Int) := by omega
      have hil : i < S.length := by rw [hn.out]; exact hin
      obtain ⟨b, off, rfl, hT⟩ := (hs.old BR).at_ i hil
      have c0 := hT.c0
      have c1 := hT.c1
      have c2 := hT.c2
      have HNO : Hid (¬ M17 S i → sms17 S n = .tuple #[.int .i64 0, .int .i64 0, .bool false]) := fun h => sms17_no (fun x => h (x i hin))
      have HME : Hid (M17 S i ↔ (0 ≤ (S.getD i z16).1 ∧ (S.getD i z16).1 ≤ 16777216 ∧ 0 ≤ (S.getD i z16).2.1 ∧ (S.getD i z16).2.1 ≤ 16777216 ∧ (sa16 S i : Int) + (S.getD i z16).1 ≤ 16777216 ∧ (sc16 S i : Int) + (S.getD i z16).2.1 ≤ 16777216)) := by
        unfold Hid M17
        simp only [sa16, sc16, ad16, cp16]
        constructor
        · rintro ⟨y1, y2, y3, y4, y5, y6⟩; exact ⟨y1, y2, y3, y4, by omega, by omega⟩
        · rintro ⟨y1, y2, y3, y4, y5, y6⟩; exact ⟨y1, y2, y3, y4, by omega, by omega⟩
      have HSU : Hid (M17 S i → ((sa16 S (i + 1) : Int) = (sa16 S i : Int) + (S.getD i z16).1 ∧ (sc16 S (i + 1) : Int) = (sc16 S i : Int) + (S.getD i z16).2.1) ∧ (sa16 S (i + 1) ≤ 16777216 ∧ sc16 S (i + 1) ≤ 16777216) ∧ (∀ j, j < i + 1 → M17 S j)) := fun h => by
        have h0 := h
        obtain ⟨y1, y2, y3, y4, y5, y6⟩ := h
        refine ⟨by simp only [sa16, sc16, ad16, cp16]; omega, ⟨y5, y6⟩, fun j hj => ?_⟩
        rcases Nat.lt_or_ge j i with z | z
        · exact HM.out j z
        · have : j = i := by omega
          subst this; exact h0
      generalize S.getD i z16 = s at *
      obtain ⟨A, C, K⟩ := s
      simp only at c0 c1 c2 HME HSU
      have hA0 : (0 : Int) ≤ (sa16 S i : Int) ∧ (sa16 S i : Int) ≤ 16777216 ∧ (0 : Int) ≤ (sc16 S i : Int) ∧ (sc16 S i : Int) ≤ 16777216 := by omega
      generalize (sa16 S i : Int) = d at *
      generalize (sc16 S i : Int) = x at *
      have hi1 := rin17 A 0 16777216
      have hi2 := rin17 C 0 16777216
      clear hT HM hb
      obtain ⟨wB, hwB⟩ : ∃ wB, wB = wr.alloc (.cells #[.int .i64 A, .int .i64 C, .int .i64 K] 77) := ⟨_, rfl⟩
      have HWB : Hid (wr.alloc (.cells #[.int .i64 A, .int .i64 C, .int .i64 K] 77) = wB) := hwB.symm
      have BB : Below w.heap.size w wB := by rw [hwB]; exact BR.trans ((below_box16 _ _).mono BR.size)
      rw [hwB] at BB
      clear hwB
      by_cases k1 : 0 ≤ A ∧ A ≤ 16777216
      · rw [decide_eq_true k1] at hi1
        by_cases k2 : 0 ≤ C ∧ C ≤ 16777216
        · rw [decide_eq_true k2] at hi2
          have w1 : IntKind.i64.wrap (d + A) = d + A := IntWalk.i64_in _ (by omega)
          have w2 : IntKind.i64.wrap (x + C) = x + C := IntWalk.i64_in _ (by omega)
          by_cases k3 : 16777216 < d + A
          · have HN : Hid (sms17 S n = .tuple #[.int .i64 0, .int .i64 0, .bool false]) := HNO.out (fun h => by have := HME.out.1 h; omega)
            go_wp2_with (first | (go_at_call 41; refine (hi1 _).mono ?_; rintro e1 w1 ⟨rfl, rfl⟩; clear hi1) | (go_at_call 41; refine (hi2 _).mono ?_; rintro e1 w1 ⟨rfl, rfl⟩; clear hi2))
            go_ret3
            exact ⟨by rw [HN.out]; rfl, BB⟩
          · by_cases k4 : 16777216 < x + C
            · have HN : Hid (sms17 S n = .tuple #[.int .i64 0, .int .i64 0, .bool false]) := HNO.out (fun h => by have := HME.out.1 h; omega)
              go_wp2_with (first | (go_at_call 41; refine (hi1 _).mono ?_; rintro e1 w1 ⟨rfl, rfl⟩; clear hi1) | (go_at_call 41; refine (hi2 _).mono ?_; rintro e1 w1 ⟨rfl, rfl⟩; clear hi2))
              go_ret3
              exact ⟨by rw [HN.out]; rfl, BB⟩
            · have HY : Hid (M17 S i) := HME.out.2 (by omega)
              go_wp2_with (first | (go_at_call 41; refine (hi1 _).mono ?_; rintro e1 w1 ⟨rfl, rfl⟩; clear hi1) | (go_at_call 41; refine (hi2 _).mono ?_; rintro e1 w1 ⟨rfl, rfl⟩; clear hi2))
              go_roundw
              case rel =>
                obtain ⟨y1, y2, y3⟩ := HSU.out HY.out
                exact ⟨i + 1, by omega, by simp, by rw [y1.1], by rw [y1.2], y3, y2, BB⟩
              case measure => simp [intOf]; omega
        · rw [decide_eq_false k2] at hi2
          have HN : Hid (sms17 S n = .tuple #[.int .i64 0, .int .i64 0, .bool false]) := HNO.out (fun h => by have := HME.out.1 h; omega)
          go_wp2_with (first | (go_at_call 41; refine (hi1 _).mono ?_; rintro e1 w1 ⟨rfl, rfl⟩; clear hi1) | (go_at_call 41; refine (hi2 _).mono ?_; rintro e1 w1 ⟨rfl, rfl⟩; clear hi2))
          go_ret3
          exact ⟨by rw [HN.out]; rfl, BB⟩
      · rw [decide_eq_false k1] at hi1
        have HN : Hid (sms17 S n = .tuple #[.int .i64 0, .int .i64 0, .bool false]) := HNO.out (fun h => by have := HME.out.1 h; omega)
        go_wp2_with (first | (go_at_call 41; refine (hi1 _).mono ?_; rintro e1 w1 ⟨rfl, rfl⟩; clear hi1))
        go_ret3
        exact ⟨by rw [HN.out]; rfl, BB⟩
    · have hk2 : i = n := by omega
      subst hk2
      have hneg : ¬ (i : Int) < (i : Int) := by omega
      have HY : Hid (sms17 S i = .tuple #[.int .i64 (sa16 S i : Int), .int .i64 (sc16 S i : Int), .bool true]) := sms17_ok HM.out
      clear HM hb
      go_wp2_with fail
      go_ret3
      exact ⟨by rw [HY.out]; rfl, BR⟩
end Go.Proofs.Ytodioefbfchckaa

namespace Go.Proofs.Ytodioefbfchckaa
open Go.RowKit
set_option linter.unusedVariables false

theorem info_u8r : (Try.prog.info? 5).map (fun i => (i.zero, i.size, i.bytes)) = some (some (.int .u8 0), 1, 1) := by kernel_rfl

set_option maxRecDepth 100000 in
set_option maxHeartbeats 1000000 in
theorem rbytes_any (x : Int) (w : World) (hx0 : 0 ≤ x) (hx1 : x ≤ 18446744073709551615) :
    Calls Try.prog 65 #[.int .u64 x] w fun e w' => ∃ v, e = .returned v ∧ w'.ownsRow w.heap.size 5 1 v (encI x).length ((encI x).map (Value.int .u8)) ∧ Below w.heap.size w w' := by
  obtain ⟨i0, hi, hz0, hz1, hz2⟩ := info_parts info_u8r
  go_enter Try.func65, Try.ntmps65
  go_wp2
  go_loopw [0, 3] (fun t o wr => ∃ (pre : List Int) (f : Nat) (u : Int), t = .int .u64 u ∧ wr.ownsRow w.heap.size 5 1 o pre.length (pre.map (Value.int .u8)) ∧ encI x = pre ++ encL f u ∧ pre.length + f = 9 ∧ 0 ≤ u ∧ u < 2 * 128 ^ f ∧ Below w.heap.size w wr) (fun t _ _ => (intOf t).toNat)
  case atStart => exact ⟨[], 9, x, rfl, World.ownsRow_nil _ _ _ _, rfl, rfl, hx0, by rw [pow9]; omega, Below.refl _ _⟩
  case round =>
    obtain ⟨pre, f, u, rfl, hown2, he, hf, hu0, hu1, hb2⟩ := hrel
    have hu2 : u ≤ 18446744073709551615 := by
      have h9 : (128 : Int) ^ f ≤ 128 ^ 9 := pow128_mono (by omega)
      have := pow9
      omega
    have hszr := hb2.size
    by_cases h7 : 127 < u
    · obtain ⟨f, rfl⟩ : ∃ g, f = g + 1 := ⟨f - 1, by
        cases f with
        | zero => simp at hu1; omega
        | succ f => rfl⟩
      have h8 : 128 ≤ u := by omega
      have HN : Hid (encI x = (pre ++ [u % 128 + 128]) ++ encL f (u / 128)) := by
        show encI x = _
        rw [he]; simp only [encL, if_pos h7, List.append_assoc, List.singleton_append]
      have hu3 : u / 128 < 2 * 128 ^ f := by rw [Int.pow_succ] at hu1; omega
      clear he h7
      go_wp2_with (at_builtin; refine wpList_push rfl _ _ 23 rfl w.heap.size 5 i0 (.int .u8 0) 1 Try.underlying23 hi hz0 hz1 hz2 rfl wr (.int .u8 (u % 128 + 128)) rfl hown2 rfl rfl (by omega) (by omega) hszr ?_; intro v' w2 hown3 hg3 hb3)
      go_roundw
      case rel => exact ⟨pre ++ [u % 128 + 128], f, u / 128, rfl, by simpa using hown3, HN.out, by simp; omega, by omega, hu3, hb2.trans hb3⟩
      case measure => simp [intOf]; omega
    · have h8 : u < 128 := by omega
      have HN : Hid (encI x = pre ++ [u]) := by
        show encI x = _
        rw [he]
        cases f <;> simp [encL, h7]
      clear he h7
      go_wp2_with (at_builtin; refine wpList_push rfl _ _ 23 rfl w.heap.size 5 i0 (.int .u8 0) 1 Try.underlying23 hi hz0 hz1 hz2 rfl wr (.int .u8 u) rfl hown2 rfl rfl (by omega) (by omega) hszr ?_; intro v' w2 hown3 hg3 hb3)
      go_ret
      exact ⟨_, rfl, by rw [HN.out]; simpa using hown3, hb2.trans hb3⟩

set_option maxRecDepth 100000 in
set_option maxHeartbeats 1000000 in
theorem rencode_any (a : Option Addr) (zs : List Int) (cap : Nat) (w : World) (hs : Seg64 w a zs) (hl : zs.length ≤ 8796093022208) :
    Calls Try.prog 51 #[.slice a zs.length cap] w fun e w' => ∃ v, e = .returned v ∧ w'.ownsRow w.heap.size 5 1 v (encA zs).length ((encA zs).map (Value.int .u8)) ∧ Below w.heap.size w w' := by
  obtain ⟨i0, hi, hz0, hz1, hz2⟩ := info_parts info_u8r
  go_enter Try.func51, Try.ntmps51
  go_wp2
  go_loopw [3, 8] (fun o i wr => ∃ k : Nat, k ≤ zs.length ∧ i = .int .i64 k ∧ wr.ownsRow w.heap.size 5 1 o (encA (zs.take k)).length ((encA (zs.take k)).map (Value.int .u8)) ∧ Below w.heap.size w wr) (fun _ i _ => zs.length - (intOf i).toNat)
  case atStart => exact ⟨0, Nat.zero_le _, rfl, World.ownsRow_nil _ _ _ _, Below.refl _ _⟩
  case round =>
    obtain ⟨k, hk, rfl, hown, hb⟩ := hrel
    have hle := encA_take_len zs k
    by_cases hlt : k < zs.length
    · have hsr := hs.old hb
      obtain ⟨b, off, rfl, hcell⟩ := hsr.at_ k hlt
      have hx := hs.bd k
      have HT : Hid (encA (zs.take (k + 1)) = encA (zs.take k) ++ encI (zs.getD k 0)) := encA_take zs k hlt
      have hlen := encI_len (zs.getD k 0)
      have hszr := hb.size
      have hbd := encI_bd (zs.getD k 0) hx.1 hx.2
      generalize zs.getD k 0 = x at *
      generalize encA (zs.take k) = E at *
      go_wp2_with fail
      refine (rbytes_any x _ hx.1 hx.2).mono ?_
      rintro e w1 ⟨v1, rfl, hown1, hb1⟩
      obtain ⟨_, a1, c1, rfl, hseg1, hblk, hc1, _⟩ := own_seg hown1 (M := 255) (by decide) hbd
      have hn1 : a1 = none → c1 = 0 := by
        intro e
        subst e
        rcases hown1.2 with ⟨h0, _⟩ | ⟨g, cp, cur, h0, _⟩
        · simp at h0; exact h0.2
        · simp at h0
      have hownA := own_below hown hb1
      have hz1' := hb1.size
      clear hown1 hblk hsr hcell
      go_wp2_with (at_builtin; refine wpList_append_seg rfl _ _ 23 rfl w.heap.size 5 i0 (.int .u8 0) 1 Try.underlying23 hi hz0 hz1 hz2 rfl hownA hseg1 hn1 rfl rfl (by omega) (by omega) (by omega) ?_; intro v2 w2 hown2 hg2 hb2)
      go_roundw
      case rel => exact ⟨k + 1, by omega, by go_num, by rw [HT.out]; simpa using hown2, hb.trans ((hb1.mono hszr).trans hb2)⟩
      case measure => simp [intOf]; omega
    · obtain rfl : k = zs.length := by omega
      have HT : Hid (zs.take zs.length = zs) := List.take_length
      rw [HT.out] at hown
      clear hle hlt
      go_wp2
      go_ret
      exact ⟨_, rfl, hown, hb⟩
end Go.Proofs.Ytodioefbfchckaa

namespace Go.Proofs.Ytodioefbfchckaa
open Go.RowKit Go.Shelf
set_option linter.unusedVariables false

/-! The document's Control. -/
theorem seg3_17 {W : World} {b : Nat} {t : TypeId} {x y z : Int} (h : W.heap[b]? = some (.cells #[.int .u64 x, .int .u64 y, .int .u64 z] t (0, 0))) (hx : 0 ≤ x ∧ x ≤ 18446744073709551615) (hy : 0 ≤ y ∧ y ≤ 18446744073709551615) (hz : 0 ≤ z ∧ z ≤ 18446744073709551615) : Seg64 W (some ⟨b, 0, none⟩) [x, y, z] := by
  refine ⟨fun i hi => ⟨b, 0, rfl, ?_⟩, by decide, getD_bd (by decide) ?_⟩
  · match i, hi with
    | 0, _ => exact three_cell0 h
    | 1, _ => exact three_cell1 h
    | 2, _ => exact three_cell2 h
  · intro u hu
    simp only [List.mem_cons, List.not_mem_nil, or_false] at hu
    rcases hu with rfl | rfl | rfl
    · exact hx
    · exact hy
    · exact hz
/-- A row of bytes behind another. -/
theorem appe17 (V : World) {base base2 : Nat} {v v2 : Value} {n m : Nat} {xs : List Value} {ys : List Int} (hown : V.ownsRow base 5 1 v n xs) (h2 : V.ownsRow base2 5 1 v2 m (ys.map (Value.int .u8))) (hm : 0 < m) (hn : n + m ≤ 140737488355328) (hbase : base ≤ V.heap.size) :
    ∃ g rc w', (Builtin.append_ #[23, 23] 23 #[v, v2]).run Try.prog V = .ok (.slice (some ⟨g, 0, none⟩) (n + m) rc) w' ∧
      w'.ownsRow base 5 1 (.slice (some ⟨g, 0, none⟩) (n + m) rc) (n + m) (xs ++ ys.map (Value.int .u8)) ∧ Kp (fun k => v.ownBlock = some k) V w' := by
  obtain ⟨i0, hi, hz0, hz1, hz2⟩ := info_parts info_u16
  rcases h2.2 with ⟨_, h0⟩ | ⟨g2, cp, cur, hv, _⟩
  · omega
  subst hv
  have hl : ys.length = m := by simpa using h2.1
  obtain ⟨g, rc, w', hr, h1, h3, _, _⟩ := run_append_lies (P := Try.prog) V 23 23 base 5 i0 _ 1 1 Try.underlying23 hi hz0 hz1 hz2 rfl (by omega) v n xs hown ⟨g2, 0, none⟩ m cp (ys.map (Value.int .u8)) (by simp [hl])
    (fun j u hu => h2.cells (g := g2) rfl j u hu) (ints_oneCell _ _) hm (by unfold maxLen; omega) (by omega) hbase V.heap.size rfl
  exact ⟨g, rc, w', hr, h1, Kp.grown (S := fun k => v.ownBlock = some k) h3 (fun i e => e)⟩
theorem rin17_t {x lo hi : Int} (h : lo ≤ x ∧ x ≤ hi) (w : World) : Calls Try.prog 41 #[.int .i64 x, .int .i64 lo, .int .i64 hi] w fun e w' => e = .returned (.bool true) ∧ w' = w := by
  have := rin17 x lo hi w
  rwa [decide_eq_true h] at this
theorem rin17_f {x lo hi : Int} (h : ¬ (lo ≤ x ∧ x ≤ hi)) (w : World) : Calls Try.prog 41 #[.int .i64 x, .int .i64 lo, .int .i64 hi] w fun e w' => e = .returned (.bool false) ∧ w' = w := by
  have := rin17 x lo hi w
  rwa [decide_eq_false h] at this
set_option maxRecDepth 100000 in
set_option maxHeartbeats 8000000 in
theorem rctl17 (a : Option Addr) (n cap : Nat) (S : List St16) (w : World) (hs : SegS w a S) (hn : Hid (S.length = n)) (hl : n ≤ 2932031007402) :
    Calls Try.prog 21 #[.slice a n cap] w (CnQ17 w S) := by
  go_enter Try.func21, Try.ntmps21
  go_wp2_with fail
  go_loopw [4, 9] (fun t4 t9 wr => ∃ i : Nat, i ≤ n ∧ t9 = .int .i64 (i : Int) ∧ wr.ownsRow w.heap.size 5 1 t4 (encA (nm17 (S.take i))).length ((encA (nm17 (S.take i))).map (Value.int .u8)) ∧ (∀ s ∈ S.take i, cok17 s = true) ∧ Below w.heap.size w wr) (fun _ t9 _ => n - (intOf t9).toNat)
  case atStart => exact ⟨0, Nat.zero_le _, rfl, ⟨rfl, .inl ⟨rfl, rfl⟩⟩, by simp, Below.refl _ _⟩
  case round =>
    obtain ⟨i, hin0, rfl, own, hok, BR⟩ := hrel
    by_cases hin : i < n
    · have hii : (i : Int) < (n : Int) := by omega
      have hi0 : (0 : Int) ≤ (i : Int) := by omega
      have hil : i < S.length := by rw [hn.out]; exact hin
      obtain ⟨b, off, rfl, hT⟩ := (hs.old BR).at_ i hil
      have c0 := hT.c0
      have c1 := hT.c1
      have c2 := hT.c2
      have HNO : Hid (¬ cok17 (S.getD i z16) = true → ∀ w', Below w.heap.size w w' → CnQ17 w S (.returned (.tuple #[.slice none 0 0, .int .i64 171])) w') := fun hm w' hb => cnq17_no hil hm hb
      have hget : S.getD i z16 = S[i] := by simp [List.getD, hil]
      have HTK : Hid (encA (nm17 (S.take (i + 1))) = encA (nm17 (S.take i)) ++ encA [(S.getD i z16).1, (S.getD i z16).2.1, zigI (S.getD i z16).2.2]) := by
        show _ = _
        rw [List.take_succ_eq_append_getElem hil, nm17_app, encA_append, hget]; rfl
      have HOK : Hid (cok17 (S.getD i z16) = true → ∀ s ∈ S.take (i + 1), cok17 s = true) := fun hm s hs => by
        rw [List.take_succ_eq_append_getElem hil, ← hget] at hs
        rcases List.mem_append.1 hs with h | h
        · exact hok s h
        · rw [List.mem_singleton.1 h]; exact hm
      have hLl : (encA (nm17 (S.take i))).length ≤ 30 * i := by
        have h1 := (encA_len (nm17 (S.take i))).2
        rw [nm17_len, List.length_take] at h1
        have : min i S.length ≤ i := Nat.min_le_left _ _
        omega
      clear hget hT hok
      generalize S.getD i z16 = s at *
      obtain ⟨A, C, K⟩ := s
      have hiff := cok17_iff (A, C, K)
      simp only at c0 c1 c2 HTK hiff
      have HIF : Hid (cok17 (A, C, K) = true ↔ ((0 ≤ A ∧ A ≤ 65536) ∧ (0 ≤ C ∧ C ≤ 65536) ∧ -16777216 ≤ K ∧ K ≤ 16777216)) := hiff
      have HBX : Hid (Below w.heap.size w (wr.alloc (.cells #[.int .i64 A, .int .i64 C, .int .i64 K] 77))) := BR.trans ((below_box16 _ _).mono BR.size)
      clear hiff
      by_cases hA : 0 ≤ A ∧ A ≤ 65536
      · have ia := fun V => rin17_t hA V
        by_cases hC : 0 ≤ C ∧ C ≤ 65536
        · have ic := fun V => rin17_t hC V
          by_cases hKK : -16777216 ≤ K ∧ K ≤ 16777216
          · have ik := fun V => rin17_t hKK V
            obtain ⟨p, cc, hv⟩ := own_sl17 own
            subst hv
            have hokk : cok17 (A, C, K) = true := HIF.out.2 ⟨hA, hC, hKK⟩
            have HO2 : Hid (∀ s ∈ S.take (i + 1), cok17 s = true) := HOK.out hokk
            obtain ⟨wB, hwB⟩ : ∃ wB, wB = wr.alloc (.cells #[.int .i64 A, .int .i64 C, .int .i64 K] 77) := ⟨_, rfl⟩
            obtain ⟨bs, hbs⟩ : ∃ bs, bs = wr.heap.size := ⟨_, rfl⟩
            have cB : Cb16 wr #[.int .i64 A, .int .i64 C, .int .i64 K] 77 wB := by rw [hwB]; exact cb16 _ _ _
            have BB : Below w.heap.size w wB := BR.trans (cB.bl.mono BR.size)
            have qB : wB.heap[bs]? = some (.cells #[.int .i64 A, .int .i64 C, .int .i64 K] 77 (0, 0)) := by rw [hbs]; exact cB.cl
            have hbz : bs < wB.heap.size := by rw [hbs, cB.sz]; omega
            obtain ⟨E, hE⟩ : ∃ E, E = encA (nm17 (S.take i)) := ⟨_, rfl⟩
            obtain ⟨F, hF⟩ : ∃ F, F = encA [A, C, zigI K] := ⟨_, rfl⟩
            obtain ⟨L, hL⟩ : ∃ L, L = E.length := ⟨_, rfl⟩
            rw [← hE, ← hF] at HTK
            rw [← hE, ← hL] at own hLl
            have zb := zig_bd K (by omega) (by omega)
            have hFl := encA_len [A, C, zigI K]
            rw [← hF] at hFl
            simp only [List.length_cons, List.length_nil] at hFl
            have hne : ¬ (Value.slice p L cc).ownBlock = some bs := fun e => by have := (own.lt bs e).2; omega
            have HW : Hid (∀ V, Below wB.heap.size wB V → V.ownsRow w.heap.size 5 1 (.slice p L cc) L (E.map (Value.int .u8))) := fun V hV => own_kp own (Kp.of_below (S := fun _ => False) (cB.bl.trans (hV.mono cB.bl.size))) (fun _ _ x => x)
            have HSS : Hid (∀ W : World, W.heap[bs]? = some (.cells #[.int .i64 A, .int .i64 C, .int .i64 K] 77 (0, 0)) → W.cell? ⟨bs, 0, none⟩ = some (.int .i64 A) ∧ W.cell? ⟨bs, 1, none⟩ = some (.int .i64 C) ∧ W.cell? ⟨bs, 2, none⟩ = some (.int .i64 K)) := fun W h => ⟨three_cell0 h, three_cell1 h, three_cell2 h⟩
            have HS : Hid (∀ V, Below wB.heap.size wB V → V.heap[bs]? = some (.cells #[.int .i64 A, .int .i64 C, .int .i64 K] 77 (0, 0))) := fun V hV => (hV.block bs hbz).trans qB
            have HS0 := HSS.out wB.drew qB
            have BX : ∀ o, Below wB.heap.size wB (wB.alloc o).drew := fun o => ((Below.refl _ _).alloc (Nat.le_refl _) o).drew
            have HS1 : Hid (∀ o, (wB.alloc o).drew.cell? ⟨bs, 0, none⟩ = some (.int .i64 A) ∧ (wB.alloc o).drew.cell? ⟨bs, 1, none⟩ = some (.int .i64 C) ∧ (wB.alloc o).drew.cell? ⟨bs, 2, none⟩ = some (.int .i64 K)) := fun o => HSS.out _ (HS.out _ (BX o))
            have HSV : Hid (∀ V, Below wB.heap.size wB V → V.cell? ⟨bs, 0, none⟩ = some (.int .i64 A) ∧ V.cell? ⟨bs, 1, none⟩ = some (.int .i64 C) ∧ V.cell? ⟨bs, 2, none⟩ = some (.int .i64 K)) := fun V hV => HSS.out _ (HS.out _ hV)
            have HEN : Hid (Calls Try.prog 51 #[.slice (some ⟨wB.heap.size, 0, none⟩) 3 3] (wB.alloc (.cells #[.int .u64 A, .int .u64 C, .int .u64 (zigI K)] 73)).drew fun e w' => ∃ v, e = .returned v ∧ w'.ownsRow w.heap.size 5 1 v F.length (F.map (Value.int .u8)) ∧ Below wB.heap.size wB w') := by
              have hc := rencode_any (some ⟨wB.heap.size, 0, none⟩) [A, C, zigI K] 3 (wB.alloc (.cells #[.int .u64 A, .int .u64 C, .int .u64 (zigI K)] 73)).drew (seg3_17 (heap_alloc_new wB (.cells #[.int .u64 A, .int .u64 C, .int .u64 (zigI K)] 73 (0, 0))) (by omega) (by omega) zb) (by simp)
              rw [← hF] at hc
              refine Calls.mono hc ?_
              rintro e w' ⟨v, h1, h2, h3⟩
              have hbx := BX (.cells #[.int .u64 A, .int .u64 C, .int .u64 (zigI K)] 73)
              exact ⟨v, h1, own_base h2 (Nat.le_trans BB.size hbx.size), hbx.trans (h3.mono hbx.size)⟩
            have HAP : Hid (∀ V v2, Below wB.heap.size wB V → V.ownsRow w.heap.size 5 1 v2 F.length (F.map (Value.int .u8)) → ∃ g rc w', (Builtin.append_ #[23, 23] 23 #[.slice p L cc, v2]).run Try.prog V = .ok (.slice (some ⟨g, 0, none⟩) (L + F.length) rc) w' ∧ w'.ownsRow w.heap.size 5 1 (.slice (some ⟨g, 0, none⟩) (L + F.length) rc) (L + F.length) ((E ++ F).map (Value.int .u8)) ∧ Below w.heap.size w w' ∧ w'.cell? ⟨bs, 0, none⟩ = some (.int .i64 A) ∧ w'.cell? ⟨bs, 1, none⟩ = some (.int .i64 C) ∧ w'.cell? ⟨bs, 2, none⟩ = some (.int .i64 K)) := fun V v2 hV h2 => by
              obtain ⟨g, rc, w', hr, ow, k1⟩ := appe17 V (HW.out V hV) h2 (by omega) (by omega) (Nat.le_trans BB.size hV.size)
              exact ⟨g, rc, w', hr, by rw [List.map_append]; exact ow, (BB.trans (hV.mono BB.size)).trans (k1.below (fun k x => (own.lt k x).1) (Nat.le_trans BB.size hV.size)), HSS.out _ (k1.heap (HS.out V hV) hne)⟩
            have HFI : Hid (∀ (g rc : Nat) (w' : World), w'.ownsRow w.heap.size 5 1 (.slice (some ⟨g, 0, none⟩) (L + F.length) rc) (L + F.length) ((E ++ F).map (Value.int .u8)) → w'.ownsRow w.heap.size 5 1 (.slice (some ⟨g, 0, none⟩) (L + F.length) rc) (encA (nm17 (S.take (i + 1)))).length ((encA (nm17 (S.take (i + 1)))).map (Value.int .u8))) := fun g rc w' h => by
              rw [HTK.out, List.length_append, ← hL]; exact h
            have HWB : Hid (wr.alloc (.cells #[.int .i64 A, .int .i64 C, .int .i64 K] 77) = wB) := hwB.symm
            have HBS : Hid (wr.heap.size = bs) := hbs.symm
            have hwA : IntKind.u64.wrap A = A := IntWalk.u64_in _ (by omega)
            have hwC : IntKind.u64.wrap C = C := IntWalk.u64_in _ (by omega)
            have HZ : Hid (∀ V, Calls Try.prog 52 #[.int .i64 K] V fun e w' => e = .returned (.int .u64 (zigI K)) ∧ w' = V) := fun V => refzig_any K V (by omega) (by omega)
            rw [← hE, ← hL]
            clear HNO HIF HBX HTK HOK own BR hs hokk hwB hbs cB BB qB hne HSS HS HW BX hE hF hFl zb hbz hLl hL
            generalize F.length = lF at *
            go_wp2_with fail
            refine (ia _).mono ?_
            rintro e w' ⟨rfl, hw'⟩
            subst w'
            go_wp2_with fail
            refine (ic _).mono ?_
            rintro e w' ⟨rfl, hw'⟩
            subst w'
            go_wp2_with fail
            refine (ik _).mono ?_
            rintro e w' ⟨rfl, hw'⟩
            subst w'
            go_wp2_with fail
            rw [HWB.out, HBS.out]
            clear c0 c1 c2 ia ic ik
            refine plain_region16 (fun V => V.cell? ⟨bs, 0, none⟩ = some (.int .i64 A) ∧ V.cell? ⟨bs, 1, none⟩ = some (.int .i64 C) ∧ V.cell? ⟨bs, 2, none⟩ = some (.int .i64 K)) 14 (by kernel_rfl) HS0 (fun hHeld => ?_)
            refine wpAnyK_take (i := 0) (v := .slice p L cc) rfl (by kernel_rfl) (by kernel_rfl) (by kernel_rfl) (by kernel_rfl) (fun _ _ _ h => h) (Or.inl ⟨by rfl, fun w hSw => by go_simp⟩) hHeld ?_
            simp only [List.getElem_toArray, List.getElem_cons_zero, Act.put, List.setIfInBounds_toArray, List.set_cons_zero, List.set_cons_succ]
            refine wpAnyK_take (i := 1) (v := .pointer (some ⟨bs, 0, none⟩)) rfl (by kernel_rfl) (by kernel_rfl) (by kernel_rfl) (by kernel_rfl) (fun _ _ _ h => h) (Or.inl ⟨by rfl, fun w hSw => by go_simp⟩) hHeld ?_
            simp only [List.getElem_toArray, List.getElem_cons_zero, List.getElem_cons_succ, Act.put, List.setIfInBounds_toArray, List.set_cons_zero, List.set_cons_succ]
            refine wpAnyK_take (i := 2) (v := .int .i64 A) rfl (by kernel_rfl) (by kernel_rfl) (by kernel_rfl) (by kernel_rfl) (fun _ _ _ h => h) (Or.inl ⟨by rfl, fun w hSw => by go_simp⟩) hHeld ?_
            simp only [List.getElem_toArray, List.getElem_cons_zero, List.getElem_cons_succ, Act.put, List.setIfInBounds_toArray, List.set_cons_zero, List.set_cons_succ]
            refine wpAnyK_take (i := 3) (v := .int .u64 A) rfl (by kernel_rfl) (by kernel_rfl) (by kernel_rfl) (by kernel_rfl) (fun _ _ _ h => h) (Or.inl ⟨by rfl, fun w hSw => by go_simp⟩) hHeld ?_
            simp only [List.getElem_toArray, List.getElem_cons_zero, List.getElem_cons_succ, Act.put, List.setIfInBounds_toArray, List.set_cons_zero, List.set_cons_succ]
            refine wpAnyK_take (i := 4) (v := .pointer (some ⟨bs, 1, none⟩)) rfl (by kernel_rfl) (by kernel_rfl) (by kernel_rfl) (by kernel_rfl) (fun _ _ _ h => h) (Or.inl ⟨by rfl, fun w hSw => by go_simp⟩) hHeld ?_
            simp only [List.getElem_toArray, List.getElem_cons_zero, List.getElem_cons_succ, Act.put, List.setIfInBounds_toArray, List.set_cons_zero, List.set_cons_succ]
            refine wpAnyK_take (i := 5) (v := .int .i64 C) rfl (by kernel_rfl) (by kernel_rfl) (by kernel_rfl) (by kernel_rfl) (fun _ _ _ h => h) (Or.inl ⟨by rfl, fun w hSw => by go_simp⟩) hHeld ?_
            simp only [List.getElem_toArray, List.getElem_cons_zero, List.getElem_cons_succ, Act.put, List.setIfInBounds_toArray, List.set_cons_zero, List.set_cons_succ]
            refine wpAnyK_take (i := 6) (v := .int .u64 C) rfl (by kernel_rfl) (by kernel_rfl) (by kernel_rfl) (by kernel_rfl) (fun _ _ _ h => h) (Or.inl ⟨by rfl, fun w hSw => by go_simp⟩) hHeld ?_
            simp only [List.getElem_toArray, List.getElem_cons_zero, List.getElem_cons_succ, Act.put, List.setIfInBounds_toArray, List.set_cons_zero, List.set_cons_succ]
            refine wpAnyK_take (i := 7) (v := .pointer (some ⟨bs, 2, none⟩)) rfl (by kernel_rfl) (by kernel_rfl) (by kernel_rfl) (by kernel_rfl) (fun _ _ _ h => h) (Or.inl ⟨by rfl, fun w hSw => by go_simp⟩) hHeld ?_
            simp only [List.getElem_toArray, List.getElem_cons_zero, List.getElem_cons_succ, Act.put, List.setIfInBounds_toArray, List.set_cons_zero, List.set_cons_succ]
            refine wpAnyK_take (i := 8) (v := .int .i64 K) rfl (by kernel_rfl) (by kernel_rfl) (by kernel_rfl) (by kernel_rfl) (fun _ _ _ h => h) (Or.inl ⟨by rfl, fun w hSw => by go_simp⟩) hHeld ?_
            simp only [List.getElem_toArray, List.getElem_cons_zero, List.getElem_cons_succ, Act.put, List.setIfInBounds_toArray, List.set_cons_zero, List.set_cons_succ]
            refine wpAnyK_one (i := 9) (by kernel_rfl) rfl (fun K hK => ?_)
            (try simp only [List.getElem_toArray, List.getElem_cons_zero, List.getElem_cons_succ, Act.put, List.setIfInBounds_toArray, List.set_cons_zero, List.set_cons_succ])
            go_simp
            refine (HZ.out _).mono ?_
            rintro e9 w9 ⟨rfl, rfl⟩
            refine hK.out _ _ (fun _ => HS0) (fun hHeld0 => ?_)
            have hHeld := hHeld0 (by decide)
            clear hHeld0 hK K
            (try simp only [List.getElem_toArray, List.getElem_cons_zero, List.getElem_cons_succ, Act.put, List.setIfInBounds_toArray, List.set_cons_zero, List.set_cons_succ])
            refine wpAnyK_one (i := 10) (by kernel_rfl) rfl (fun K hK => ?_)
            (try simp only [List.getElem_toArray, List.getElem_cons_zero, List.getElem_cons_succ, Act.put, List.setIfInBounds_toArray, List.set_cons_zero, List.set_cons_succ])
            go_simp
            refine hK.out _ _ (fun _ => HS1.out _) (fun hHeld0 => ?_)
            have hHeld := hHeld0 (by decide)
            clear hHeld0 hK K
            (try simp only [List.getElem_toArray, List.getElem_cons_zero, List.getElem_cons_succ, Act.put, List.setIfInBounds_toArray, List.set_cons_zero, List.set_cons_succ])
            refine wpAnyK_one (i := 11) (by kernel_rfl) rfl (fun K hK => ?_)
            (try simp only [List.getElem_toArray, List.getElem_cons_zero, List.getElem_cons_succ, Act.put, List.setIfInBounds_toArray, List.set_cons_zero, List.set_cons_succ])
            go_simp
            refine HEN.out.mono ?_
            rintro e9 w9 ⟨v2, rfl, o2, b2⟩
            obtain ⟨g, rc, w', hr, o3, b3, hS3⟩ := HAP.out w9 v2 b2 o2
            refine hK.out _ _ (fun _ => HSV.out _ b2) (fun hHeld0 => ?_)
            have hHeld := hHeld0 (by decide)
            clear hHeld0 hK K
            (try simp only [List.getElem_toArray, List.getElem_cons_zero, List.getElem_cons_succ, Act.put, List.setIfInBounds_toArray, List.set_cons_zero, List.set_cons_succ])
            refine wpAnyK_one (i := 12) (by kernel_rfl) rfl (fun K0 hK => ?_)
            simp only [List.getElem_toArray, List.getElem_cons_zero, List.getElem_cons_succ]
            rw [if_pos (by rfl)]
            refine operwp_app16 _ _ _ rfl rfl rfl hr ?_
            refine hK.out _ _ (fun _ => hS3) (fun hHeld0 => ?_)
            have hHeld := hHeld0 (by decide)
            clear hHeld0 hK K0
            simp only [Act.put, List.setIfInBounds_toArray, List.set_cons_zero, List.set_cons_succ]
            refine wpAnyK_one (i := 13) (by kernel_rfl) rfl (fun K0 hK => ?_)
            (try simp only [List.getElem_toArray, List.getElem_cons_zero, List.getElem_cons_succ, Act.put, List.setIfInBounds_toArray, List.set_cons_zero, List.set_cons_succ])
            go_simp
            refine hK.out _ _ (fun _ => hS3) (fun hHeld0 => ?_)
            clear hHeld0 hK K0
            (try simp only [List.getElem_toArray, List.getElem_cons_zero, List.getElem_cons_succ, Act.put, List.setIfInBounds_toArray, List.set_cons_zero, List.set_cons_succ])
            refine wpAnyK_done (by kernel_rfl) ?_ _
            have HO := HFI.out _ _ _ o3
            clear o2 o3 hr hS3 HFI HAP HEN
            have HO : Hid _ := HO
            go_wp2_with fail
            go_roundw
            case rel => exact ⟨i + 1, by omega, by simp, HO.out, HO2.out, b3⟩
            case measure => simp [intOf]; omega
          · have ik := fun V => rin17_f hKK V
            have HQ : Hid (CnQ17 w S (.returned (.tuple #[.slice none 0 0, .int .i64 171])) (wr.alloc (.cells #[.int .i64 A, .int .i64 C, .int .i64 K] 77))) := HNO.out (fun h => by have := HIF.out.1 h; omega) _ HBX.out
            clear HNO HIF HBX HTK HOK own BR hs hA hC hKK hLl
            go_wp2_with fail
            refine (ia _).mono ?_
            rintro e w' ⟨rfl, hw'⟩
            subst w'
            go_wp2_with fail
            refine (ic _).mono ?_
            rintro e w' ⟨rfl, hw'⟩
            subst w'
            go_wp2_with fail
            refine (ik _).mono ?_
            rintro e w' ⟨rfl, hw'⟩
            subst w'
            go_wp2_with fail
            go_ret2
            exact HQ.out
        · have ic := fun V => rin17_f hC V
          have HQ : Hid (CnQ17 w S (.returned (.tuple #[.slice none 0 0, .int .i64 171])) (wr.alloc (.cells #[.int .i64 A, .int .i64 C, .int .i64 K] 77))) := HNO.out (fun h => by have := HIF.out.1 h; omega) _ HBX.out
          clear HNO HIF HBX HTK HOK own BR hs hA hC hLl
          go_wp2_with fail
          refine (ia _).mono ?_
          rintro e w' ⟨rfl, hw'⟩
          subst w'
          go_wp2_with fail
          refine (ic _).mono ?_
          rintro e w' ⟨rfl, hw'⟩
          subst w'
          go_wp2_with fail
          go_ret2
          exact HQ.out
      · have ia := fun V => rin17_f hA V
        have HQ : Hid (CnQ17 w S (.returned (.tuple #[.slice none 0 0, .int .i64 171])) (wr.alloc (.cells #[.int .i64 A, .int .i64 C, .int .i64 K] 77))) := HNO.out (fun h => by have := HIF.out.1 h; omega) _ HBX.out
        clear HNO HIF HBX HTK HOK own BR hs hA hLl
        go_wp2_with fail
        refine (ia _).mono ?_
        rintro e w' ⟨rfl, hw'⟩
        subst w'
        go_wp2_with fail
        go_ret2
        exact HQ.out
    · have hk2 : i = n := by omega
      subst hk2
      have hneg : ¬ (i : Int) < (i : Int) := by omega
      have h2 : S.take i = S := by rw [← hn.out, List.take_length]
      rw [h2] at own hok
      have HOK : Hid (S.all cok17 = true) := List.all_eq_true.2 hok
      obtain ⟨p, cc, hv⟩ := own_sl17 own
      subst hv
      obtain ⟨L, hL⟩ : ∃ L, L = (encA (nm17 S)).length := ⟨_, rfl⟩
      have HQ : Hid (CnQ17 w S (.returned (.tuple #[.slice p L cc, .int .i64 0])) wr) := by
        have h := HOK.out
        refine ⟨_, by unfold ce17; rw [if_pos h], ?_, BR⟩
        unfold cn17
        rw [if_pos h, hL]
        exact own
      rw [← hL]
      clear own h2 hok BR hs hL
      go_wp2_with fail
      go_ret2
      exact HQ.out
end Go.Proofs.Ytodioefbfchckaa
