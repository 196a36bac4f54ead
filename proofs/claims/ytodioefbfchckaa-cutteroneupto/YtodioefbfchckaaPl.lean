import Derived.Test.YtodioefbfchckaaProg
import Derived.Test.YtodioefbfchckaaPk
import Derived.Test.YtodioefbfchckaaPa
import Derived.WalkKit
import Derived.WalkSpells
import Derived.WalkLawsBesides
import Derived.Laws.BitsAllLaws
namespace Go.Proofs.Ytodioefbfchckaa
open Go.RowKit
set_option linter.unusedVariables false

set_option maxRecDepth 100000 in
set_option maxHeartbeats 400000 in
theorem size_any (a : Option Addr) (zs : List Int) (cap : Nat) (w : World) (hs : Seg64 w a zs) (hl : zs.length ≤ 17592186044416) :
    Calls Try.prog 64 #[.slice a zs.length cap] w fun e w' => e = .returned (.int .i64 (encA zs).length) ∧ w' = w := by
  go_enter Try.func64, Try.ntmps64
  go_wp2
  go_loop [3, 8] (fun n i => ∃ k : Nat, k ≤ zs.length ∧ i = .int .i64 k ∧ n = .int .i64 (encA (zs.take k)).length) (fun _ i => zs.length - (intOf i).toNat)
  case atStart => exact ⟨0, Nat.zero_le _, rfl, rfl⟩
  case round =>
    obtain ⟨k, hk, rfl, rfl⟩ := hrel
    have hle := encA_take_len zs k
    by_cases hlt : k < zs.length
    · obtain ⟨b, off, rfl, hcell⟩ := hs.at_ k hlt
      have hx := hs.bd k
      have HT : Hid (encA (zs.take (k + 1)) = encA (zs.take k) ++ encI (zs.getD k 0)) := encA_take zs k hlt
      have HS : Hid (((Lib.bitLen (bits .or .u64 (zs.getD k 0) 1).toNat : Int) + 7 - 1) / 7 = ((encI (zs.getD k 0)).length : Int)) := size_len _ hx.1 hx.2
      have ho : 0 ≤ bits .or .u64 (zs.getD k 0) 1 ∧ bits .or .u64 (zs.getD k 0) 1 ≤ 18446744073709551615 := by rw [or1 _ hx.1 hx.2]; omega
      have hlen := encI_len (zs.getD k 0)
      have hbl : Lib.bitLen (bits .or .u64 (zs.getD k 0) 1).toNat ≤ 64 := Lib.bitLen_le _ 64 (by decide) (by omega)
      generalize zs.getD k 0 = x at *
      go_wp2_with (go_at_call 74; refine (len64_any _ _ (by omega) (by omega)).mono ?_; rintro e w' ⟨rfl, rfl⟩)
      go_round
      case rel => exact ⟨k + 1, by omega, by go_num, by rw [HT.out, List.length_append, HS.out]; go_num⟩
      case measure => simp [intOf]; omega
    · obtain rfl : k = zs.length := by omega
      clear hle hlt
      go_wp2
      go_ret
      exact ⟨rfl, rfl⟩

theorem info_u8 : (Try.prog.info? 5).map (fun i => (i.zero, i.size, i.bytes)) = some (some (.int .u8 0), 1, 1) := by kernel_rfl

set_option maxRecDepth 100000 in
set_option maxHeartbeats 1000000 in
theorem encode_any (a : Option Addr) (zs : List Int) (cap : Nat) (w : World) (hs : Seg64 w a zs) (hl : zs.length ≤ 8796093022208) :
    Calls Try.prog 50 #[.slice a zs.length cap] w fun e w' => ∃ v, e = .returned v ∧ w'.ownsRow w.heap.size 5 1 v (encA zs).length ((encA zs).map (Value.int .u8)) ∧ Below w.heap.size w w' := by
  obtain ⟨i0, hi, hz0, hz1, hz2⟩ := info_parts info_u8
  have hsz := encA_len zs
  go_enter Try.func50, Try.ntmps50
  go_wp2_with (first
    | (go_at_call 64; refine (size_any a zs cap _ hs (by omega)).mono ?_; rintro e w' ⟨rfl, hw'⟩; subst w')
    | (at_make; refine wpList_make_own _ rfl _ _ 23 rfl w.heap.size 5 i0 (.int .u8 0) 1 Try.underlying23 hi hz0 hz1 .i64 .i64 _ (encA zs).length rfl rfl rfl (by rw [hz2]; omega) (by unfold maxLen; omega) (Nat.le_refl _) ?_; intro w1 hown1 hgrow1))
  have hsz1 := hgrow1.size
  go_loopw [3, 11] (fun o i wr => ∃ k : Nat, k ≤ zs.length ∧ i = .int .i64 k ∧ wr.ownsRow w.heap.size 5 1 o (encA (zs.take k)).length ((encA (zs.take k)).map (Value.int .u8)) ∧ Below w.heap.size w wr) (fun _ i _ => zs.length - (intOf i).toNat)
  case atStart => exact ⟨0, Nat.zero_le _, rfl, hown1, (Below.refl _ _).grown hgrow1 (Nat.le_refl _) (by intro k e; cases e)⟩
  case round =>
    obtain ⟨k, hk, rfl, hown, hb⟩ := hrel
    have hle := encA_take_len zs k
    by_cases hlt : k < zs.length
    · have hsr := hs.old hb
      obtain ⟨b, off, rfl, hcell⟩ := hsr.at_ k hlt
      have hx := hs.bd k
      have HT : Hid (encA (zs.take (k + 1)) = encA (zs.take k) ++ encI (zs.getD k 0)) := encA_take zs k hlt
      have hlen := encI_len (zs.getD k 0)
      generalize zs.getD k 0 = x at *
      go_wp2
      obtain ⟨wo, rfl⟩ : ∃ wo : World, wo = wr := ⟨_, rfl⟩
      generalize encA (zs.take k) = E at *
      go_loopw [3, 5] (fun o t wr => ∃ (pre : List Int) (f : Nat) (u : Int), t = .int .u64 u ∧ wr.ownsRow w.heap.size 5 1 o (E ++ pre).length ((E ++ pre).map (Value.int .u8)) ∧ encI x = pre ++ encL f u ∧ pre.length + f = 9 ∧ 0 ≤ u ∧ u < 2 * 128 ^ f ∧ Below w.heap.size w wr) (fun _ t _ => (intOf t).toNat)
      case atStart => exact ⟨[], 9, x, rfl, by simpa using hown, rfl, rfl, hx.1, by rw [pow9]; omega, hb⟩
      case round =>
        obtain ⟨pre, f, u, rfl, hown2, he, hf, hu0, hu1, hb2⟩ := hrel
        have HE : Hid (encI x = pre ++ encL f u) := he
        have hu2 : u ≤ 18446744073709551615 := by
          have h9 : (128 : Int) ^ f ≤ 128 ^ 9 := pow128_mono (by omega)
          have := pow9
          omega
        have hszr := hb2.size
        by_cases h7 : 127 < u
        · obtain ⟨f, rfl⟩ : ∃ g, f = g + 1 := ⟨f - 1, by
            cases f with
            | zero => simp at hu1; omega
            | succ f => rfl⟩
          have e1 := enc_byte u hu0 hu2
          have e2 := or128 (u % 128) (by omega) (by omega)
          have HN : Hid (encI x = (pre ++ [u % 128 + 128]) ++ encL f (u / 128)) := by
            show encI x = _
            rw [he]; simp only [encL, if_pos h7, List.append_assoc, List.singleton_append]
          have hu3 : u / 128 < 2 * 128 ^ f := by rw [Int.pow_succ] at hu1; omega
          clear he
          go_wp2_with (at_builtin; refine wpList_push rfl _ _ 23 rfl w.heap.size 5 i0 (.int .u8 0) 1 Try.underlying23 hi hz0 hz1 hz2 rfl wr (.int .u8 (u % 128 + 128)) rfl hown2 rfl rfl (by simp; omega) (by simp; omega) hszr ?_; intro v' w2 hown3 hg3 hb3)
          go_roundw
          case rel => exact ⟨pre ++ [u % 128 + 128], f, u / 128, rfl, by simpa [← Nat.add_assoc] using hown3, HN.out, by simp; omega, by omega, hu3, hb2.trans hb3⟩
          case measure => simp [intOf]; omega
        · have HN : Hid (encI x = pre ++ [u]) := by
            show encI x = _
            rw [he]
            cases f <;> simp [encL, h7]
          clear he
          go_wp2_with (at_builtin; refine wpList_push rfl _ _ 23 rfl w.heap.size 5 i0 (.int .u8 0) 1 Try.underlying23 hi hz0 hz1 hz2 rfl wr (.int .u8 u) rfl hown2 rfl rfl (by simp; omega) (by simp; omega) hszr ?_; intro v' w2 hown3 hg3 hb3)
          go_roundw
          case rel => exact ⟨k + 1, by omega, by go_num, by rw [HT.out, HN.out]; simpa [← Nat.add_assoc] using hown3, hb2.trans hb3⟩
          case measure => simp [intOf]; omega
    · obtain rfl : k = zs.length := by omega
      have HT : Hid (zs.take zs.length = zs) := List.take_length
      rw [HT.out] at hown
      clear hle hlt
      go_wp2
      go_ret
      exact ⟨_, rfl, hown, hb⟩
end Go.Proofs.Ytodioefbfchckaa

namespace Go.Proofs.Ytodioefbfchckaa
open Go.RowKit Go.Shelf
set_option linter.unusedVariables false

/-! Control: a window's steps as bytes. -/
/-- The numbers of steps, three for each. -/
def nm17 (S : List St16) : List Int := S.flatMap fun s => [s.1, s.2.1, zigI s.2.2]
def cok17 (s : St16) : Bool := decide ((0 ≤ s.1 ∧ s.1 ≤ 65536) ∧ (0 ≤ s.2.1 ∧ s.2.1 ≤ 65536) ∧ -16777216 ≤ s.2.2 ∧ s.2.2 ≤ 16777216)
theorem nm17_app (S T : List St16) : nm17 (S ++ T) = nm17 S ++ nm17 T := by simp [nm17]
theorem nm17_len (S : List St16) : (nm17 S).length = 3 * S.length := by
  induction S with
  | nil => rfl
  | cons s S ih => rw [show s :: S = [s] ++ S from rfl, nm17_app, List.length_append, ih]; simp [nm17]; omega
theorem cok17_iff (s : St16) : cok17 s = true ↔ ((0 ≤ s.1 ∧ s.1 ≤ 65536) ∧ (0 ≤ s.2.1 ∧ s.2.1 ≤ 65536) ∧ -16777216 ≤ s.2.2 ∧ s.2.2 ≤ 16777216) := by unfold cok17; exact decide_eq_true_iff
theorem nm17_bd {S : List St16} (h : ∀ s ∈ S, cok17 s = true) : ∀ z ∈ nm17 S, 0 ≤ z ∧ z ≤ 18446744073709551615 := by
  intro z hz
  unfold nm17 at hz
  obtain ⟨s, hs, hz⟩ := List.mem_flatMap.1 hz
  have := (cok17_iff s).1 (h s hs)
  have := zig_bd s.2.2 (by omega) (by omega)
  simp only [List.mem_cons, List.not_mem_nil, or_false] at hz
  rcases hz with rfl | rfl | rfl <;> omega
/-- Control's answer. -/
def cn17 (S : List St16) : List Int := if S.all cok17 = true then encA (nm17 S) else []
def ce17 (S : List St16) : Int := if S.all cok17 = true then 0 else 171
def CnQ17 (w : World) (S : List St16) (e : Ending) (w' : World) : Prop :=
  ∃ v, e = .returned (.tuple #[v, .int .i64 (ce17 S)]) ∧ w'.ownsRow w.heap.size 5 1 v (cn17 S).length ((cn17 S).map (Value.int .u8)) ∧ Below w.heap.size w w'
theorem cnq17_no {w w' : World} {S : List St16} {i : Nat} (hi : i < S.length) (hm : ¬ cok17 (S.getD i z16) = true) (hb : Below w.heap.size w w') : CnQ17 w S (.returned (.tuple #[.slice none 0 0, .int .i64 171])) w' := by
  have h : ¬ S.all cok17 = true := fun h => hm (List.all_eq_true.1 h _ (getD_memS hi))
  refine ⟨.slice none 0 0, by unfold ce17; rw [if_neg h], ?_, hb⟩
  unfold cn17
  rw [if_neg h]
  exact ⟨rfl, .inl ⟨rfl, rfl⟩⟩
theorem cnq17_ok {w W w' : World} {S : List St16} {v : Value} (h : S.all cok17 = true) (ho : w'.ownsRow W.heap.size 5 1 v (encA (nm17 S)).length ((encA (nm17 S)).map (Value.int .u8))) (h1 : Below w.heap.size w W) (hb : Below W.heap.size W w') : CnQ17 w S (.returned (.tuple #[v, .int .i64 0])) w' := by
  refine ⟨v, by unfold ce17; rw [if_pos h], ?_, h1.trans (hb.mono h1.size)⟩
  unfold cn17
  rw [if_pos h]
  exact own_base ho h1.size
theorem info_u64c : (Try.prog.info? 73).map (fun i => (i.zero, i.size, i.bytes)) = some (some (.int .u64 0), 1, 8) := by kernel_rfl
/-- Three numbers are appended. -/
theorem appu17 (V : World) {base : Nat} {v : Value} {n : Nat} {xs : List Value} (x y z : Int) (hown : V.ownsRow base 73 1 v n xs) (hn : n + 3 ≤ 17592186044416) (hbase : base ≤ V.heap.size) :
    ∃ g rc w', (Builtin.append_ #[103, 103] 103 #[v, .slice (some ⟨V.heap.size, 0, none⟩) 3 3]).run Try.prog (V.alloc (.cells #[.int .u64 x, .int .u64 y, .int .u64 z] 73)) = .ok (.slice (some ⟨g, 0, none⟩) (n + 3) rc) w' ∧
      w'.ownsRow base 73 1 (.slice (some ⟨g, 0, none⟩) (n + 3) rc) (n + 3) (xs ++ [.int .u64 x, .int .u64 y, .int .u64 z]) ∧ Kp (fun k => v.ownBlock = some k) V w' := by
  obtain ⟨i0, hi, hz0, hz1, hz2⟩ := info_parts info_u64c
  obtain ⟨g, rc, w', hr, h1, h2, h3, h4⟩ := run_append_lies (P := Try.prog) (V.alloc (.cells #[.int .u64 x, .int .u64 y, .int .u64 z] 73)) 103 103 base 73 i0 _ 1 8 Try.underlying103 hi hz0 hz1 hz2 rfl (by omega) v n xs (hown.alloc _) ⟨V.heap.size, 0, none⟩ 3 3 [.int .u64 x, .int .u64 y, .int .u64 z] rfl
    (World.news_of_block (heap_alloc_new V (.cells #[.int .u64 x, .int .u64 y, .int .u64 z] 73 (0, 0)))) (by intro u hu; simp at hu; rcases hu with rfl | rfl | rfl <;> rfl) (by omega) (by unfold maxLen; omega) (by omega) (by simp; omega) (V.heap.size + 1) (by simp)
  exact ⟨g, rc, w', hr, h1, (Kp.alloc V _).trans (Kp.grown (S := fun k => v.ownBlock = some k) h2 (fun i e => e)) (fun _ _ e => e)⟩
set_option maxRecDepth 100000 in
theorem pips17 (x : Int) (w : World) : Calls Try.prog 48 #[.int .i64 x] w fun e w' => e = .returned (.bool (decide (0 ≤ x ∧ x ≤ 65536))) ∧ w' = w := by
  by_cases h1 : 0 ≤ x
  · by_cases h2 : x ≤ 65536
    · rw [decide_eq_true ⟨h1, h2⟩]
      go_enter Try.func48, Try.ntmps48
      go_wp2
      go_ret
      exact ⟨rfl, rfl⟩
    · rw [decide_eq_false (by omega)]
      go_enter Try.func48, Try.ntmps48
      go_wp2
      go_ret
      exact ⟨rfl, rfl⟩
  · rw [decide_eq_false (by omega)]
    go_enter Try.func48, Try.ntmps48
    go_wp2
    go_ret
    exact ⟨rfl, rfl⟩
theorem pips17_t {x : Int} (h : 0 ≤ x ∧ x ≤ 65536) (w : World) : Calls Try.prog 48 #[.int .i64 x] w fun e w' => e = .returned (.bool true) ∧ w' = w := by
  have := pips17 x w
  rwa [decide_eq_true h] at this
theorem pips17_f {x : Int} (h : ¬ (0 ≤ x ∧ x ≤ 65536)) (w : World) : Calls Try.prog 48 #[.int .i64 x] w fun e w' => e = .returned (.bool false) ∧ w' = w := by
  have := pips17 x w
  rwa [decide_eq_false h] at this
set_option maxRecDepth 100000 in
set_option maxHeartbeats 8000000 in
theorem pctl17 (a : Option Addr) (n cap : Nat) (S : List St16) (w : World) (hs : SegS w a S) (hn : Hid (S.length = n)) (hl : n ≤ 2932031007402) :
    Calls Try.prog 20 #[.slice a n cap] w (CnQ17 w S) := by
  obtain ⟨i0, hi, hz0, hz1, hz2⟩ := info_parts info_u64c
  have hw3 : IntKind.i64.wrap (3 * (n : Int)) = ((3 * n : Nat) : Int) := by rw [IntWalk.i64_in _ (by omega)]; omega
  go_enter Try.func20, Try.ntmps20
  go_wp2_with (first
    | (at_make; refine wpList_make_own _ rfl _ _ 103 rfl w.heap.size 73 i0 (.int .u64 0) 1 Try.underlying103 hi hz0 hz1 .i64 .i64 _ (3 * n) rfl rfl (by omega) (by rw [hz2]; omega) (by unfold maxLen; omega) (Nat.le_refl _) ?_; intro w1 hown1 hgrow1))
  have hsz1 := hgrow1.size
  go_loopw [4, 13] (fun t4 t13 wr => ∃ i : Nat, i ≤ n ∧ t13 = .int .i64 (i : Int) ∧ wr.ownsRow w.heap.size 73 1 t4 (3 * i) ((nm17 (S.take i)).map (Value.int .u64)) ∧ (∀ s ∈ S.take i, cok17 s = true) ∧ Below w.heap.size w wr) (fun _ t13 _ => n - (intOf t13).toNat)
  case atStart => exact ⟨0, Nat.zero_le _, rfl, hown1, by simp, (Below.refl _ _).grown hgrow1 (Nat.le_refl _) (by intro k e; cases e)⟩
  case round =>
    obtain ⟨i, hin0, rfl, own, hok, BR⟩ := hrel
    clear hw3 hown1 hgrow1 hsz1
    by_cases hin : i < n
    · have hii : (i : Int) < (n : Int) := by omega
      have hi0 : (0 : Int) ≤ (i : Int) := by omega
      have hil : i < S.length := by rw [hn.out]; exact hin
      obtain ⟨b, off, rfl, hT⟩ := (hs.old BR).at_ i hil
      have c0 := hT.c0
      have c1 := hT.c1
      have c2 := hT.c2
      have hfit := hs.fit _ (getD_memS hil)
      have HNO : Hid (¬ cok17 (S.getD i z16) = true → ∀ w', Below w.heap.size w w' → CnQ17 w S (.returned (.tuple #[.slice none 0 0, .int .i64 171])) w') := fun hm w' hb => cnq17_no hil hm hb
      have hget : S.getD i z16 = S[i] := by simp [List.getD, hil]
      have HTK : Hid (nm17 (S.take (i + 1)) = nm17 (S.take i) ++ [(S.getD i z16).1, (S.getD i z16).2.1, zigI (S.getD i z16).2.2]) := by
        show _ = _
        rw [List.take_succ_eq_append_getElem hil, nm17_app, hget]; rfl
      have HOK : Hid (cok17 (S.getD i z16) = true → ∀ s ∈ S.take (i + 1), cok17 s = true) := fun hm s hs => by
        rw [List.take_succ_eq_append_getElem hil, ← hget] at hs
        rcases List.mem_append.1 hs with h | h
        · exact hok s h
        · rw [List.mem_singleton.1 h]; exact hm
      clear hget hT hok
      generalize S.getD i z16 = s at *
      obtain ⟨A, C, K⟩ := s
      obtain ⟨⟨f1, f2⟩, ⟨f3, f4⟩, f5, f6⟩ := hfit
      have hiff := cok17_iff (A, C, K)
      simp only at c0 c1 c2 HTK f1 f2 f3 f4 f5 f6 hiff
      have HIF : Hid (cok17 (A, C, K) = true ↔ ((0 ≤ A ∧ A ≤ 65536) ∧ (0 ≤ C ∧ C ≤ 65536) ∧ -16777216 ≤ K ∧ K ≤ 16777216)) := hiff
      have HBX : Hid (Below w.heap.size w (wr.alloc (.cells #[.int .i64 A, .int .i64 C, .int .i64 K] 98))) := BR.trans ((below_box16 _ _).mono BR.size)
      clear hiff
      have ia_ : Hid (∀ V, Calls Try.prog 48 #[.int .i64 A] V fun e w' => e = .returned (.bool (decide (0 ≤ A ∧ A ≤ 65536))) ∧ w' = V) := pips17 A
      by_cases hA : 0 ≤ A ∧ A ≤ 65536
      · have ia := fun V => pips17_t hA V
        clear ia_
        by_cases hC : 0 ≤ C ∧ C ≤ 65536
        · have ic := fun V => pips17_t hC V
          by_cases hK1 : K < -16777216
          · have HQ : Hid (CnQ17 w S (.returned (.tuple #[.slice none 0 0, .int .i64 171])) (wr.alloc (.cells #[.int .i64 A, .int .i64 C, .int .i64 K] 98))) := HNO.out (fun h => by have := HIF.out.1 h; omega) _ HBX.out
            clear HNO HIF HBX HTK HOK own BR hs f1 f2 f3 f4 f5 f6 hA hC
            go_wp2_with fail
            refine (ia _).mono ?_
            rintro e w' ⟨rfl, hw'⟩
            subst w'
            go_wp2_with fail
            refine (ic _).mono ?_
            rintro e w' ⟨rfl, hw'⟩
            subst w'
            go_wp2_with fail
            go_ret2
            exact HQ.out
          · by_cases hK2 : 16777216 < K
            · have HQ : Hid (CnQ17 w S (.returned (.tuple #[.slice none 0 0, .int .i64 171])) (wr.alloc (.cells #[.int .i64 A, .int .i64 C, .int .i64 K] 98))) := HNO.out (fun h => by have := HIF.out.1 h; omega) _ HBX.out
              clear HNO HIF HBX HTK HOK own BR hs f1 f2 f3 f4 f5 f6 hA hC
              go_wp2_with fail
              refine (ia _).mono ?_
              rintro e w' ⟨rfl, hw'⟩
              subst w'
              go_wp2_with fail
              refine (ic _).mono ?_
              rintro e w' ⟨rfl, hw'⟩
              subst w'
              go_wp2_with fail
              go_ret2
              exact HQ.out
            · obtain ⟨p, cc, hv⟩ := own_sl17 own
              subst hv
              have hokk : cok17 (A, C, K) = true := HIF.out.2 ⟨hA, hC, by omega, by omega⟩
              have HO1 := HOK.out hokk
              obtain ⟨wB, hwB⟩ : ∃ wB, wB = wr.alloc (.cells #[.int .i64 A, .int .i64 C, .int .i64 K] 98) := ⟨_, rfl⟩
              obtain ⟨bs, hbs⟩ : ∃ bs, bs = wr.heap.size := ⟨_, rfl⟩
              have cB : Cb16 wr #[.int .i64 A, .int .i64 C, .int .i64 K] 98 wB := by rw [hwB]; exact cb16 _ _ _
              have BB : Below w.heap.size w wB := BR.trans (cB.bl.mono BR.size)
              have qB : wB.heap[bs]? = some (.cells #[.int .i64 A, .int .i64 C, .int .i64 K] 98 (0, 0)) := by rw [hbs]; exact cB.cl
              have ownB : wB.ownsRow w.heap.size 73 1 (.slice p (3 * i) cc) (3 * i) ((nm17 (S.take i)).map (Value.int .u64)) := own_kp own (Kp.of_below (S := fun _ => False) cB.bl) (fun _ _ x => x)
              obtain ⟨g, rc, w', hr, ow, k1⟩ := appu17 wB.drew A C (zigI K) ownB.drew (by omega) BB.size
              have hz := zig_any K
              have hne : ¬ (Value.slice p (3 * i) cc).ownBlock = some bs := fun e => by have := (own.lt bs e).2; omega
              have q' : w'.heap[bs]? = some (.cells #[.int .i64 A, .int .i64 C, .int .i64 K] 98 (0, 0)) := k1.heap qB hne
              have HSS : Hid (∀ W : World, W.heap[bs]? = some (.cells #[.int .i64 A, .int .i64 C, .int .i64 K] 98 (0, 0)) → W.cell? ⟨bs, 0, none⟩ = some (.int .i64 A) ∧ W.cell? ⟨bs, 1, none⟩ = some (.int .i64 C) ∧ W.cell? ⟨bs, 2, none⟩ = some (.int .i64 K)) := fun W h => ⟨three_cell0 h, three_cell1 h, three_cell2 h⟩
              have HS1 : Hid (∀ o, (wB.alloc o).drew.cell? ⟨bs, 0, none⟩ = some (.int .i64 A) ∧ (wB.alloc o).drew.cell? ⟨bs, 1, none⟩ = some (.int .i64 C) ∧ (wB.alloc o).drew.cell? ⟨bs, 2, none⟩ = some (.int .i64 K)) := fun o => HSS.out _ ((((Below.refl _ _).alloc (Nat.le_refl _) o).block bs (by rw [hbs, cB.sz]; omega)).trans qB)
              have HS0 := HSS.out wB.drew qB
              have HS2 := HSS.out w' q'
              have HO : Hid (w'.ownsRow w.heap.size 73 1 (.slice (some ⟨g, 0, none⟩) (3 * i + 3) rc) (3 * (i + 1)) ((nm17 (S.take (i + 1))).map (Value.int .u64))) := by
                show World.ownsRow _ _ _ _ _ _ _
                rw [HTK.out, List.map_append, show 3 * (i + 1) = 3 * i + 3 from by omega]; exact ow
              have HB : Hid (Below w.heap.size w w') := BB.drew.trans (k1.below (fun k x => (own.lt k x).1) BB.size)
              have HO2 : Hid (∀ s ∈ S.take (i + 1), cok17 s = true) := HO1
              have HWB : Hid (wr.alloc (.cells #[.int .i64 A, .int .i64 C, .int .i64 K] 98) = wB) := hwB.symm
              have HBS : Hid (wr.heap.size = bs) := hbs.symm
              have hr2 : (Builtin.append_ #[103, 103] 103 #[(.slice p (3 * i) cc), .slice (some ⟨wB.heap.size, 0, none⟩) 3 3]).run Try.prog (wB.alloc (.cells #[.int .u64 A, .int .u64 C, .int .u64 (zigI K)] 73)).drew = .ok (.slice (some ⟨g, 0, none⟩) (3 * i + 3) rc) w' := hr
              have HR : Hid ((Builtin.append_ #[103, 103] 103 #[(.slice p (3 * i) cc), .slice (some ⟨wB.heap.size, 0, none⟩) 3 3]).run Try.prog (wB.alloc (.cells #[.int .u64 A, .int .u64 C, .int .u64 (zigI K)] 73)).drew = .ok (.slice (some ⟨g, 0, none⟩) (3 * i + 3) rc) w') := hr2
              have hwA : IntKind.u64.wrap A = A := IntWalk.u64_in _ (by omega)
              have hwC : IntKind.u64.wrap C = C := IntWalk.u64_in _ (by omega)
              have HZ : Hid (∀ V, Calls Try.prog 49 #[.int .i64 K] V fun e w' => e = .returned (.int .u64 (zigI K)) ∧ w' = V) := fun V => hz V (by omega) (by omega)
              clear HNO HIF HBX HTK HOK own ownB BR hs f1 f2 f3 f4 f5 f6 hokk HO1 hwB hbs cB BB qB q' hr hr2 ow k1 hne hz HSS
              go_wp2_with fail
              refine (ia _).mono ?_
              rintro e w' ⟨rfl, hw'⟩
              subst w'
              go_wp2_with fail
              refine (ic _).mono ?_
              rintro e w' ⟨rfl, hw'⟩
              subst w'
              go_wp2_with fail
              rw [HWB.out, HBS.out]
              clear c0 c1 c2 ia ic
              generalize 3 * i = i3 at *
              refine plain_region16 (fun V => V.cell? ⟨bs, 0, none⟩ = some (.int .i64 A) ∧ V.cell? ⟨bs, 1, none⟩ = some (.int .i64 C) ∧ V.cell? ⟨bs, 2, none⟩ = some (.int .i64 K)) 13 (by kernel_rfl) HS0 (fun hHeld => ?_)
              refine wpAnyK_take (i := 0) (v := .slice p i3 cc) rfl (by kernel_rfl) (by kernel_rfl) (by kernel_rfl) (by kernel_rfl) (fun _ _ _ h => h) (Or.inl ⟨by rfl, fun w hSw => by go_simp⟩) hHeld ?_
              simp only [List.getElem_toArray, List.getElem_cons_zero, Act.put, List.setIfInBounds_toArray, List.set_cons_zero, List.set_cons_succ]
              refine wpAnyK_take (i := 1) (v := .pointer (some ⟨bs, 0, none⟩)) rfl (by kernel_rfl) (by kernel_rfl) (by kernel_rfl) (by kernel_rfl) (fun _ _ _ h => h) (Or.inl ⟨by rfl, fun w hSw => by go_simp⟩) hHeld ?_
              simp only [List.getElem_toArray, List.getElem_cons_zero, List.getElem_cons_succ, Act.put, List.setIfInBounds_toArray, List.set_cons_zero, List.set_cons_succ]
              refine wpAnyK_take (i := 2) (v := .int .i64 A) rfl (by kernel_rfl) (by kernel_rfl) (by kernel_rfl) (by kernel_rfl) (fun _ _ _ h => h) (Or.inl ⟨by rfl, fun w hSw => by go_simp⟩) hHeld ?_
              simp only [List.getElem_toArray, List.getElem_cons_zero, List.getElem_cons_succ, Act.put, List.setIfInBounds_toArray, List.set_cons_zero, List.set_cons_succ]
              refine wpAnyK_take (i := 3) (v := .int .u64 A) rfl (by kernel_rfl) (by kernel_rfl) (by kernel_rfl) (by kernel_rfl) (fun _ _ _ h => h) (Or.inl ⟨by rfl, fun w hSw => by go_simp⟩) hHeld ?_
              simp only [List.getElem_toArray, List.getElem_cons_zero, List.getElem_cons_succ, Act.put, List.setIfInBounds_toArray, List.set_cons_zero, List.set_cons_succ]
              refine wpAnyK_take (i := 4) (v := .pointer (some ⟨bs, 1, none⟩)) rfl (by kernel_rfl) (by kernel_rfl) (by kernel_rfl) (by kernel_rfl) (fun _ _ _ h => h) (Or.inl ⟨by rfl, fun w hSw => by go_simp⟩) hHeld ?_
              simp only [List.getElem_toArray, List.getElem_cons_zero, List.getElem_cons_succ, Act.put, List.setIfInBounds_toArray, List.set_cons_zero, List.set_cons_succ]
              refine wpAnyK_take (i := 5) (v := .int .i64 C) rfl (by kernel_rfl) (by kernel_rfl) (by kernel_rfl) (by kernel_rfl) (fun _ _ _ h => h) (Or.inl ⟨by rfl, fun w hSw => by go_simp⟩) hHeld ?_
              simp only [List.getElem_toArray, List.getElem_cons_zero, List.getElem_cons_succ, Act.put, List.setIfInBounds_toArray, List.set_cons_zero, List.set_cons_succ]
              refine wpAnyK_take (i := 6) (v := .int .u64 C) rfl (by kernel_rfl) (by kernel_rfl) (by kernel_rfl) (by kernel_rfl) (fun _ _ _ h => h) (Or.inl ⟨by rfl, fun w hSw => by go_simp⟩) hHeld ?_
              simp only [List.getElem_toArray, List.getElem_cons_zero, List.getElem_cons_succ, Act.put, List.setIfInBounds_toArray, List.set_cons_zero, List.set_cons_succ]
              refine wpAnyK_take (i := 7) (v := .pointer (some ⟨bs, 2, none⟩)) rfl (by kernel_rfl) (by kernel_rfl) (by kernel_rfl) (by kernel_rfl) (fun _ _ _ h => h) (Or.inl ⟨by rfl, fun w hSw => by go_simp⟩) hHeld ?_
              simp only [List.getElem_toArray, List.getElem_cons_zero, List.getElem_cons_succ, Act.put, List.setIfInBounds_toArray, List.set_cons_zero, List.set_cons_succ]
              refine wpAnyK_take (i := 8) (v := .int .i64 K) rfl (by kernel_rfl) (by kernel_rfl) (by kernel_rfl) (by kernel_rfl) (fun _ _ _ h => h) (Or.inl ⟨by rfl, fun w hSw => by go_simp⟩) hHeld ?_
              simp only [List.getElem_toArray, List.getElem_cons_zero, List.getElem_cons_succ, Act.put, List.setIfInBounds_toArray, List.set_cons_zero, List.set_cons_succ]
              refine wpAnyK_one (i := 9) (by kernel_rfl) rfl (fun K hK => ?_)
              (try simp only [List.getElem_toArray, List.getElem_cons_zero, List.getElem_cons_succ, Act.put, List.setIfInBounds_toArray, List.set_cons_zero, List.set_cons_succ])
              go_simp
              refine (HZ.out _).mono ?_
              rintro e9 w9 ⟨rfl, rfl⟩
              refine hK.out _ _ (fun _ => HS0) (fun hHeld0 => ?_)
              have hHeld := hHeld0 (by decide)
              clear hHeld0 hK K
              (try simp only [List.getElem_toArray, List.getElem_cons_zero, List.getElem_cons_succ, Act.put, List.setIfInBounds_toArray, List.set_cons_zero, List.set_cons_succ])
              refine wpAnyK_one (i := 10) (by kernel_rfl) rfl (fun K hK => ?_)
              (try simp only [List.getElem_toArray, List.getElem_cons_zero, List.getElem_cons_succ, Act.put, List.setIfInBounds_toArray, List.set_cons_zero, List.set_cons_succ])
              go_simp
              refine hK.out _ _ (fun _ => HS1.out _) (fun hHeld0 => ?_)
              have hHeld := hHeld0 (by decide)
              clear hHeld0 hK K
              (try simp only [List.getElem_toArray, List.getElem_cons_zero, List.getElem_cons_succ, Act.put, List.setIfInBounds_toArray, List.set_cons_zero, List.set_cons_succ])
              refine wpAnyK_one (i := 11) (by kernel_rfl) rfl (fun K0 hK => ?_)
              simp only [List.getElem_toArray, List.getElem_cons_zero, List.getElem_cons_succ]
              rw [if_pos (by rfl)]
              refine operwp_app16 _ _ _ rfl rfl rfl HR.out ?_
              refine hK.out _ _ (fun _ => HS2) (fun hHeld0 => ?_)
              have hHeld := hHeld0 (by decide)
              clear hHeld0 hK K0
              simp only [Act.put, List.setIfInBounds_toArray, List.set_cons_zero, List.set_cons_succ]
              refine wpAnyK_one (i := 12) (by kernel_rfl) rfl (fun K0 hK => ?_)
              (try simp only [List.getElem_toArray, List.getElem_cons_zero, List.getElem_cons_succ, Act.put, List.setIfInBounds_toArray, List.set_cons_zero, List.set_cons_succ])
              go_simp
              refine hK.out _ _ (fun _ => HS2) (fun hHeld0 => ?_)
              clear hHeld0 hK K0
              (try simp only [List.getElem_toArray, List.getElem_cons_zero, List.getElem_cons_succ, Act.put, List.setIfInBounds_toArray, List.set_cons_zero, List.set_cons_succ])
              refine wpAnyK_done (by kernel_rfl) ?_ _
              go_wp2_with fail
              go_roundw
              case rel => exact ⟨i + 1, by omega, by simp, HO.out, HO2.out, HB.out⟩
              case measure => simp [intOf]; omega
        · have ic := fun V => pips17_f hC V
          have HQ : Hid (CnQ17 w S (.returned (.tuple #[.slice none 0 0, .int .i64 171])) (wr.alloc (.cells #[.int .i64 A, .int .i64 C, .int .i64 K] 98))) := HNO.out (fun h => by have := HIF.out.1 h; omega) _ HBX.out
          clear HNO HIF HBX HTK HOK own BR hs f1 f2 f3 f4 f5 f6 hA hC
          go_wp2_with fail
          refine (ia _).mono ?_
          rintro e w' ⟨rfl, hw'⟩
          subst w'
          go_wp2_with fail
          refine (ic _).mono ?_
          rintro e w' ⟨rfl, hw'⟩
          subst w'
          go_wp2_with fail
          go_ret2
          exact HQ.out
      · have ia := fun V => pips17_f hA V
        have HQ : Hid (CnQ17 w S (.returned (.tuple #[.slice none 0 0, .int .i64 171])) (wr.alloc (.cells #[.int .i64 A, .int .i64 C, .int .i64 K] 98))) := HNO.out (fun h => by have := HIF.out.1 h; omega) _ HBX.out
        clear HNO HIF HBX HTK HOK own BR hs f1 f2 f3 f4 f5 f6 hA ia_
        go_wp2_with fail
        refine (ia _).mono ?_
        rintro e w' ⟨rfl, hw'⟩
        subst w'
        go_wp2_with fail
        go_ret2
        exact HQ.out
    · have hk2 : i = n := by omega
      subst hk2
      have hneg : ¬ (i : Int) < (i : Int) := by omega
      have h2 : S.take i = S := by rw [← hn.out, List.take_length]
      rw [h2] at own hok
      obtain ⟨hl3, sa, sc, hv, sg, _⟩ := own_seg own (M := 18446744073709551615) (by decide) (nm17_bd hok)
      have HE : Hid (Calls Try.prog 50 #[.slice sa (3 * i) sc] wr fun e w' => ∃ v, e = .returned v ∧ w'.ownsRow wr.heap.size 5 1 v (encA (nm17 S)).length ((encA (nm17 S)).map (Value.int .u8)) ∧ Below wr.heap.size wr w') := by
        show Calls _ _ _ _ _
        rw [hl3]
        exact encode_any sa (nm17 S) sc wr sg (by omega)
      have HOK : Hid (S.all cok17 = true) := List.all_eq_true.2 hok
      have HBR : Hid (Below w.heap.size w wr) := BR
      subst hv
      clear own hl3 sg h2 hok BR hs
      go_wp2_with (first
        | (go_at_call 50; refine HE.out.mono ?_; rintro e w' ⟨v, rfl, ho, hb⟩))
      go_ret2
      exact cnq17_ok HOK.out ho HBR.out hb
end Go.Proofs.Ytodioefbfchckaa

namespace Go.Proofs.Ytodioefbfchckaa
open Go.RowKit
set_option linter.unusedVariables false

/-- What a byte is refused by (0: it is not), where so many came ahead of it. -/
def tkErr (c : Nat) (x : Int) : Int := if c = 9 ∧ 1 < x then 10 else if 0 < c ∧ x = 0 then 12 else 0
/-- A Taker in a block of its own. -/
def TK (w : World) (b : Nat) (v : Int) (c : Nat) : Prop := w.heap[b]? = some (.cells #[.int .u64 v, .int .i64 c] 120 (0, 0))

set_option maxRecDepth 100000 in
theorem refuses_any (b : Nat) (v : Int) (c : Nat) (x : Int) (w : World) (h : TK w b v c) (hx0 : 0 ≤ x) (hc9 : c ≤ 9) :
    Calls Try.prog 70 #[.pointer (some ⟨b, 0, none⟩), .int .u8 x] w fun e w' => e = .returned (.int .i64 (tkErr c x)) ∧ w' = w := by
  have h1 := two_cell1 h
  by_cases a1 : c = 9
  · subst a1
    by_cases a2 : 1 < x
    · go_enter Try.func70, Try.ntmps70
      go_wp2
      go_ret
      exact ⟨by simp [tkErr, a2], rfl⟩
    · by_cases a3 : x = 0
      · subst a3
        go_enter Try.func70, Try.ntmps70
        go_wp2
        go_ret
        exact ⟨by simp [tkErr], rfl⟩
      · have a4 : (x == 0) = false := by simp [a3]
        go_enter Try.func70, Try.ntmps70
        go_wp2
        go_ret
        exact ⟨by have : ¬ 1 < x := by omega
                  simp [tkErr, this, a3], rfl⟩
  · have a0 : ((c : Int) == 9) = false := by simp; omega
    by_cases a2 : 0 < c
    · have a5 : (0 : Int) < (c : Int) := by omega
      by_cases a3 : x = 0
      · subst a3
        go_enter Try.func70, Try.ntmps70
        go_wp2
        go_ret
        exact ⟨by simp [tkErr, a1, a2], rfl⟩
      · have a4 : (x == 0) = false := by simp [a3]
        go_enter Try.func70, Try.ntmps70
        go_wp2
        go_ret
        exact ⟨by simp [tkErr, a1, a3], rfl⟩
    · have a6 : c = 0 := by omega
      subst a6
      go_enter Try.func70, Try.ntmps70
      go_wp2
      go_ret
      exact ⟨by simp [tkErr], rfl⟩

set_option maxRecDepth 100000 in
theorem reset_any (b : Nat) (v : Int) (c : Nat) (w : World) (h : TK w b v c) :
    Calls Try.prog 71 #[.pointer (some ⟨b, 0, none⟩)] w fun e w' => e = .returned (.tuple #[]) ∧ TK w' b 0 0 ∧ w.grownBy w' (some b) := by
  have h0 := two_cell0 h
  have h1 := two_cell1 h
  have f0 := two_free h 0
  have f1 := two_free h 1
  go_enter Try.func71, Try.ntmps71
  go_wp2
  go_end0
  exact ⟨rfl, two_set1 (two_set0 h _) _, grownBy_set (grownBy_set (World.grownBy.refl _ _) _) _⟩

set_option maxRecDepth 100000 in
set_option maxHeartbeats 400000 in
theorem take_bad (b : Nat) (v : Int) (c : Nat) (x : Int) (w : World) (h : TK w b v c) (hx0 : 0 ≤ x) (hx1 : x ≤ 255) (hc9 : c ≤ 9) (he : tkErr c x ≠ 0) :
    Calls Try.prog 57 #[.pointer (some ⟨b, 0, none⟩), .int .u8 x] w fun e w' => e = .returned (.tuple #[.int .u64 0, .bool false, .int .i64 (tkErr c x)]) ∧ TK w' b 0 0 ∧ w.grownBy w' (some b) := by
  have hn : (tkErr c x != 0) = true := by simp [he]
  clear he
  go_enter Try.func57, Try.ntmps57
  go_wp2_with (first
    | (go_at_call 70; refine (refuses_any b v c x _ h hx0 hc9).mono ?_; rintro e w' ⟨rfl, rfl⟩)
    | (go_at_call 71; refine (reset_any b v c _ h).mono ?_; rintro e w1 ⟨rfl, ht, hg⟩))
  go_ret3
  exact ⟨rfl, ht, hg⟩

theorem tkErr_nine {c : Nat} {x : Int} (h : tkErr c x = 0) : c = 9 → x ≤ 1 := by
  intro e; subst e
  unfold tkErr at h
  split at h
  · cases h
  · rename_i n; simp at n; omega

set_option maxRecDepth 100000 in
set_option maxHeartbeats 400000 in
theorem take_more (b : Nat) (v : Int) (c : Nat) (x : Int) (w : World) (h : TK w b v c) (hv0 : 0 ≤ v) (hv1 : v < 128 ^ c) (hx0 : 128 ≤ x) (hx1 : x ≤ 255) (hc9 : c ≤ 9) (he : tkErr c x = 0) :
    Calls Try.prog 57 #[.pointer (some ⟨b, 0, none⟩), .int .u8 x] w fun e w' => e = .returned (.tuple #[.int .u64 0, .bool false, .int .i64 0]) ∧ TK w' b (tkVal v c x) (c + 1) ∧ w.grownBy w' (some b) := by
  have h0 := two_cell0 h
  have h1 := two_cell1 h
  have f0 := two_free h 0
  have f1 := two_free h 1
  have hn : (tkErr c x != 0) = false := by simp [he]
  have ea : (bits .and .u8 x 128 != 0) = true := by rw [and128 x (by omega) hx1, if_pos hx0]; rfl
  have HO : Hid (bits .or .u64 v (IntKind.u64.wrap (IntKind.u64.wrap (bits .and .u8 x 127) * 2 ^ (7 * c))) = tkVal v c x) := tk_or v c x hv0 hv1 hc9 (by omega) hx1 (tkErr_nine he)
  clear he hv1
  go_enter Try.func57, Try.ntmps57
  go_wp2_with (first
    | (go_at_call 70; refine (refuses_any b v c x _ h (by omega) hc9).mono ?_; rintro e w' ⟨rfl, rfl⟩))
  go_region
  go_wp2
  rw [HO.out]
  go_ret3
  exact ⟨rfl, two_set1 (two_set0 h _) _, grownBy_drew (grownBy_set (grownBy_set (World.grownBy.refl _ _) _) _)⟩

set_option maxRecDepth 100000 in
set_option maxHeartbeats 400000 in
theorem take_ends (b : Nat) (v : Int) (c : Nat) (x : Int) (w : World) (h : TK w b v c) (hv0 : 0 ≤ v) (hv1 : v < 128 ^ c) (hx0 : 0 ≤ x) (hx1 : x ≤ 127) (hc9 : c ≤ 9) (he : tkErr c x = 0) :
    Calls Try.prog 57 #[.pointer (some ⟨b, 0, none⟩), .int .u8 x] w fun e w' => e = .returned (.tuple #[.int .u64 (tkVal v c x), .bool true, .int .i64 0]) ∧ TK w' b 0 0 ∧ w.grownBy w' (some b) := by
  have h0 := two_cell0 h
  have h1 := two_cell1 h
  have f0 := two_free h 0
  have f1 := two_free h 1
  have hn : (tkErr c x != 0) = false := by simp [he]
  have ea : (bits .and .u8 x 128 != 0) = false := by rw [and128 x (by omega) (by omega), if_neg (by omega)]; rfl
  have HO : Hid (bits .or .u64 v (IntKind.u64.wrap (IntKind.u64.wrap (bits .and .u8 x 127) * 2 ^ (7 * c))) = tkVal v c x) := tk_or v c x hv0 hv1 hc9 (by omega) (by omega) (tkErr_nine he)
  clear he hv1
  go_enter Try.func57, Try.ntmps57
  go_wp2_with (first
    | (go_at_call 70; refine (refuses_any b v c x _ h (by omega) hc9).mono ?_; rintro e w' ⟨rfl, rfl⟩))
  go_region
  go_wp2_with fail
  rw [HO.out]
  refine (reset_any b (tkVal v c x) (c + 1) _ (by exact two_set1 (two_set0 h _) _)).mono ?_
  rintro e w1 ⟨rfl, ht, hg⟩
  go_wp2
  go_ret3
  exact ⟨rfl, ht, grownBy_trans (grownBy_drew (grownBy_set (grownBy_set (World.grownBy.refl _ _) _) _)) hg⟩
end Go.Proofs.Ytodioefbfchckaa

namespace Go.Proofs.Ytodioefbfchckaa
open Go.RowKit
set_option linter.unusedVariables false

/-- The number at the front, how many bytes it has, and the error: behind the first so many bytes. -/
def decL (v : Int) (c : Nat) : List Int → Int × Int × Int
  | [] => (0, 0, 11)
  | x :: r => if tkErr c x ≠ 0 then (0, 0, tkErr c x) else if x < 128 then (tkVal v c x, (c : Int) + 1, 0) else decL (tkVal v c x) (c + 1) r

theorem drop_cons {zs : List Int} {k : Nat} (h : k < zs.length) : zs.drop k = zs.getD k 0 :: zs.drop (k + 1) := by
  rw [List.drop_eq_getElem_cons h]
  simp [List.getD, h]

theorem tkVal_bd (v : Int) (c : Nat) (x : Int) (hv0 : 0 ≤ v) (hv1 : v < 128 ^ c) (hx : 0 ≤ x) : 0 ≤ tkVal v c x ∧ tkVal v c x < 128 ^ (c + 1) := by
  have hp := pow128_pos c
  have hm : 0 ≤ x % 128 := by omega
  have h1 := Int.mul_nonneg hm (Int.le_of_lt hp)
  have h2 : x % 128 * 128 ^ c ≤ 127 * 128 ^ c := Int.mul_le_mul_of_nonneg_right (by omega) (Int.le_of_lt hp)
  unfold tkVal
  rw [Int.pow_succ]
  omega

theorem tk_more_le {c : Nat} {x : Int} (hc : c ≤ 9) (he : tkErr c x = 0) (hx : 128 ≤ x) : c ≤ 8 := by
  have := tkErr_nine he
  omega

theorem ret3i {a a' b b' c c' : Int} {k l m : IntKind} (h : a = a') (h' : b = b') (h'' : c = c') : Ending.returned (.tuple #[.int k a, .int l b, .int m c]) = .returned (.tuple #[.int k a', .int l b', .int m c']) := by rw [h, h', h'']

set_option maxRecDepth 100000 in
set_option maxHeartbeats 400000 in
theorem decode_any (a : Option Addr) (zs : List Int) (cap : Nat) (w : World) (hs : Seg w a zs) (hl : zs.length ≤ 140737488355328) :
    Calls Try.prog 33 #[.slice a zs.length cap] w fun e w' => e = .returned (.tuple #[.int .u64 (decL 0 0 zs).1, .int .i64 (decL 0 0 zs).2.1, .int .i64 (decL 0 0 zs).2.2]) ∧ Below w.heap.size w w' := by
  go_enter Try.func33, Try.ntmps33
  go_wp2
  go_loopw [13] (fun i wr => ∃ (k : Nat) (v : Int), k ≤ zs.length ∧ i = .int .i64 k ∧ k ≤ 9 ∧ 0 ≤ v ∧ v < 128 ^ k ∧ TK wr w.heap.size v k ∧ Below w.heap.size w wr ∧ decL 0 0 zs = decL v k (zs.drop k)) (fun i _ => zs.length - (intOf i).toNat)
  case atStart => exact ⟨0, 0, Nat.zero_le _, rfl, by omega, by omega, by decide, heap_alloc_new w _, (Below.refl _ _).alloc (Nat.le_refl _) _, rfl⟩
  case round =>
    obtain ⟨k, v, hk, rfl, hk9, hv0, hv1, ht, hb, hd⟩ := hrel
    by_cases hlt : k < zs.length
    · have hsr := hs.old hb
      obtain ⟨b, off, rfl, hcell⟩ := hsr.at_ k hlt
      have hx := hs.bd k
      rw [drop_cons hlt] at hd
      generalize zs.getD k 0 = x at *
      by_cases he : tkErr k x = 0
      · by_cases h7 : x < 128
        · have HD : Hid (decL 0 0 zs = (tkVal v k x, (k : Int) + 1, 0)) := by rw [hd]; show decL v k _ = _; simp [decL, he, h7]
          clear hd
          go_wp2_with (go_at_call 57; refine (take_ends _ v k x _ ht hv0 hv1 (by omega) (by omega) hk9 he).mono ?_; rintro e w1 ⟨rfl, ht1, hg1⟩)
          go_ret3
          rw [HD.out]
          exact ⟨rfl, hb.trans (below_of_grown hg1 (Nat.le_refl _) hb.size)⟩
        · have HD : Hid (decL 0 0 zs = decL (tkVal v k x) (k + 1) (zs.drop (k + 1))) := by rw [hd]; show decL v k _ = _; simp [decL, he, h7]
          have hk8 := tk_more_le hk9 he (by omega)
          have hbd := tkVal_bd v k x hv0 hv1 (by omega)
          clear hd
          go_wp2_with (go_at_call 57; refine (take_more _ v k x _ ht hv0 hv1 (by omega) (by omega) hk9 he).mono ?_; rintro e w1 ⟨rfl, ht1, hg1⟩)
          go_roundw
          case rel => exact ⟨k + 1, tkVal v k x, by omega, by go_num, by omega, hbd.1, hbd.2, ht1, hb.trans (below_of_grown hg1 (Nat.le_refl _) hb.size), HD.out⟩
          case measure => simp [intOf]; omega
      · have HD : Hid (decL 0 0 zs = (0, 0, tkErr k x)) := by rw [hd]; show decL v k _ = _; simp [decL, he]
        have hne : (tkErr k x != 0) = true := by simp [he]
        clear hd
        go_wp2_with (go_at_call 57; refine (take_bad _ v k x _ ht (by omega) (by omega) hk9 he).mono ?_; rintro e w1 ⟨rfl, ht1, hg1⟩)
        go_ret3
        rw [HD.out]
        exact ⟨rfl, hb.trans (below_of_grown hg1 (Nat.le_refl _) hb.size)⟩
    · have HD : Hid (decL 0 0 zs = (0, 0, 11)) := by rw [hd, List.drop_of_length_le (by omega)]; rfl
      clear hd
      go_wp2
      go_ret3
      rw [HD.out]
      exact ⟨rfl, hb⟩
end Go.Proofs.Ytodioefbfchckaa
