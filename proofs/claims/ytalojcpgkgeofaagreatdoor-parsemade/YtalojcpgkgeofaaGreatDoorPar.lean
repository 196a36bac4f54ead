import Derived.Test.YtalojcpgkgeofaaGreatDoorProg
import Derived.Test.YtalojcpgkgeofaaGreatDoorPaa
import Derived.Test.YtalojcpgkgeofaaGreatDoorPah
import Derived.WalkKit
import Derived.WalkSpells
import Derived.WalkLawsBesides
import Derived.Laws.BitsAllLaws
import Derived.Test.YtalojcpgkgeofaaGreatDoorPaq
namespace Go.Proofs.YtalojcpgkgeofaaGreatDoor
open Go.RowKit
set_option linter.unusedVariables false

/-- What a byte is refused by (0: it is not), where so many came ahead of it. -/
def tkErr (c : Nat) (x : Int) : Int := if c = 9 ∧ 1 < x then 10 else if 0 < c ∧ x = 0 then 12 else 0
/-- A Taker in a block of its own. -/
def TK (w : World) (b : Nat) (v : Int) (c : Nat) : Prop := w.heap[b]? = some (.cells #[.int .u64 v, .int .i64 c] 71 (0, 0))

set_option maxRecDepth 100000 in
theorem refuses_any (b : Nat) (v : Int) (c : Nat) (x : Int) (w : World) (h : TK w b v c) (hx0 : 0 ≤ x) (hc9 : c ≤ 9) :
    Calls Tryz.prog 146 #[.pointer (some ⟨b, 0, none⟩), .int .u8 x] w fun e w' => e = .returned (.int .i64 (tkErr c x)) ∧ w' = w := by
  have h1 := two_cell1 h
  by_cases a1 : c = 9
  · subst a1
    by_cases a2 : 1 < x
    · go_enter Tryz.func146, Tryz.ntmps146
      go_wp2
      go_ret
      exact ⟨by simp [tkErr, a2], rfl⟩
    · by_cases a3 : x = 0
      · subst a3
        go_enter Tryz.func146, Tryz.ntmps146
        go_wp2
        go_ret
        exact ⟨by simp [tkErr], rfl⟩
      · have a4 : (x == 0) = false := by simp [a3]
        go_enter Tryz.func146, Tryz.ntmps146
        go_wp2
        go_ret
        exact ⟨by have : ¬ 1 < x := by omega
                  simp [tkErr, this, a3], rfl⟩
  · have a0 : ((c : Int) == 9) = false := by simp; omega
    by_cases a2 : 0 < c
    · have a5 : (0 : Int) < (c : Int) := by omega
      by_cases a3 : x = 0
      · subst a3
        go_enter Tryz.func146, Tryz.ntmps146
        go_wp2
        go_ret
        exact ⟨by simp [tkErr, a1, a2], rfl⟩
      · have a4 : (x == 0) = false := by simp [a3]
        go_enter Tryz.func146, Tryz.ntmps146
        go_wp2
        go_ret
        exact ⟨by simp [tkErr, a1, a3], rfl⟩
    · have a6 : c = 0 := by omega
      subst a6
      go_enter Tryz.func146, Tryz.ntmps146
      go_wp2
      go_ret
      exact ⟨by simp [tkErr], rfl⟩

set_option maxRecDepth 100000 in
theorem reset_any (b : Nat) (v : Int) (c : Nat) (w : World) (h : TK w b v c) :
    Calls Tryz.prog 147 #[.pointer (some ⟨b, 0, none⟩)] w fun e w' => e = .returned (.tuple #[]) ∧ TK w' b 0 0 ∧ w.grownBy w' (some b) := by
  have h0 := two_cell0 h
  have h1 := two_cell1 h
  have f0 := two_free h 0
  have f1 := two_free h 1
  go_enter Tryz.func147, Tryz.ntmps147
  go_wp2
  go_end0
  exact ⟨rfl, two_set1 (two_set0 h _) _, grownBy_set (grownBy_set (World.grownBy.refl _ _) _) _⟩

set_option maxRecDepth 100000 in
set_option maxHeartbeats 400000 in
theorem take_bad (b : Nat) (v : Int) (c : Nat) (x : Int) (w : World) (h : TK w b v c) (hx0 : 0 ≤ x) (hx1 : x ≤ 255) (hc9 : c ≤ 9) (he : tkErr c x ≠ 0) :
    Calls Tryz.prog 131 #[.pointer (some ⟨b, 0, none⟩), .int .u8 x] w fun e w' => e = .returned (.tuple #[.int .u64 0, .bool false, .int .i64 (tkErr c x)]) ∧ TK w' b 0 0 ∧ w.grownBy w' (some b) := by
  have hn : (tkErr c x != 0) = true := by simp [he]
  clear he
  go_enter Tryz.func131, Tryz.ntmps131
  go_wp2_with (first
    | (go_at_call 146; refine (refuses_any b v c x _ h hx0 hc9).mono ?_; rintro e w' ⟨rfl, rfl⟩)
    | (go_at_call 147; refine (reset_any b v c _ h).mono ?_; rintro e w1 ⟨rfl, ht, hg⟩))
  go_ret3
  exact ⟨rfl, ht, hg⟩

theorem tkErr_nine {c : Nat} {x : Int} (h : tkErr c x = 0) : c = 9 → x ≤ 1 := by
  intro e; subst e
  unfold tkErr at h
  split at h
  · cases h
  · rename_i n; simp at n; omega

set_option maxRecDepth 100000 in
set_option maxHeartbeats 400000 in
theorem take_more (b : Nat) (v : Int) (c : Nat) (x : Int) (w : World) (h : TK w b v c) (hv0 : 0 ≤ v) (hv1 : v < 128 ^ c) (hx0 : 128 ≤ x) (hx1 : x ≤ 255) (hc9 : c ≤ 9) (he : tkErr c x = 0) :
    Calls Tryz.prog 131 #[.pointer (some ⟨b, 0, none⟩), .int .u8 x] w fun e w' => e = .returned (.tuple #[.int .u64 0, .bool false, .int .i64 0]) ∧ TK w' b (tkVal v c x) (c + 1) ∧ w.grownBy w' (some b) := by
  have h0 := two_cell0 h
  have h1 := two_cell1 h
  have f0 := two_free h 0
  have f1 := two_free h 1
  have hn : (tkErr c x != 0) = false := by simp [he]
  have ea : (bits .and .u8 x 128 != 0) = true := by rw [and128 x (by omega) hx1, if_pos hx0]; rfl
  have HO : Hid (bits .or .u64 v (IntKind.u64.wrap (IntKind.u64.wrap (bits .and .u8 x 127) * 2 ^ (7 * c))) = tkVal v c x) := tk_or v c x hv0 hv1 hc9 (by omega) hx1 (tkErr_nine he)
  clear he hv1
  go_enter Tryz.func131, Tryz.ntmps131
  go_wp2_with (first
    | (go_at_call 146; refine (refuses_any b v c x _ h (by omega) hc9).mono ?_; rintro e w' ⟨rfl, rfl⟩))
  go_region
  go_wp2
  rw [HO.out]
  go_ret3
  exact ⟨rfl, two_set1 (two_set0 h _) _, grownBy_drew (grownBy_set (grownBy_set (World.grownBy.refl _ _) _) _)⟩

set_option maxRecDepth 100000 in
set_option maxHeartbeats 400000 in
theorem take_ends (b : Nat) (v : Int) (c : Nat) (x : Int) (w : World) (h : TK w b v c) (hv0 : 0 ≤ v) (hv1 : v < 128 ^ c) (hx0 : 0 ≤ x) (hx1 : x ≤ 127) (hc9 : c ≤ 9) (he : tkErr c x = 0) :
    Calls Tryz.prog 131 #[.pointer (some ⟨b, 0, none⟩), .int .u8 x] w fun e w' => e = .returned (.tuple #[.int .u64 (tkVal v c x), .bool true, .int .i64 0]) ∧ TK w' b 0 0 ∧ w.grownBy w' (some b) := by
  have h0 := two_cell0 h
  have h1 := two_cell1 h
  have f0 := two_free h 0
  have f1 := two_free h 1
  have hn : (tkErr c x != 0) = false := by simp [he]
  have ea : (bits .and .u8 x 128 != 0) = false := by rw [and128 x (by omega) (by omega), if_neg (by omega)]; rfl
  have HO : Hid (bits .or .u64 v (IntKind.u64.wrap (IntKind.u64.wrap (bits .and .u8 x 127) * 2 ^ (7 * c))) = tkVal v c x) := tk_or v c x hv0 hv1 hc9 (by omega) (by omega) (tkErr_nine he)
  clear he hv1
  go_enter Tryz.func131, Tryz.ntmps131
  go_wp2_with (first
    | (go_at_call 146; refine (refuses_any b v c x _ h (by omega) hc9).mono ?_; rintro e w' ⟨rfl, rfl⟩))
  go_region
  go_wp2_with fail
  rw [HO.out]
  refine (reset_any b (tkVal v c x) (c + 1) _ (by exact two_set1 (two_set0 h _) _)).mono ?_
  rintro e w1 ⟨rfl, ht, hg⟩
  go_wp2
  go_ret3
  exact ⟨rfl, ht, grownBy_trans (grownBy_drew (grownBy_set (grownBy_set (World.grownBy.refl _ _) _) _)) hg⟩
end Go.Proofs.YtalojcpgkgeofaaGreatDoor

namespace Go.Proofs.YtalojcpgkgeofaaGreatDoor
open Go.RowKit Go.Shelf
set_option linter.unusedVariables false
set_option linter.unusedSimpArgs false

/-! The number at hand: a Taker within the state. -/
set_option maxRecDepth 100000 in
theorem refuses19 (b : Nat) (t : TypeId) (s : R19) (c : Nat) (hsc : s.tc = c) (x : Int) (w : World) (h : St19 w b t s) (hx0 : 0 ≤ x) (hc9 : c ≤ 9) :
    Calls Tryz.prog 146 #[.pointer (some ⟨b, 1, none⟩), .int .u8 x] w fun e w' => e = .returned (.int .i64 (tkErr c x)) ∧ w' = w := by
  have h0 := h.c1
  have h1 := h.c2
  rw [hsc] at h1
  clear h hsc
  by_cases a1 : c = 9
  · subst a1
    by_cases a2 : 1 < x
    · go_enter Tryz.func146, Tryz.ntmps146
      go_wp2
      go_ret
      exact ⟨by simp [tkErr, a2], rfl⟩
    · by_cases a3 : x = 0
      · subst a3
        go_enter Tryz.func146, Tryz.ntmps146
        go_wp2
        go_ret
        exact ⟨by simp [tkErr], rfl⟩
      · have a4 : (x == 0) = false := by simp [a3]
        go_enter Tryz.func146, Tryz.ntmps146
        go_wp2
        go_ret
        exact ⟨by have : ¬ 1 < x := by omega
                  simp [tkErr, this, a3], rfl⟩
  · have a0 : ((c : Int) == 9) = false := by simp; omega
    by_cases a2 : 0 < c
    · have a5 : (0 : Int) < (c : Int) := by omega
      by_cases a3 : x = 0
      · subst a3
        go_enter Tryz.func146, Tryz.ntmps146
        go_wp2
        go_ret
        exact ⟨by simp [tkErr, a1, a2], rfl⟩
      · have a4 : (x == 0) = false := by simp [a3]
        go_enter Tryz.func146, Tryz.ntmps146
        go_wp2
        go_ret
        exact ⟨by simp [tkErr, a1, a3], rfl⟩
    · have a6 : c = 0 := by omega
      subst a6
      go_enter Tryz.func146, Tryz.ntmps146
      go_wp2
      go_ret
      exact ⟨by simp [tkErr], rfl⟩

set_option maxRecDepth 100000 in
theorem reset19 (b : Nat) (t : TypeId) (s : R19) (w : World) (h : St19 w b t s) :
    Calls Tryz.prog 147 #[.pointer (some ⟨b, 1, none⟩)] w fun e w' => e = .returned (.tuple #[]) ∧ St19 w' b t { s with tv := 0, tc := 0 } ∧ Kp (fun k => k = b) w w' := by
  have h0 := h.c1
  have h1 := h.c2
  have f0 := h.f 1
  have f1 := h.f 2
  have HS : Hid (St19 ((w.setCell ⟨b, 1, none⟩ (.int .u64 0)).setCell ⟨b, 2, none⟩ (.int .i64 0)) b t { s with tv := 0, tc := 0 }) := (h.set (s' := { s with tv := 0 }) rfl).set (s' := { s with tv := 0, tc := 0 }) rfl
  clear h
  go_enter Tryz.func147, Tryz.ntmps147
  go_wp2
  go_end0
  exact ⟨rfl, HS.out, kpt_19 (kp1_19 _) (kp1_19 _)⟩
set_option maxRecDepth 100000 in
set_option maxHeartbeats 400000 in
theorem takeb19 (b : Nat) (t : TypeId) (s : R19) (x : Int) (w : World) (h : St19 w b t s) (hx0 : 0 ≤ x) (hx1 : x ≤ 255) (hc9 : s.tc ≤ 9) (he : tkErr s.tc x ≠ 0) :
    Calls Tryz.prog 131 #[.pointer (some ⟨b, 1, none⟩), .int .u8 x] w fun e w' => e = .returned (.tuple #[.int .u64 0, .bool false, .int .i64 (tkErr s.tc x)]) ∧ St19 w' b t { s with tv := 0, tc := 0 } ∧ Kp (fun k => k = b) w w' := by
  have hn : (tkErr s.tc x != 0) = true := by simp [he]
  have RF := refuses19 b t s s.tc rfl x w h hx0 hc9
  have RS := reset19 b t s w h
  clear he h
  go_enter Tryz.func131, Tryz.ntmps131
  go_wp2_with fail
  refine RF.mono ?_
  rintro e w' ⟨rfl, hw'⟩
  subst w'
  go_wp2_with fail
  refine RS.mono ?_
  rintro e w1 ⟨rfl, ht, hg⟩
  have HT : Hid (St19 w1 b t { s with tv := 0, tc := 0 } ∧ Kp (fun k => k = b) w w1) := ⟨ht, hg⟩
  clear ht hg
  go_wp2
  go_ret3
  exact ⟨rfl, HT.out.1, HT.out.2⟩
set_option maxRecDepth 100000 in
set_option maxHeartbeats 800000 in
theorem takem19 (b : Nat) (t : TypeId) (s : R19) (v : Int) (c : Nat) (hsv : s.tv = v) (hsc : s.tc = c) (x : Int) (w : World) (h : St19 w b t s) (hv0 : 0 ≤ v) (hv1 : v < 128 ^ c) (hx0 : 128 ≤ x) (hx1 : x ≤ 255) (hc9 : c ≤ 9) (he : tkErr c x = 0) :
    Calls Tryz.prog 131 #[.pointer (some ⟨b, 1, none⟩), .int .u8 x] w fun e w' => e = .returned (.tuple #[.int .u64 0, .bool false, .int .i64 0]) ∧ St19 w' b t { s with tv := tkVal v c x, tc := c + 1 } ∧ Kp (fun k => k = b) w w' := by
  have h0 := h.c1
  have h1 := h.c2
  have f0 := h.f 1
  have f1 := h.f 2
  rw [hsv] at h0
  rw [hsc] at h1
  have RF := refuses19 b t s c hsc x w h (by omega) hc9
  have hn : (tkErr c x != 0) = false := by simp [he]
  have ea : (bits .and .u8 x 128 != 0) = true := by rw [and128 x (by omega) hx1, if_pos hx0]; rfl
  have HO : Hid (bits .or .u64 v (IntKind.u64.wrap (IntKind.u64.wrap (bits .and .u8 x 127) * 2 ^ (7 * c))) = tkVal v c x) := tk_or v c x hv0 hv1 hc9 (by omega) hx1 (tkErr_nine he)
  have HS : Hid (∀ y : Int, St19 ((w.setCell ⟨b, 1, none⟩ (.int .u64 y)).setCell ⟨b, 2, none⟩ (.int .i64 ((c : Int) + 1))) b t { s with tv := y, tc := c + 1 }) := fun y => (h.set (s' := { s with tv := y }) rfl).set (s' := { s with tv := y, tc := c + 1 }) rfl
  clear he hv1 h
  go_enter Tryz.func131, Tryz.ntmps131
  go_wp2_with fail
  refine RF.mono ?_
  rintro e w' ⟨rfl, hw'⟩
  subst w'
  go_wp2_with fail
  go_region
  go_wp2
  rw [HO.out]
  go_ret3
  exact ⟨rfl, HS.out _, (kpt_19 (kp1_19 _) (kp1_19 _)).drew⟩
set_option maxRecDepth 100000 in
set_option maxHeartbeats 800000 in
theorem takee19 (b : Nat) (t : TypeId) (s : R19) (v : Int) (c : Nat) (hsv : s.tv = v) (hsc : s.tc = c) (x : Int) (w : World) (h : St19 w b t s) (hv0 : 0 ≤ v) (hv1 : v < 128 ^ c) (hx0 : 0 ≤ x) (hx1 : x < 128) (hc9 : c ≤ 9) (he : tkErr c x = 0) :
    Calls Tryz.prog 131 #[.pointer (some ⟨b, 1, none⟩), .int .u8 x] w fun e w' => e = .returned (.tuple #[.int .u64 (tkVal v c x), .bool true, .int .i64 0]) ∧ St19 w' b t { s with tv := 0, tc := 0 } ∧ Kp (fun k => k = b) w w' := by
  have h0 := h.c1
  have h1 := h.c2
  have f0 := h.f 1
  have f1 := h.f 2
  rw [hsv] at h0
  rw [hsc] at h1
  have RF := refuses19 b t s c hsc x w h hx0 hc9
  have hn : (tkErr c x != 0) = false := by simp [he]
  have ea : (bits .and .u8 x 128 != 0) = false := by rw [and128 x hx0 (by omega), if_neg (by omega)]; rfl
  have HO : Hid (bits .or .u64 v (IntKind.u64.wrap (IntKind.u64.wrap (bits .and .u8 x 127) * 2 ^ (7 * c))) = tkVal v c x) := tk_or v c x hv0 hv1 hc9 hx0 (by omega) (tkErr_nine he)
  have HS : Hid (∀ y : Int, St19 ((w.setCell ⟨b, 1, none⟩ (.int .u64 y)).setCell ⟨b, 2, none⟩ (.int .i64 ((c : Int) + 1))) b t { s with tv := y, tc := c + 1 }) := fun y => (h.set (s' := { s with tv := y }) rfl).set (s' := { s with tv := y, tc := c + 1 }) rfl
  clear he hv1 h
  go_enter Tryz.func131, Tryz.ntmps131
  go_wp2_with fail
  refine RF.mono ?_
  rintro e w' ⟨rfl, hw'⟩
  subst w'
  go_wp2_with fail
  go_region
  go_wp2_with fail
  rw [HO.out]
  have hq := HS.out (tkVal v c x)
  have RS := reset19 b t _ (((w.setCell ⟨b, 1, none⟩ (.int .u64 (tkVal v c x))).setCell ⟨b, 2, none⟩ (.int .i64 ((c : Int) + 1))).drew) hq
  refine RS.mono ?_
  rintro e w1 ⟨rfl, ht, hg⟩
  have HT : Hid (St19 w1 b t { s with tv := 0, tc := 0 } ∧ Kp (fun k => k = b) w w1) := ⟨ht, kpt_19 (kpt_19 (kp1_19 _) (kp1_19 _)).drew hg⟩
  clear ht hg hq RS
  go_wp2
  go_ret3
  exact ⟨rfl, HT.out.1, HT.out.2⟩
end Go.Proofs.YtalojcpgkgeofaaGreatDoor

namespace Go.Proofs.YtalojcpgkgeofaaGreatDoor
open Go.RowKit
set_option linter.unusedVariables false

/-- The number at the front, how many bytes it has, and the error: behind the first so many bytes. -/
def decL (v : Int) (c : Nat) : List Int → Int × Int × Int
  | [] => (0, 0, 11)
  | x :: r => if tkErr c x ≠ 0 then (0, 0, tkErr c x) else if x < 128 then (tkVal v c x, (c : Int) + 1, 0) else decL (tkVal v c x) (c + 1) r

theorem drop_cons {zs : List Int} {k : Nat} (h : k < zs.length) : zs.drop k = zs.getD k 0 :: zs.drop (k + 1) := by
  rw [List.drop_eq_getElem_cons h]
  simp [List.getD, h]

theorem tkVal_bd (v : Int) (c : Nat) (x : Int) (hv0 : 0 ≤ v) (hv1 : v < 128 ^ c) (hx : 0 ≤ x) : 0 ≤ tkVal v c x ∧ tkVal v c x < 128 ^ (c + 1) := by
  have hp := pow128_pos c
  have hm : 0 ≤ x % 128 := by omega
  have h1 := Int.mul_nonneg hm (Int.le_of_lt hp)
  have h2 : x % 128 * 128 ^ c ≤ 127 * 128 ^ c := Int.mul_le_mul_of_nonneg_right (by omega) (Int.le_of_lt hp)
  unfold tkVal
  rw [Int.pow_succ]
  omega

theorem tk_more_le {c : Nat} {x : Int} (hc : c ≤ 9) (he : tkErr c x = 0) (hx : 128 ≤ x) : c ≤ 8 := by
  have := tkErr_nine he
  omega

theorem ret3i {a a' b b' c c' : Int} {k l m : IntKind} (h : a = a') (h' : b = b') (h'' : c = c') : Ending.returned (.tuple #[.int k a, .int l b, .int m c]) = .returned (.tuple #[.int k a', .int l b', .int m c']) := by rw [h, h', h'']

set_option maxRecDepth 100000 in
set_option maxHeartbeats 400000 in
theorem decode_any (a : Option Addr) (zs : List Int) (cap : Nat) (w : World) (hs : Seg w a zs) (hl : zs.length ≤ 140737488355328) :
    Calls Tryz.prog 114 #[.slice a zs.length cap] w fun e w' => e = .returned (.tuple #[.int .u64 (decL 0 0 zs).1, .int .i64 (decL 0 0 zs).2.1, .int .i64 (decL 0 0 zs).2.2]) ∧ Below w.heap.size w w' := by
  go_enter Tryz.func114, Tryz.ntmps114
  go_wp2
  go_loopw [13] (fun i wr => ∃ (k : Nat) (v : Int), k ≤ zs.length ∧ i = .int .i64 k ∧ k ≤ 9 ∧ 0 ≤ v ∧ v < 128 ^ k ∧ TK wr w.heap.size v k ∧ Below w.heap.size w wr ∧ decL 0 0 zs = decL v k (zs.drop k)) (fun i _ => zs.length - (intOf i).toNat)
  case atStart => exact ⟨0, 0, Nat.zero_le _, rfl, by omega, by omega, by decide, heap_alloc_new w _, (Below.refl _ _).alloc (Nat.le_refl _) _, rfl⟩
  case round =>
    obtain ⟨k, v, hk, rfl, hk9, hv0, hv1, ht, hb, hd⟩ := hrel
    by_cases hlt : k < zs.length
    · have hsr := hs.old hb
      obtain ⟨b, off, rfl, hcell⟩ := hsr.at_ k hlt
      have hx := hs.bd k
      rw [drop_cons hlt] at hd
      generalize zs.getD k 0 = x at *
      by_cases he : tkErr k x = 0
      · by_cases h7 : x < 128
        · have HD : Hid (decL 0 0 zs = (tkVal v k x, (k : Int) + 1, 0)) := by rw [hd]; show decL v k _ = _; simp [decL, he, h7]
          clear hd
          go_wp2_with (go_at_call 131; refine (take_ends _ v k x _ ht hv0 hv1 (by omega) (by omega) hk9 he).mono ?_; rintro e w1 ⟨rfl, ht1, hg1⟩)
          go_ret3
          rw [HD.out]
          exact ⟨rfl, hb.trans (below_of_grown hg1 (Nat.le_refl _) hb.size)⟩
        · have HD : Hid (decL 0 0 zs = decL (tkVal v k x) (k + 1) (zs.drop (k + 1))) := by rw [hd]; show decL v k _ = _; simp [decL, he, h7]
          have hk8 := tk_more_le hk9 he (by omega)
          have hbd := tkVal_bd v k x hv0 hv1 (by omega)
          clear hd
          go_wp2_with (go_at_call 131; refine (take_more _ v k x _ ht hv0 hv1 (by omega) (by omega) hk9 he).mono ?_; rintro e w1 ⟨rfl, ht1, hg1⟩)
          go_roundw
          case rel => exact ⟨k + 1, tkVal v k x, by omega, by go_num, by omega, hbd.1, hbd.2, ht1, hb.trans (below_of_grown hg1 (Nat.le_refl _) hb.size), HD.out⟩
          case measure => simp [intOf]; omega
      · have HD : Hid (decL 0 0 zs = (0, 0, tkErr k x)) := by rw [hd]; show decL v k _ = _; simp [decL, he]
        have hne : (tkErr k x != 0) = true := by simp [he]
        clear hd
        go_wp2_with (go_at_call 131; refine (take_bad _ v k x _ ht (by omega) (by omega) hk9 he).mono ?_; rintro e w1 ⟨rfl, ht1, hg1⟩)
        go_ret3
        rw [HD.out]
        exact ⟨rfl, hb.trans (below_of_grown hg1 (Nat.le_refl _) hb.size)⟩
    · have HD : Hid (decL 0 0 zs = (0, 0, 11)) := by rw [hd, List.drop_of_length_le (by omega)]; rfl
      clear hd
      go_wp2
      go_ret3
      rw [HD.out]
      exact ⟨rfl, hb⟩
end Go.Proofs.YtalojcpgkgeofaaGreatDoor
