import Derived.Test.YtjoghmdjnkdokaaDoorPk
import Derived.Test.YtjoghmdjnkdokaaDoorPb
import Derived.Test.YtjoghmdjnkdokaaDoorProg
import Derived.Test.YtjoghmdjnkdokaaDoorPa
import Derived.Test.YtjoghmdjnkdokaaDoorPg
import Derived.WalkKit
import Derived.WalkSpells
import Derived.WalkLawsBesides
import Derived.Laws.BitsAllLaws
import Derived.Test.YtjoghmdjnkdokaaDoorPj
namespace Go.Proofs.YtjoghmdjnkdokaaDoor
open Go.RowKit Go.Shelf
set_option linter.unusedVariables false
set_option linter.unusedSimpArgs false

/-! The law's devices. -/
structure Dv22 where
  p : Nat
  q : Nat
  ac : Bool
  a0 : Option Addr
  l0 : List Int
  k0 : Nat
  a1 : Option Addr
  l1 : List Int
  k1 : Nat
structure Df22 (W : World) (d : Dv22) : Prop where
  s0 : Seg W d.a0 d.l0
  s1 : Seg W d.a1 d.l1
  z0 : d.l0.length ≤ d.k0
  z1 : d.l1.length ≤ d.k1
  n0 : d.a0 = none → d.k0 = 0
  n1 : d.a1 = none → d.k1 = 0
  p : d.p < 18446744073709551616
  q : d.q < 18446744073709551616
def Dv22.P (d : Dv22) : Nat := 64 + d.p % 9
def Dv22.Q (d : Dv22) : Nat := 1 + d.q % 4
def Dv22.A (d : Dv22) : Int := if d.ac then 1 else 0
def Dv22.S (d : Dv22) : Fs21 := nw21 d.P d.Q d.A (d.l0.take (d.P * d.Q)) (d.l1.take (d.P * d.Q))
theorem Dv22.bd (d : Dv22) : 64 ≤ d.P ∧ d.P ≤ 72 ∧ 1 ≤ d.Q ∧ d.Q ≤ 4 ∧ d.P * d.Q ≤ 288 := by
  have h1 : 64 ≤ d.P ∧ d.P ≤ 72 := by unfold Dv22.P; omega
  have h2 : 1 ≤ d.Q ∧ d.Q ≤ 4 := by unfold Dv22.Q; omega
  exact ⟨h1.1, h1.2, h2.1, h2.2, Nat.mul_le_mul h1.2 h2.2⟩
theorem Dv22.ok (d : Dv22) : Ok21 d.S := by
  have := d.bd
  exact ok21_new d.P d.Q d.A _ _ (by omega) (by omega) (by unfold Dv22.A; split <;> omega)
/-- What made leaves. -/
def Dm22 (w w' : World) (d : Dv22) (e : Ending) : Prop := ∃ f F g G, e = .returned (.tuple #[.pointer (some ⟨f, 0, none⟩), .pointer (some ⟨g, 0, none⟩), .bool true]) ∧ Fl21 w' f F d.S ∧ Rl21d w' g G d.S ∧ (∀ k, F k → w.heap.size ≤ k) ∧ (∀ k, G k → w.heap.size ≤ k) ∧ (∀ k, F k → ¬ G k) ∧ Below w.heap.size w w'
theorem slice_none22 (W : World) : (Instr.slice 22 (.slice none 0 0) none (some (.int .i64 0)) none).run Tryd.prog W = .ok (.slice none 0 0) W := by kernel_rfl
theorem slice_hi22 (a : Option Addr) (n k m : Nat) (hnk : n ≤ k) (hm : m ≤ k) (hn : a = none → k = 0) (W : World) : (Instr.slice 22 (.slice a n k) none (some (.int .i64 (m : Int))) none).run Tryd.prog W = .ok (.slice a m k) W := by
  have h1 : (m : Int) ≤ (k : Int) := by omega
  have h0 : (0 : Int) ≤ (m : Int) := by omega
  cases a with
  | none =>
    have := hn rfl
    subst this
    obtain rfl : m = 0 := by omega
    obtain rfl : n = 0 := by omega
    exact slice_none22 W
  | some x => go_simp
end Go.Proofs.YtjoghmdjnkdokaaDoor

namespace Go.Proofs.YtjoghmdjnkdokaaDoor
open Go.RowKit
set_option linter.unusedVariables false

/-- What a byte is refused by (0: it is not), where so many came ahead of it. -/
def tkErr (c : Nat) (x : Int) : Int := if c = 9 ∧ 1 < x then 10 else if 0 < c ∧ x = 0 then 12 else 0
/-- A Taker in a block of its own. -/
def TK (w : World) (b : Nat) (v : Int) (c : Nat) : Prop := w.heap[b]? = some (.cells #[.int .u64 v, .int .i64 c] 158 (0, 0))

set_option maxRecDepth 100000 in
theorem refuses_any (b : Nat) (v : Int) (c : Nat) (x : Int) (w : World) (h : TK w b v c) (hx0 : 0 ≤ x) (hc9 : c ≤ 9) :
    Calls Tryd.prog 89 #[.pointer (some ⟨b, 0, none⟩), .int .u8 x] w fun e w' => e = .returned (.int .i64 (tkErr c x)) ∧ w' = w := by
  have h1 := two_cell1 h
  by_cases a1 : c = 9
  · subst a1
    by_cases a2 : 1 < x
    · go_enter Tryd.func89, Tryd.ntmps89
      go_wp2
      go_ret
      exact ⟨by simp [tkErr, a2], rfl⟩
    · by_cases a3 : x = 0
      · subst a3
        go_enter Tryd.func89, Tryd.ntmps89
        go_wp2
        go_ret
        exact ⟨by simp [tkErr], rfl⟩
      · have a4 : (x == 0) = false := by simp [a3]
        go_enter Tryd.func89, Tryd.ntmps89
        go_wp2
        go_ret
        exact ⟨by have : ¬ 1 < x := by omega
                  simp [tkErr, this, a3], rfl⟩
  · have a0 : ((c : Int) == 9) = false := by simp; omega
    by_cases a2 : 0 < c
    · have a5 : (0 : Int) < (c : Int) := by omega
      by_cases a3 : x = 0
      · subst a3
        go_enter Tryd.func89, Tryd.ntmps89
        go_wp2
        go_ret
        exact ⟨by simp [tkErr, a1, a2], rfl⟩
      · have a4 : (x == 0) = false := by simp [a3]
        go_enter Tryd.func89, Tryd.ntmps89
        go_wp2
        go_ret
        exact ⟨by simp [tkErr, a1, a3], rfl⟩
    · have a6 : c = 0 := by omega
      subst a6
      go_enter Tryd.func89, Tryd.ntmps89
      go_wp2
      go_ret
      exact ⟨by simp [tkErr], rfl⟩

set_option maxRecDepth 100000 in
theorem reset_any (b : Nat) (v : Int) (c : Nat) (w : World) (h : TK w b v c) :
    Calls Tryd.prog 90 #[.pointer (some ⟨b, 0, none⟩)] w fun e w' => e = .returned (.tuple #[]) ∧ TK w' b 0 0 ∧ w.grownBy w' (some b) := by
  have h0 := two_cell0 h
  have h1 := two_cell1 h
  have f0 := two_free h 0
  have f1 := two_free h 1
  go_enter Tryd.func90, Tryd.ntmps90
  go_wp2
  go_end0
  exact ⟨rfl, two_set1 (two_set0 h _) _, grownBy_set (grownBy_set (World.grownBy.refl _ _) _) _⟩

set_option maxRecDepth 100000 in
set_option maxHeartbeats 400000 in
theorem take_bad (b : Nat) (v : Int) (c : Nat) (x : Int) (w : World) (h : TK w b v c) (hx0 : 0 ≤ x) (hx1 : x ≤ 255) (hc9 : c ≤ 9) (he : tkErr c x ≠ 0) :
    Calls Tryd.prog 88 #[.pointer (some ⟨b, 0, none⟩), .int .u8 x] w fun e w' => e = .returned (.tuple #[.int .u64 0, .bool false, .int .i64 (tkErr c x)]) ∧ TK w' b 0 0 ∧ w.grownBy w' (some b) := by
  have hn : (tkErr c x != 0) = true := by simp [he]
  clear he
  go_enter Tryd.func88, Tryd.ntmps88
  go_wp2_with (first
    | (go_at_call 89; refine (refuses_any b v c x _ h hx0 hc9).mono ?_; rintro e w' ⟨rfl, rfl⟩)
    | (go_at_call 90; refine (reset_any b v c _ h).mono ?_; rintro e w1 ⟨rfl, ht, hg⟩))
  go_ret3
  exact ⟨rfl, ht, hg⟩

theorem tkErr_nine {c : Nat} {x : Int} (h : tkErr c x = 0) : c = 9 → x ≤ 1 := by
  intro e; subst e
  unfold tkErr at h
  split at h
  · cases h
  · rename_i n; simp at n; omega

set_option maxRecDepth 100000 in
set_option maxHeartbeats 400000 in
theorem take_more (b : Nat) (v : Int) (c : Nat) (x : Int) (w : World) (h : TK w b v c) (hv0 : 0 ≤ v) (hv1 : v < 128 ^ c) (hx0 : 128 ≤ x) (hx1 : x ≤ 255) (hc9 : c ≤ 9) (he : tkErr c x = 0) :
    Calls Tryd.prog 88 #[.pointer (some ⟨b, 0, none⟩), .int .u8 x] w fun e w' => e = .returned (.tuple #[.int .u64 0, .bool false, .int .i64 0]) ∧ TK w' b (tkVal v c x) (c + 1) ∧ w.grownBy w' (some b) := by
  have h0 := two_cell0 h
  have h1 := two_cell1 h
  have f0 := two_free h 0
  have f1 := two_free h 1
  have hn : (tkErr c x != 0) = false := by simp [he]
  have ea : (bits .and .u8 x 128 != 0) = true := by rw [and128 x (by omega) hx1, if_pos hx0]; rfl
  have HO : Hid (bits .or .u64 v (IntKind.u64.wrap (IntKind.u64.wrap (bits .and .u8 x 127) * 2 ^ (7 * c))) = tkVal v c x) := tk_or v c x hv0 hv1 hc9 (by omega) hx1 (tkErr_nine he)
  clear he hv1
  go_enter Tryd.func88, Tryd.ntmps88
  go_wp2_with (first
    | (go_at_call 89; refine (refuses_any b v c x _ h (by omega) hc9).mono ?_; rintro e w' ⟨rfl, rfl⟩))
  go_region
  go_wp2
  rw [HO.out]
  go_ret3
  exact ⟨rfl, two_set1 (two_set0 h _) _, grownBy_drew (grownBy_set (grownBy_set (World.grownBy.refl _ _) _) _)⟩

set_option maxRecDepth 100000 in
set_option maxHeartbeats 400000 in
theorem take_ends (b : Nat) (v : Int) (c : Nat) (x : Int) (w : World) (h : TK w b v c) (hv0 : 0 ≤ v) (hv1 : v < 128 ^ c) (hx0 : 0 ≤ x) (hx1 : x ≤ 127) (hc9 : c ≤ 9) (he : tkErr c x = 0) :
    Calls Tryd.prog 88 #[.pointer (some ⟨b, 0, none⟩), .int .u8 x] w fun e w' => e = .returned (.tuple #[.int .u64 (tkVal v c x), .bool true, .int .i64 0]) ∧ TK w' b 0 0 ∧ w.grownBy w' (some b) := by
  have h0 := two_cell0 h
  have h1 := two_cell1 h
  have f0 := two_free h 0
  have f1 := two_free h 1
  have hn : (tkErr c x != 0) = false := by simp [he]
  have ea : (bits .and .u8 x 128 != 0) = false := by rw [and128 x (by omega) (by omega), if_neg (by omega)]; rfl
  have HO : Hid (bits .or .u64 v (IntKind.u64.wrap (IntKind.u64.wrap (bits .and .u8 x 127) * 2 ^ (7 * c))) = tkVal v c x) := tk_or v c x hv0 hv1 hc9 (by omega) (by omega) (tkErr_nine he)
  clear he hv1
  go_enter Tryd.func88, Tryd.ntmps88
  go_wp2_with (first
    | (go_at_call 89; refine (refuses_any b v c x _ h (by omega) hc9).mono ?_; rintro e w' ⟨rfl, rfl⟩))
  go_region
  go_wp2_with fail
  rw [HO.out]
  refine (reset_any b (tkVal v c x) (c + 1) _ (by exact two_set1 (two_set0 h _) _)).mono ?_
  rintro e w1 ⟨rfl, ht, hg⟩
  go_wp2
  go_ret3
  exact ⟨rfl, ht, grownBy_trans (grownBy_drew (grownBy_set (grownBy_set (World.grownBy.refl _ _) _) _)) hg⟩
end Go.Proofs.YtjoghmdjnkdokaaDoor

namespace Go.Proofs.YtjoghmdjnkdokaaDoor
open Go.RowKit
set_option linter.unusedVariables false

/-- The number at the front, how many bytes it has, and the error: behind the first so many bytes. -/
def decL (v : Int) (c : Nat) : List Int → Int × Int × Int
  | [] => (0, 0, 11)
  | x :: r => if tkErr c x ≠ 0 then (0, 0, tkErr c x) else if x < 128 then (tkVal v c x, (c : Int) + 1, 0) else decL (tkVal v c x) (c + 1) r

theorem drop_cons {zs : List Int} {k : Nat} (h : k < zs.length) : zs.drop k = zs.getD k 0 :: zs.drop (k + 1) := by
  rw [List.drop_eq_getElem_cons h]
  simp [List.getD, h]

theorem tkVal_bd (v : Int) (c : Nat) (x : Int) (hv0 : 0 ≤ v) (hv1 : v < 128 ^ c) (hx : 0 ≤ x) : 0 ≤ tkVal v c x ∧ tkVal v c x < 128 ^ (c + 1) := by
  have hp := pow128_pos c
  have hm : 0 ≤ x % 128 := by omega
  have h1 := Int.mul_nonneg hm (Int.le_of_lt hp)
  have h2 : x % 128 * 128 ^ c ≤ 127 * 128 ^ c := Int.mul_le_mul_of_nonneg_right (by omega) (Int.le_of_lt hp)
  unfold tkVal
  rw [Int.pow_succ]
  omega

theorem tk_more_le {c : Nat} {x : Int} (hc : c ≤ 9) (he : tkErr c x = 0) (hx : 128 ≤ x) : c ≤ 8 := by
  have := tkErr_nine he
  omega

theorem ret3i {a a' b b' c c' : Int} {k l m : IntKind} (h : a = a') (h' : b = b') (h'' : c = c') : Ending.returned (.tuple #[.int k a, .int l b, .int m c]) = .returned (.tuple #[.int k a', .int l b', .int m c']) := by rw [h, h', h'']

set_option maxRecDepth 100000 in
set_option maxHeartbeats 400000 in
theorem decode_any (a : Option Addr) (zs : List Int) (cap : Nat) (w : World) (hs : Seg w a zs) (hl : zs.length ≤ 140737488355328) :
    Calls Tryd.prog 82 #[.slice a zs.length cap] w fun e w' => e = .returned (.tuple #[.int .u64 (decL 0 0 zs).1, .int .i64 (decL 0 0 zs).2.1, .int .i64 (decL 0 0 zs).2.2]) ∧ Below w.heap.size w w' := by
  go_enter Tryd.func82, Tryd.ntmps82
  go_wp2
  go_loopw [13] (fun i wr => ∃ (k : Nat) (v : Int), k ≤ zs.length ∧ i = .int .i64 k ∧ k ≤ 9 ∧ 0 ≤ v ∧ v < 128 ^ k ∧ TK wr w.heap.size v k ∧ Below w.heap.size w wr ∧ decL 0 0 zs = decL v k (zs.drop k)) (fun i _ => zs.length - (intOf i).toNat)
  case atStart => exact ⟨0, 0, Nat.zero_le _, rfl, by omega, by omega, by decide, heap_alloc_new w _, (Below.refl _ _).alloc (Nat.le_refl _) _, rfl⟩
  case round =>
    obtain ⟨k, v, hk, rfl, hk9, hv0, hv1, ht, hb, hd⟩ := hrel
    by_cases hlt : k < zs.length
    · have hsr := hs.old hb
      obtain ⟨b, off, rfl, hcell⟩ := hsr.at_ k hlt
      have hx := hs.bd k
      rw [drop_cons hlt] at hd
      generalize zs.getD k 0 = x at *
      by_cases he : tkErr k x = 0
      · by_cases h7 : x < 128
        · have HD : Hid (decL 0 0 zs = (tkVal v k x, (k : Int) + 1, 0)) := by rw [hd]; show decL v k _ = _; simp [decL, he, h7]
          clear hd
          go_wp2_with (go_at_call 88; refine (take_ends _ v k x _ ht hv0 hv1 (by omega) (by omega) hk9 he).mono ?_; rintro e w1 ⟨rfl, ht1, hg1⟩)
          go_ret3
          rw [HD.out]
          exact ⟨rfl, hb.trans (below_of_grown hg1 (Nat.le_refl _) hb.size)⟩
        · have HD : Hid (decL 0 0 zs = decL (tkVal v k x) (k + 1) (zs.drop (k + 1))) := by rw [hd]; show decL v k _ = _; simp [decL, he, h7]
          have hk8 := tk_more_le hk9 he (by omega)
          have hbd := tkVal_bd v k x hv0 hv1 (by omega)
          clear hd
          go_wp2_with (go_at_call 88; refine (take_more _ v k x _ ht hv0 hv1 (by omega) (by omega) hk9 he).mono ?_; rintro e w1 ⟨rfl, ht1, hg1⟩)
          go_roundw
          case rel => exact ⟨k + 1, tkVal v k x, by omega, by go_num, by omega, hbd.1, hbd.2, ht1, hb.trans (below_of_grown hg1 (Nat.le_refl _) hb.size), HD.out⟩
          case measure => simp [intOf]; omega
      · have HD : Hid (decL 0 0 zs = (0, 0, tkErr k x)) := by rw [hd]; show decL v k _ = _; simp [decL, he]
        have hne : (tkErr k x != 0) = true := by simp [he]
        clear hd
        go_wp2_with (go_at_call 88; refine (take_bad _ v k x _ ht (by omega) (by omega) hk9 he).mono ?_; rintro e w1 ⟨rfl, ht1, hg1⟩)
        go_ret3
        rw [HD.out]
        exact ⟨rfl, hb.trans (below_of_grown hg1 (Nat.le_refl _) hb.size)⟩
    · have HD : Hid (decL 0 0 zs = (0, 0, 11)) := by rw [hd, List.drop_of_length_le (by omega)]; rfl
      clear hd
      go_wp2
      go_ret3
      rw [HD.out]
      exact ⟨rfl, hb⟩
end Go.Proofs.YtjoghmdjnkdokaaDoor

namespace Go.Proofs.YtjoghmdjnkdokaaDoor
open Go.RowKit Go.Shelf
set_option linter.unusedVariables false
set_option linter.unusedSimpArgs false

/-! The landed flash's Load: bytes that are alike, and the reader. -/
theorem below_drewN24 {B : Nat} {w w' : World} (h : Below B w w') (n : Nat) : Below B w (w'.drewN n) := ⟨h.os, h.tape, h.output, h.size, h.block⟩
theorem getD_take24 {L M : List Int} {k : Nat} (h : L.take k = M.take k) (h1 : k < L.length) (h2 : k < M.length) (h3 : L.getD k 0 = M.getD k 0) : L.take (k + 1) = M.take (k + 1) := by
  rw [List.take_add_one, List.take_add_one, h]
  simp only [List.getD_eq_getElem?_getD, List.getElem?_eq_getElem h1, List.getElem?_eq_getElem h2, Option.getD_some] at h3 ⊢
  rw [h3]
theorem getD_ne24 {L M : List Int} {k : Nat} (h3 : L.getD k 0 ≠ M.getD k 0) : L ≠ M := fun e => h3 (by rw [e])
set_option maxRecDepth 100000 in
set_option maxHeartbeats 2000000 in
theorem peqs24 (a b : Option Addr) (ca cb : Nat) (L M : List Int) (n : Nat) (w : World) (hx : Seg w a L) (hy : Seg w b M) (hn : Hid (L.length = n)) (hm : Hid (M.length = n)) (hl : n ≤ 1073741824) :
    Calls Tryd.prog 45 #[.slice a n ca, .slice b n cb] w fun e w' => e = .returned (.bool (decide (L = M))) ∧ Below w.heap.size w w' := by
  have KEY : Hid (∀ wr, (∃ d, wr = w.drewN d) → Seg wr a L ∧ Seg wr b M) := by
    rintro wr ⟨d, rfl⟩
    exact ⟨hx.drewN d, hy.drewN d⟩
  clear hx hy
  go_enter Tryd.func45, Tryd.ntmps45
  go_wp2_with fail
  go_loopw [13] (fun ti wr => ∃ k : Nat, k ≤ n ∧ ti = .int .i64 k ∧ (∃ d, wr = w.drewN d) ∧ L.take k = M.take k) (fun ti _ => n - (intOf ti).toNat)
  case atStart => exact ⟨0, Nat.zero_le _, rfl, ⟨0, rfl⟩, rfl⟩
  case round =>
    obtain ⟨k, hk, rfl, hd, hT⟩ := hrel
    obtain ⟨sx, sy⟩ := KEY.out wr hd
    obtain ⟨d, hd⟩ := hd
    have HD : Hid (wr = w.drewN d) := hd
    have HTK : Hid (L.take k = M.take k) := hT
    clear hd hT
    by_cases h1 : k < n
    · have h1i : (k : Int) < (n : Int) := by omega
      obtain ⟨b1, o1, rfl, t1⟩ := sx.at_ k (by rw [hn.out]; exact h1)
      obtain ⟨b2, o2, rfl, t2⟩ := sy.at_ k (by rw [hm.out]; exact h1)
      clear sx sy
      have HLT : Hid (k < L.length ∧ k < M.length) := ⟨by rw [hn.out]; exact h1, by rw [hm.out]; exact h1⟩
      obtain ⟨x, hx⟩ : ∃ x, x = L.getD k 0 := ⟨_, rfl⟩
      obtain ⟨y, hy⟩ : ∃ y, y = M.getD k 0 := ⟨_, rfl⟩
      rw [← hx] at t1
      rw [← hy] at t2
      have HXY : Hid (x = L.getD k 0 ∧ y = M.getD k 0) := ⟨hx, hy⟩
      clear hx hy
      by_cases hxy : x = y
      · subst hxy
        go_wp2_with fail
        go_quiet (fail)
        go_wp2_with fail
        go_roundw
        case rel => exact ⟨k + 1, by omega, by go_num, ⟨d + nq, by rw [HD.out]; simp [World.drewN]; try omega⟩, getD_take24 HTK.out HLT.out.1 HLT.out.2 (by rw [← HXY.out.1, ← HXY.out.2])⟩
        case measure => simp [intOf]; omega
      · go_wp2_with fail
        go_quiet (fail)
        go_wp2_with fail
        go_ret
        have : L ≠ M := getD_ne24 (k := k) (by rw [← HXY.out.1, ← HXY.out.2]; exact hxy)
        refine ⟨by simp [this], ?_⟩
        rw [HD.out]
        first | exact below_drewN24 (below_drewN24 (Below.refl _ _) d) _ | exact below_drewN24 (Below.refl _ _) _
    · have h1i : ¬ (k : Int) < (n : Int) := by omega
      go_wp2_with fail
      go_ret
      have : L = M := by
        have h := HTK.out
        rw [List.take_of_length_le (by rw [hn.out]; omega), List.take_of_length_le (by rw [hm.out]; omega)] at h
        exact h
      exact ⟨by simp [this], by rw [HD.out]; exact below_drewN24 (Below.refl _ _) d⟩
end Go.Proofs.YtjoghmdjnkdokaaDoor

namespace Go.Proofs.YtjoghmdjnkdokaaDoor
open Go.RowKit
set_option linter.unusedVariables false

/-- What was written is taken up, whatever stands behind. -/
theorem dec_enc : ∀ (f c : Nat) (u v : Int) (rest : List Int), c + f = 9 → 0 ≤ v → v < 2 * 128 ^ f → (c = 0 ∨ 0 < v) → decL u c (encL f v ++ rest) = (u + v * 128 ^ c, (c : Int) + ((encL f v).length : Int), 0)
  | 0, c, u, v, rest, hc, h0, h1, h2 => by
    obtain rfl : c = 9 := by omega
    simp at h1
    have hv : 0 < v := by rcases h2 with h | h; · omega
                          · exact h
    obtain rfl : v = 1 := by omega
    simp [encL, decL, tkErr, tkVal]
  | f + 1, c, u, v, rest, hc, h0, h1, h2 => by
    have hp := pow128_pos f
    have h3 : (128 : Int) ^ (f + 1) = 128 ^ f * 128 := Int.pow_succ _ _
    have hc9 : c ≠ 9 := by omega
    by_cases h7 : 127 < v
    · have ih := dec_enc f (c + 1) (tkVal u c (v % 128 + 128)) (v / 128) rest (by omega) (by omega) (by omega) (Or.inr (by omega))
      have ht : tkErr c (v % 128 + 128) = 0 := by
        unfold tkErr
        rw [if_neg (by omega), if_neg (by omega)]
      have e : encL (f + 1) v = (v % 128 + 128) :: encL f (v / 128) := by rw [encL, if_pos h7]
      rw [e, List.cons_append, decL, if_neg (by simp [ht]), if_neg (by omega), ih]
      have e2 : (v % 128 + 128) % 128 = v % 128 := by omega
      have e3 : v / 128 * 128 ^ (c + 1) = (v / 128 * 128) * 128 ^ c := by rw [Int.pow_succ, Int.mul_assoc, Int.mul_comm 128, ← Int.mul_assoc]
      have e4 : v % 128 * 128 ^ c + v / 128 * 128 ^ (c + 1) = v * 128 ^ c := by
        rw [e3, ← Int.add_mul]
        congr 1
        omega
      have e5 : tkVal u c (v % 128 + 128) + v / 128 * 128 ^ (c + 1) = u + v * 128 ^ c := by
        unfold tkVal
        rw [e2, Int.add_assoc, e4]
      rw [e5]
      simp only [List.length_cons, Prod.mk.injEq, true_and, and_true]
      omega
    · have e : encL (f + 1) v = [v] := by rw [encL, if_neg h7]
      have ht : tkErr c v = 0 := by
        unfold tkErr
        rw [if_neg (by omega), if_neg (by omega)]
      rw [e, List.singleton_append, decL, if_neg (by simp [ht]), if_pos (by omega)]
      have e2 : v % 128 = v := by omega
      simp [tkVal, e2]
theorem dec_encI (v : Int) (rest : List Int) (h0 : 0 ≤ v) (h1 : v ≤ 18446744073709551615) : decL 0 0 (encI v ++ rest) = (v, ((encI v).length : Int), 0) := by
  have := dec_enc 9 0 0 v rest rfl h0 (by rw [pow9]; omega) (Or.inl rfl)
  simp at this
  exact this

theorem encA_drop (zs : List Int) (k : Nat) (h : k < zs.length) (rest : List Int) : (encA zs ++ rest).drop (encA (zs.take k)).length = encI (zs.getD k 0) ++ (encA (zs.drop (k + 1)) ++ rest) := by
  have e : zs = zs.take k ++ (zs.getD k 0 :: zs.drop (k + 1)) := by rw [← drop_cons h, List.take_append_drop]
  have e2 : encA zs = encA (zs.take k) ++ (encI (zs.getD k 0) ++ encA (zs.drop (k + 1))) := by
    conv => lhs; rw [e]
    rw [encA_append]; rfl
  rw [e2, List.append_assoc, List.drop_left, List.append_assoc]
theorem encA_take_lt (zs : List Int) (k : Nat) (h : k < zs.length) : (encA (zs.take k)).length + (encI (zs.getD k 0)).length ≤ (encA zs).length := by
  have := congrArg List.length (encA_drop zs k h [])
  simp only [List.length_drop, List.length_append, List.append_nil] at this
  have := (encI_len (zs.getD k 0)).1
  omega
end Go.Proofs.YtjoghmdjnkdokaaDoor

namespace Go.Proofs.YtjoghmdjnkdokaaDoor
open Go.RowKit
set_option linter.unusedVariables false

/-- What is taken is just what is written. -/
theorem dec_ok : ∀ (zs : List Int) (c : Nat) (u w n : Int), c ≤ 9 → 0 ≤ u → u < 128 ^ c → (∀ z ∈ zs, 0 ≤ z ∧ z ≤ 255) → decL u c zs = (w, n, 0) →
    ∃ (m : Nat) (v : Int), 1 ≤ m ∧ m ≤ zs.length ∧ n = (c : Int) + (m : Int) ∧ 0 ≤ v ∧ v < 2 * 128 ^ (9 - c) ∧ w = u + v * 128 ^ c ∧ zs.take m = encL (9 - c) v ∧ (0 < c → 0 < v)
  | [], c, u, w, n, _, _, _, _, h => by simp [decL] at h
  | x :: r, c, u, w, n, hc, hu0, hu1, hz, h => by
    have hx := hz x (by simp)
    have hp := pow128_pos c
    rw [decL] at h
    by_cases he : tkErr c x = 0
    · rw [if_neg (by simp [he])] at h
      have h9 := tkErr_nine he
      have hne : 0 < c → x ≠ 0 := by
        intro h1 h2
        subst h2
        unfold tkErr at he
        split at he
        · cases he
        · rw [if_pos ⟨h1, rfl⟩] at he; cases he
      by_cases h7 : x < 128
      · rw [if_pos h7] at h
        simp only [Prod.mk.injEq, and_true] at h
        obtain ⟨rfl, rfl⟩ := h
        have e2 : x % 128 = x := by omega
        have hp9 := pow128_pos (9 - c)
        refine ⟨1, x, by omega, by simp, by omega, hx.1, ?_, by unfold tkVal; rw [e2], ?_, fun h1 => by have := hne h1; omega⟩
        · by_cases e : c = 9
          · subst e; have := h9 rfl; simp; omega
          · have h1 : (128 : Int) ^ 1 ≤ 128 ^ (9 - c) := pow128_mono (by omega)
            simp at h1
            omega
        · cases 9 - c with
          | zero => simp [encL]
          | succ f => rw [encL, if_neg (by omega)]; simp
      · rw [if_neg h7] at h
        have hc8 := tk_more_le hc he (by omega)
        have hbd := tkVal_bd u c x hu0 hu1 hx.1
        obtain ⟨m, v, h1, h2, h3, h4, h5, h6, h8, h10⟩ := dec_ok r (c + 1) (tkVal u c x) w n (by omega) hbd.1 hbd.2 (fun z hz' => hz z (by simp [hz'])) h
        have hv := h10 (by omega)
        obtain ⟨f, hf⟩ : ∃ f, 9 - c = f + 1 := ⟨9 - c - 1, by omega⟩
        have hf2 : 9 - (c + 1) = f := by omega
        rw [hf2] at h5 h8
        have e3 : (128 : Int) ^ (f + 1) = 128 ^ f * 128 := Int.pow_succ _ _
        have hpf := pow128_pos f
        have d1 : (x % 128 + v * 128) / 128 = v := by omega
        have d2 : (x % 128 + v * 128) % 128 + 128 = x := by omega
        refine ⟨m + 1, x % 128 + v * 128, by omega, by simp; omega, by omega, by omega, by rw [hf, e3]; omega, ?_, ?_, fun _ => by omega⟩
        · rw [h6]
          unfold tkVal
          rw [Int.add_mul, Int.pow_succ, Int.add_assoc, Int.mul_assoc, Int.mul_comm 128]
        · rw [hf, encL, if_pos (by omega), d1, d2, List.take_succ_cons, h8]
    · rw [if_pos (by simp [he])] at h
      simp at h
      exact absurd h.2.2 he

theorem decI_ok (zs : List Int) (w n : Int) (hz : ∀ z ∈ zs, 0 ≤ z ∧ z ≤ 255) (h : decL 0 0 zs = (w, n, 0)) : ∃ m : Nat, 1 ≤ m ∧ m ≤ zs.length ∧ n = (m : Int) ∧ 0 ≤ w ∧ w ≤ 18446744073709551615 ∧ zs.take m = encI w := by
  obtain ⟨m, v, h1, h2, h3, h4, h5, h6, h7, _⟩ := dec_ok zs 0 0 w n (by omega) (by omega) (by decide) hz h
  have := pow9
  simp only [Nat.sub_zero, Int.pow_zero, Int.mul_one, Int.zero_add] at h5 h6 h7
  subst h6
  exact ⟨m, h1, h2, by omega, h4, by omega, h7⟩

theorem dec_bad : ∀ (zs : List Int) (c : Nat) (u : Int), (decL u c zs).2.2 ≠ 0 → (decL u c zs).1 = 0 ∧ (decL u c zs).2.1 = 0
  | [], c, u, h => by simp [decL]
  | x :: r, c, u, h => by
    rw [decL] at h ⊢
    by_cases he : tkErr c x = 0
    · rw [if_neg (by simp [he])] at h ⊢
      by_cases h7 : x < 128
      · rw [if_pos h7] at h; simp at h
      · rw [if_neg h7] at h ⊢; exact dec_bad r _ _ h
    · rw [if_pos (by simp [he])]; simp

/-- No number's form begins another one's. -/
theorem enc_prefix (u v : Int) (hu0 : 0 ≤ u) (hu1 : u ≤ 18446744073709551615) (hv0 : 0 ≤ v) (hv1 : v ≤ 18446744073709551615) (h : encI u = (encI v).take (encI u).length) : u = v := by
  have h1 := dec_encI v [] hv0 hv1
  have h2 := dec_encI u ((encI v).drop (encI u).length) hu0 hu1
  have e : encI u ++ (encI v).drop (encI u).length = encI v := by
    conv => lhs; arg 1; rw [h]
    exact List.take_append_drop _ _
  rw [e] at h2
  rw [List.append_nil] at h1
  rw [h1] at h2
  simp at h2
  exact h2.1.symm
end Go.Proofs.YtjoghmdjnkdokaaDoor

namespace Go.Proofs.YtjoghmdjnkdokaaDoor
open Go.RowKit Go.Shelf
set_option linter.unusedVariables false
set_option linter.unusedSimpArgs false

/-! The landed flash's reader: take, number. -/
def rs24 (a : Option Addr) (c d : Nat) : Option Addr := if c = d then a else a.map fun x => x.add d
theorem seg_rs24 {V : World} {a : Option Addr} {L : List Int} {c d : Nat} (h : Seg V a L) (hd : d ≤ L.length) (hc : L.length ≤ c) : Seg V (rs24 a c d) (L.drop d) := by
  unfold rs24
  by_cases h0 : L.drop d = []
  · rw [h0]
    exact SegK.nil (by decide) _ _
  · have hl : d < L.length := by
      rcases Nat.lt_or_ge d L.length with x | x
      · exact x
      · exact absurd (List.drop_eq_nil_of_le x) h0
    rw [if_neg (by omega)]
    obtain ⟨b, off, rfl, _⟩ := h.at_ 0 (by omega)
    have hadd : (⟨b, off, none⟩ : Addr).add d = ⟨b, off + d, none⟩ := by simp [Addr.add]
    simp only [Option.map_some, hadd]
    exact h.drop d
theorem slice_none24 (W : World) : (Instr.slice 22 (.slice none 0 0) (some (.int .i64 0)) none none).run Tryd.prog W = .ok (.slice none 0 0) W := by kernel_rfl
theorem slice_lo24 (a : Option Addr) (n k m : Nat) (hnk : n ≤ k) (hm : m ≤ n) (hn : a = none → k = 0) (W : World) : (Instr.slice 22 (.slice a n k) (some (.int .i64 (m : Int))) none none).run Tryd.prog W = .ok (.slice (rs24 a k m) (n - m) (k - m)) W := by
  have h1 : (m : Int) ≤ (n : Int) := by omega
  have h2 : (n : Int) ≤ (k : Int) := by omega
  have h0 : (0 : Int) ≤ (m : Int) := by omega
  cases a with
  | none =>
    have := hn rfl
    subst this
    obtain rfl : n = 0 := by omega
    obtain rfl : m = 0 := by omega
    exact slice_none24 W
  | some x =>
    unfold rs24
    by_cases hkm : k = m
    · subst hkm
      obtain rfl : n = k := by omega
      go_simp
    · have hkm' : ¬ ((k : Int) = (m : Int)) := by omega
      go_simp
abbrev Rs24 := List Int × Bool
def tk24 (n : Nat) (r : Rs24) : Rs24 := if r.1.length < n then (r.1, true) else (r.1.drop n, r.2)
def tkv24 (n : Nat) (L : List Int) : List Int := if L.length < n then [] else L.take n
def nok24 (lo hi : Int) (L : List Int) : Bool := decide ((decL 0 0 L).2.2 = 0) && (decide (lo ≤ (decL 0 0 L).1) && decide ((decL 0 0 L).1 ≤ hi))
def nb24 (lo hi : Int) (r : Rs24) : Rs24 := if nok24 lo hi r.1 then (r.1.drop (decL 0 0 r.1).2.1.toNat, r.2) else (r.1, true)
def nbv24 (lo hi : Int) (L : List Int) : Int := if nok24 lo hi L then (decL 0 0 L).1 else lo
/-- The reader in memory: what is left lies in the bytes that came in, whose world is w. -/
structure Rm24 (w V : World) (p : Nat) (L : List Int) (x : Bool) : Prop where
  bl : Below w.heap.size w V
  ge : w.heap.size ≤ p
  blk : ∃ a n k, V.heap[p]? = some (.cells #[.slice a n k, .bool x] 96 (0, 0)) ∧ Seg w a L ∧ L.length = n ∧ n ≤ k ∧ (a = none → k = 0)
theorem Rm24.kp {w V W : World} {p : Nat} {L : List Int} {x : Bool} {S : Nat → Prop} (h : Rm24 w V p L x) (hk : Kp S V W) (hS : ∀ k, S k → w.heap.size ≤ k) (hp : ¬ S p) : Rm24 w W p L x := by
  obtain ⟨h1, h2, a, n, k, h3, h4⟩ := h
  exact ⟨h1.trans (hk.below hS h1.size), h2, a, n, k, hk.heap h3 hp, h4⟩
theorem Rm24.lt {w V : World} {p : Nat} {L : List Int} {x : Bool} (h : Rm24 w V p L x) : p < V.heap.size := by
  obtain ⟨h1, h2, a, n, k, h3, h4⟩ := h
  exact (Array.getElem?_eq_some_iff.1 h3).1
theorem Rm24.wrong {w V : World} {p : Nat} {L : List Int} {x : Bool} (h : Rm24 w V p L x) : Rm24 w (V.setCell ⟨p, 1, none⟩ (.bool true)) p L true ∧ Kp (fun k => k = p) V (V.setCell ⟨p, 1, none⟩ (.bool true)) := by
  obtain ⟨h1, h2, a, n, k, h3, h4⟩ := h
  have hk : Kp (fun k => k = p) V (V.setCell ⟨p, 1, none⟩ (.bool true)) := Kp.set (S := fun k => k = p) rfl _
  exact ⟨⟨h1.trans (hk.below (fun i e => by omega) h1.size), h2, a, n, k, two_set1 h3 _, h4⟩, hk⟩
section
variable {w V : World} {p : Nat} {L : List Int} {x : Bool}
theorem Rm24.rest (h : Rm24 w V p L x) (a : Option Addr) (n k : Nat) (hb : V.heap[p]? = some (.cells #[.slice a n k, .bool x] 96 (0, 0))) (hs : Seg w a L) (hl : L.length = n) (hn : n ≤ k) (hz : a = none → k = 0) (m : Nat) (hm : m ≤ n) : Rm24 w (V.setCell ⟨p, 0, none⟩ (.slice (rs24 a k m) (n - m) (k - m))) p (L.drop m) x ∧ Kp (fun k => k = p) V (V.setCell ⟨p, 0, none⟩ (.slice (rs24 a k m) (n - m) (k - m))) := by
  have hk : Kp (fun k => k = p) V (V.setCell ⟨p, 0, none⟩ (.slice (rs24 a k m) (n - m) (k - m))) := Kp.set (S := fun k => k = p) rfl _
  refine ⟨⟨h.bl.trans (hk.below (fun i e => by have := h.ge; omega) h.bl.size), h.ge, _, _, _, two_set0 hb _, seg_rs24 hs (by omega) (by omega), by simp; omega, by omega, fun e => ?_⟩, hk⟩
  have : a = none := by
    unfold rs24 at e
    split at e
    · exact e
    · cases a with
      | none => rfl
      | some y => cases e
  have := hz this
  omega
set_option maxRecDepth 100000 in
set_option maxHeartbeats 4000000 in
theorem ptake24 (h : Rm24 w V p L x) (m : Nat) (hm : m ≤ 4096) (hL : L.length ≤ 140737488355328) :
    Calls Tryd.prog 69 #[.pointer (some ⟨p, 0, none⟩), .int .i64 (m : Int)] V fun e V' => (∃ a k, e = .returned (.slice a (tkv24 m L).length k) ∧ Seg w a (tkv24 m L) ∧ (tkv24 m L).length ≤ k ∧ (a = none → k = 0)) ∧ Rm24 w V' p (tk24 m (L, x)).1 (tk24 m (L, x)).2 ∧ Kp (fun k => k = p) V V' := by
  have HR : Hid (Rm24 w V p L x) := h
  obtain ⟨h1, h2, a, n, k, h3, hs, hl, hn, hz⟩ := h
  have c0 := two_cell0 h3
  have c1 := two_cell1 h3
  have f0 := two_free h3
  have HB : Hid (V.heap[p]? = some (.cells #[.slice a n k, .bool x] 96 (0, 0))) := h3
  have HL : Hid (Seg w a L ∧ L.length = n ∧ n ≤ k ∧ (a = none → k = 0)) := ⟨hs, hl, hn, hz⟩
  by_cases hc : n < m
  · have hci : (n : Int) < (m : Int) := by omega
    have hT : tkv24 m L = [] := by unfold tkv24; rw [if_pos (by omega)]
    have hR : tk24 m (L, x) = (L, true) := by unfold tk24; rw [if_pos (by show L.length < m; omega)]
    rw [hT, hR]
    clear hT hR h3 hs hl hn hz h1 h2
    go_enter Tryd.func69, Tryd.ntmps69
    go_wp2_with fail
    go_ret
    exact ⟨⟨none, 0, rfl, SegK.nil (by decide) _ _, by simp, fun _ => rfl⟩, HR.out.wrong⟩
  · have hci : ¬ (n : Int) < (m : Int) := by omega
    have hT : tkv24 m L = L.take m := by unfold tkv24; rw [if_neg (by omega)]
    have hR : tk24 m (L, x) = (L.drop m, x) := by unfold tk24; rw [if_neg (by show ¬ L.length < m; omega)]
    have hTl : (L.take m).length = m := by simp; omega
    rw [hT, hR, hTl]
    have X1 := slice_hi22 a n k m hn (by omega) hz
    have X2 := slice_lo24 a n k m hn (by omega) hz
    have HX : Hid (m ≤ n ∧ (L.take m).length = m) := ⟨by omega, hTl⟩
    clear hT hR h3 hs hl hn hz h1 h2 hc hTl
    go_enter Tryd.func69, Tryd.ntmps69
    go_wp2_with fail
    go_ret
    obtain ⟨hs, hl, hn, hz⟩ := HL.out
    have := HX.out.1
    exact ⟨⟨a, k, rfl, hs.take m, by omega, hz⟩, HR.out.rest a n k HB.out hs hl hn hz m HX.out.1⟩
set_option maxRecDepth 100000 in
set_option maxHeartbeats 4000000 in
theorem pnumber24 (h : Rm24 w V p L x) (lo hi : Nat) (hlo : lo ≤ 4096) (hhi : hi ≤ 1099511627776) (hL : L.length ≤ 1073741824) :
    Calls Tryd.prog 70 #[.pointer (some ⟨p, 0, none⟩), .int .i64 (lo : Int), .int .i64 (hi : Int)] V fun e V' => e = .returned (.int .i64 (nbv24 lo hi L)) ∧ Rm24 w V' p (nb24 lo hi (L, x)).1 (nb24 lo hi (L, x)).2 ∧ Kp (fun k => k = p) V V' := by
  have HR : Hid (Rm24 w V p L x) := h
  have hplt := h.lt
  obtain ⟨h1, h2, a, n, k, h3, hs, hl, hn, hz⟩ := h
  have hby := hs.mem
  obtain ⟨dv, dn, de, hd⟩ : ∃ dv dn de, decL 0 0 L = (dv, dn, de) := ⟨_, _, _, rfl⟩
  have HD := decode_any a L k V (hs.old h1) (by omega)
  rw [hl, hd] at HD
  have hfact : de = 0 → ∃ m : Nat, 1 ≤ m ∧ m ≤ n ∧ dn = (m : Int) ∧ 0 ≤ dv ∧ dv ≤ 18446744073709551615 := by
    intro he
    rw [he] at hd
    obtain ⟨m, g1, g2, g3, g4, g5, _⟩ := decI_ok L dv dn hby hd
    exact ⟨m, g1, by omega, g3, g4, g5⟩
  have hNok : nok24 lo hi L = (decide (de = 0) && (decide ((lo : Int) ≤ dv) && decide (dv ≤ (hi : Int)))) := by unfold nok24; rw [hd]
  have hNv : nbv24 lo hi L = if (decide (de = 0) && (decide ((lo : Int) ≤ dv) && decide (dv ≤ (hi : Int)))) then dv else (lo : Int) := by unfold nbv24; rw [hNok, hd]
  have hNb : nb24 lo hi (L, x) = if (decide (de = 0) && (decide ((lo : Int) ≤ dv) && decide (dv ≤ (hi : Int)))) then (L.drop dn.toNat, x) else (L, true) := by unfold nb24; simp only; rw [hNok, hd]
  have c0 := two_cell0 h3
  have HBK : Hid (∀ V', Below V.heap.size V V' → Rm24 w V' p L x ∧ V'.heap[p]? = some (.cells #[.slice a n k, .bool x] 96 (0, 0)) ∧ Kp (fun k => k = p) V V') := fun V' hV' => by
    have hk : Kp (fun k => k = p) V V' := Kp.of_below hV'
    have hb := (hV'.block p hplt).trans h3
    exact ⟨⟨h1.trans (hV'.mono h1.size), h2, a, n, k, hb, hs, hl, hn, hz⟩, hb, hk⟩
  have HL : Hid (Seg w a L ∧ L.length = n ∧ n ≤ k ∧ (a = none → k = 0)) := ⟨hs, hl, hn, hz⟩
  have u1 : IntKind.u64.wrap (lo : Int) = (lo : Int) := IntWalk.u64_in _ (by omega)
  have u2 : IntKind.u64.wrap (hi : Int) = (hi : Int) := IntWalk.u64_in _ (by omega)
  have HNB : Hid (nbv24 lo hi L = (if (decide (de = 0) && (decide ((lo : Int) ≤ dv) && decide (dv ≤ (hi : Int)))) then dv else (lo : Int)) ∧ nb24 lo hi (L, x) = if (decide (de = 0) && (decide ((lo : Int) ≤ dv) && decide (dv ≤ (hi : Int)))) then (L.drop dn.toNat, x) else (L, true)) := ⟨hNv, hNb⟩
  clear hs hl hn hz h1 h2 h3 hd hby hNok hNv hNb
  by_cases he : de = 0
  · subst he
    obtain ⟨m, g1, g2, rfl, g4, g5⟩ := hfact rfl
    have HG : Hid (m ≤ n) := g2
    clear hfact
    by_cases hlv : dv < (lo : Int)
    · have HE : Hid (nbv24 lo hi L = (lo : Int) ∧ nb24 lo hi (L, x) = (L, true)) := by
        have e1 : (decide ((0 : Int) = 0) && (decide ((lo : Int) ≤ dv) && decide (dv ≤ (hi : Int)))) = false := by simp; omega
        have := HNB.out
        rw [e1] at this
        exact this
      clear HNB
      go_enter Tryd.func70, Tryd.ntmps70
      go_wp2_with fail
      refine HD.mono ?_
      rintro e V1 ⟨rfl, b1⟩
      obtain ⟨r1, r2, r3⟩ := HBK.out V1 b1
      have d0 := two_cell0 r2
      have d1 := two_cell1 r2
      have f0 := two_free r2
      have HR1 : Hid (Rm24 w V1 p L x ∧ Kp (fun k => k = p) V V1) := ⟨r1, r3⟩
      clear r1 r2 r3 HBK HD
      go_wp2_with fail
      go_ret
      rw [HE.out.1, HE.out.2]
      exact ⟨rfl, HR1.out.1.wrong.1, HR1.out.2.trans HR1.out.1.wrong.2 (fun i _ h => h)⟩
    · by_cases hhv : (hi : Int) < dv
      · have HE : Hid (nbv24 lo hi L = (lo : Int) ∧ nb24 lo hi (L, x) = (L, true)) := by
          have e1 : (decide ((0 : Int) = 0) && (decide ((lo : Int) ≤ dv) && decide (dv ≤ (hi : Int)))) = false := by simp; omega
          have := HNB.out
          rw [e1] at this
          exact this
        clear HNB
        go_enter Tryd.func70, Tryd.ntmps70
        go_wp2_with fail
        refine HD.mono ?_
        rintro e V1 ⟨rfl, b1⟩
        obtain ⟨r1, r2, r3⟩ := HBK.out V1 b1
        have d0 := two_cell0 r2
        have d1 := two_cell1 r2
        have f0 := two_free r2
        have HR1 : Hid (Rm24 w V1 p L x ∧ Kp (fun k => k = p) V V1) := ⟨r1, r3⟩
        clear r1 r2 r3 HBK HD
        go_wp2_with fail
        go_ret
        rw [HE.out.1, HE.out.2]
        exact ⟨rfl, HR1.out.1.wrong.1, HR1.out.2.trans HR1.out.1.wrong.2 (fun i _ h => h)⟩
      · have HE : Hid (nbv24 lo hi L = dv ∧ nb24 lo hi (L, x) = (L.drop m, x)) := by
          have e1 : (decide ((0 : Int) = 0) && (decide ((lo : Int) ≤ dv) && decide (dv ≤ (hi : Int)))) = true := by simp; omega
          have := HNB.out
          rw [e1] at this
          exact this
        have v1 : IntKind.i64.wrap dv = dv := IntWalk.i64_in _ (by omega)
        clear HNB
        have X2 := slice_lo24 a n k m HL.out.2.2.1 HG.out HL.out.2.2.2
        go_enter Tryd.func70, Tryd.ntmps70
        go_wp2_with fail
        refine HD.mono ?_
        rintro e V1 ⟨rfl, b1⟩
        obtain ⟨r1, r2, r3⟩ := HBK.out V1 b1
        have d0 := two_cell0 r2
        have d1 := two_cell1 r2
        have f0 := two_free r2
        have HR1 : Hid (Rm24 w V1 p L x ∧ Kp (fun k => k = p) V V1 ∧ V1.heap[p]? = some (.cells #[.slice a n k, .bool x] 96 (0, 0))) := ⟨r1, r3, r2⟩
        clear r1 r2 r3 HBK HD
        go_wp2_with fail
        go_ret
        rw [HE.out.1, HE.out.2]
        obtain ⟨hs, hl, hn, hz⟩ := HL.out
        obtain ⟨q1, q2⟩ := HR1.out.1.rest a n k HR1.out.2.2 hs hl hn hz m HG.out
        exact ⟨rfl, q1, HR1.out.2.1.trans q2 (fun i _ h => h)⟩
  · have HE : Hid (nbv24 lo hi L = (lo : Int) ∧ nb24 lo hi (L, x) = (L, true)) := by
      have e1 : (decide (de = 0) && (decide ((lo : Int) ≤ dv) && decide (dv ≤ (hi : Int)))) = false := by simp; omega
      have := HNB.out
      rw [e1] at this
      exact this
    clear HNB hfact
    go_enter Tryd.func70, Tryd.ntmps70
    go_wp2_with fail
    refine HD.mono ?_
    rintro e V1 ⟨rfl, b1⟩
    obtain ⟨r1, r2, r3⟩ := HBK.out V1 b1
    have d0 := two_cell0 r2
    have d1 := two_cell1 r2
    have f0 := two_free r2
    have HR1 : Hid (Rm24 w V1 p L x ∧ Kp (fun k => k = p) V V1) := ⟨r1, r3⟩
    clear r1 r2 r3 HBK HD
    go_wp2_with fail
    go_ret
    rw [HE.out.1, HE.out.2]
    exact ⟨rfl, HR1.out.1.wrong.1, HR1.out.2.trans HR1.out.1.wrong.2 (fun i _ h => h)⟩
end
end Go.Proofs.YtjoghmdjnkdokaaDoor
