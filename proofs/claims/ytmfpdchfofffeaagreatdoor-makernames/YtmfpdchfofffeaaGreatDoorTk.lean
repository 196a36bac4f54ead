import Derived.Test.YtmfpdchfofffeaaGreatDoorProg
import Derived.Test.YtmfpdchfofffeaaGreatDoorMem
import Derived.Test.YtmfpdchfofffeaaGreatDoorBits
import Derived.WalkKit
import Derived.WalkSpells
import Derived.WalkLawsBesides
import Derived.Laws.BitsAllLaws
namespace Go.Proofs.YtmfpdchfofffeaaGreatDoor
open Go.RowKit
set_option linter.unusedVariables false
/-- What a byte is refused by (0: it is not), where so many came ahead of it. -/
def tkErr (c : Nat) (x : Int) : Int := if c = 9 ∧ 1 < x then 10 else if 0 < c ∧ x = 0 then 12 else 0
/-- A Taker in a block of its own. -/
def TK (w : World) (b : Nat) (v : Int) (c : Nat) : Prop := w.heap[b]? = some (.cells #[.int .u64 v, .int .i64 c] 270 (0, 0))

set_option maxRecDepth 100000 in
theorem refuses_any (b : Nat) (v : Int) (c : Nat) (x : Int) (w : World) (h : TK w b v c) (hx0 : 0 ≤ x) (hc9 : c ≤ 9) :
    Calls Tryz.prog 216 #[.pointer (some ⟨b, 0, none⟩), .int .u8 x] w fun e w' => e = .returned (.int .i64 (tkErr c x)) ∧ w' = w := by
  have h1 := two_cell1 h
  by_cases a1 : c = 9
  · subst a1
    by_cases a2 : 1 < x
    · go_enter Tryz.func216, Tryz.ntmps216
      go_wp2
      go_ret
      exact ⟨by simp [tkErr, a2], rfl⟩
    · by_cases a3 : x = 0
      · subst a3
        go_enter Tryz.func216, Tryz.ntmps216
        go_wp2
        go_ret
        exact ⟨by simp [tkErr], rfl⟩
      · have a4 : (x == 0) = false := by simp [a3]
        go_enter Tryz.func216, Tryz.ntmps216
        go_wp2
        go_ret
        exact ⟨by have : ¬ 1 < x := by omega
                  simp [tkErr, this, a3], rfl⟩
  · have a0 : ((c : Int) == 9) = false := by simp; omega
    by_cases a2 : 0 < c
    · have a5 : (0 : Int) < (c : Int) := by omega
      by_cases a3 : x = 0
      · subst a3
        go_enter Tryz.func216, Tryz.ntmps216
        go_wp2
        go_ret
        exact ⟨by simp [tkErr, a1, a2], rfl⟩
      · have a4 : (x == 0) = false := by simp [a3]
        go_enter Tryz.func216, Tryz.ntmps216
        go_wp2
        go_ret
        exact ⟨by simp [tkErr, a1, a3], rfl⟩
    · have a6 : c = 0 := by omega
      subst a6
      go_enter Tryz.func216, Tryz.ntmps216
      go_wp2
      go_ret
      exact ⟨by simp [tkErr], rfl⟩

set_option maxRecDepth 100000 in
theorem reset_any (b : Nat) (v : Int) (c : Nat) (w : World) (h : TK w b v c) :
    Calls Tryz.prog 217 #[.pointer (some ⟨b, 0, none⟩)] w fun e w' => e = .returned (.tuple #[]) ∧ TK w' b 0 0 ∧ w.grownBy w' (some b) := by
  have h0 := two_cell0 h
  have h1 := two_cell1 h
  have f0 := two_free h 0
  have f1 := two_free h 1
  go_enter Tryz.func217, Tryz.ntmps217
  go_wp2
  go_end0
  exact ⟨rfl, two_set1 (two_set0 h _) _, grownBy_set (grownBy_set (World.grownBy.refl _ _) _) _⟩

set_option maxRecDepth 100000 in
set_option maxHeartbeats 400000 in
theorem take_bad (b : Nat) (v : Int) (c : Nat) (x : Int) (w : World) (h : TK w b v c) (hx0 : 0 ≤ x) (hx1 : x ≤ 255) (hc9 : c ≤ 9) (he : tkErr c x ≠ 0) :
    Calls Tryz.prog 180 #[.pointer (some ⟨b, 0, none⟩), .int .u8 x] w fun e w' => e = .returned (.tuple #[.int .u64 0, .bool false, .int .i64 (tkErr c x)]) ∧ TK w' b 0 0 ∧ w.grownBy w' (some b) := by
  have hn : (tkErr c x != 0) = true := by simp [he]
  clear he
  go_enter Tryz.func180, Tryz.ntmps180
  go_wp2_with (first
    | (go_at_call 216; refine (refuses_any b v c x _ h hx0 hc9).mono ?_; rintro e w' ⟨rfl, rfl⟩)
    | (go_at_call 217; refine (reset_any b v c _ h).mono ?_; rintro e w1 ⟨rfl, ht, hg⟩))
  go_ret3
  exact ⟨rfl, ht, hg⟩

theorem tkErr_nine {c : Nat} {x : Int} (h : tkErr c x = 0) : c = 9 → x ≤ 1 := by
  intro e; subst e
  unfold tkErr at h
  split at h
  · cases h
  · rename_i n; simp at n; omega

set_option maxRecDepth 100000 in
set_option maxHeartbeats 400000 in
theorem take_more (b : Nat) (v : Int) (c : Nat) (x : Int) (w : World) (h : TK w b v c) (hv0 : 0 ≤ v) (hv1 : v < 128 ^ c) (hx0 : 128 ≤ x) (hx1 : x ≤ 255) (hc9 : c ≤ 9) (he : tkErr c x = 0) :
    Calls Tryz.prog 180 #[.pointer (some ⟨b, 0, none⟩), .int .u8 x] w fun e w' => e = .returned (.tuple #[.int .u64 0, .bool false, .int .i64 0]) ∧ TK w' b (tkVal v c x) (c + 1) ∧ w.grownBy w' (some b) := by
  have h0 := two_cell0 h
  have h1 := two_cell1 h
  have f0 := two_free h 0
  have f1 := two_free h 1
  have hn : (tkErr c x != 0) = false := by simp [he]
  have ea : (bits .and .u8 x 128 != 0) = true := by rw [and128 x (by omega) hx1, if_pos hx0]; rfl
  have HO : Hid (bits .or .u64 v (IntKind.u64.wrap (IntKind.u64.wrap (bits .and .u8 x 127) * 2 ^ (7 * c))) = tkVal v c x) := tk_or v c x hv0 hv1 hc9 (by omega) hx1 (tkErr_nine he)
  clear he hv1
  go_enter Tryz.func180, Tryz.ntmps180
  go_wp2_with (first
    | (go_at_call 216; refine (refuses_any b v c x _ h (by omega) hc9).mono ?_; rintro e w' ⟨rfl, rfl⟩))
  go_region
  go_wp2
  rw [HO.out]
  go_ret3
  exact ⟨rfl, two_set1 (two_set0 h _) _, grownBy_drew (grownBy_set (grownBy_set (World.grownBy.refl _ _) _) _)⟩

set_option maxRecDepth 100000 in
set_option maxHeartbeats 400000 in
theorem take_ends (b : Nat) (v : Int) (c : Nat) (x : Int) (w : World) (h : TK w b v c) (hv0 : 0 ≤ v) (hv1 : v < 128 ^ c) (hx0 : 0 ≤ x) (hx1 : x ≤ 127) (hc9 : c ≤ 9) (he : tkErr c x = 0) :
    Calls Tryz.prog 180 #[.pointer (some ⟨b, 0, none⟩), .int .u8 x] w fun e w' => e = .returned (.tuple #[.int .u64 (tkVal v c x), .bool true, .int .i64 0]) ∧ TK w' b 0 0 ∧ w.grownBy w' (some b) := by
  have h0 := two_cell0 h
  have h1 := two_cell1 h
  have f0 := two_free h 0
  have f1 := two_free h 1
  have hn : (tkErr c x != 0) = false := by simp [he]
  have ea : (bits .and .u8 x 128 != 0) = false := by rw [and128 x (by omega) (by omega), if_neg (by omega)]; rfl
  have HO : Hid (bits .or .u64 v (IntKind.u64.wrap (IntKind.u64.wrap (bits .and .u8 x 127) * 2 ^ (7 * c))) = tkVal v c x) := tk_or v c x hv0 hv1 hc9 (by omega) (by omega) (tkErr_nine he)
  clear he hv1
  go_enter Tryz.func180, Tryz.ntmps180
  go_wp2_with (first
    | (go_at_call 216; refine (refuses_any b v c x _ h (by omega) hc9).mono ?_; rintro e w' ⟨rfl, rfl⟩))
  go_region
  go_wp2_with fail
  rw [HO.out]
  refine (reset_any b (tkVal v c x) (c + 1) _ (by exact two_set1 (two_set0 h _) _)).mono ?_
  rintro e w1 ⟨rfl, ht, hg⟩
  go_wp2
  go_ret3
  exact ⟨rfl, ht, grownBy_trans (grownBy_drew (grownBy_set (grownBy_set (World.grownBy.refl _ _) _) _)) hg⟩
end Go.Proofs.YtmfpdchfofffeaaGreatDoor
