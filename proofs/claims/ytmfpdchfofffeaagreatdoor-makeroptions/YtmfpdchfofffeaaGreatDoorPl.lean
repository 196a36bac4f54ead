import Derived.Test.YtmfpdchfofffeaaGreatDoorProg
import Derived.Test.YtmfpdchfofffeaaGreatDoorPa
import Derived.WalkKit
import Derived.WalkSpells
import Derived.Laws.BytesArg
import Derived.Test.YtmfpdchfofffeaaGreatDoorPh
import Derived.WalkLawsBesides
import Derived.Laws.BitsAllLaws
import Derived.Test.YtmfpdchfofffeaaGreatDoorPj
import Derived.Test.YtmfpdchfofffeaaGreatDoorPg
import Derived.Laws.ResultCell
namespace Go.Proofs.YtmfpdchfofffeaaGreatDoor
open Go.RowKit
set_option linter.unusedVariables false
theorem run_conv_segS {P : Program} {w : World} {a : Option Addr} {zs : List Int} (cap : Nat) (h : Seg w a zs) (src e dst : TypeId) (hs : P.underlying src = some (.slice e)) (he : P.underlying e = some (.int .u8)) (hd : P.underlying dst = some .string) :
    (convert src dst (.slice a zs.length cap)).run P w = .ok (.string (strOfNums zs)) w := by
  by_cases hz : 0 < zs.length
  · obtain ⟨b, off, rfl, _⟩ := h.at_ 0 hz
    refine run_convert_bytes_arg w src e hs he b off zs.length cap zs rfl (fun i hi => ?_) dst hd
    obtain ⟨b', off', hb, hc⟩ := h.at_ i hi
    cases hb
    exact hc
  · have : zs = [] := List.eq_nil_of_length_eq_zero (by omega)
    subst this
    cases a with
    | none => exact run_convert_bytes_nil w src e hs he _ _ dst hd
    | some x =>
      rw [run_convert_bytes_string w src dst e _ _ cap hs he hd]
      have hl : (loadCells x 0).run P w = .ok (([] : List Int).map (Value.int .u8)).toArray w := by simp [loadCells, loadCellsFrom]
      have := run_bytesToString (P := P) w x 0 cap [] hl
      exact this

theorem str_injS {xs ys : List Int} (hx : ∀ z ∈ xs, 0 ≤ z ∧ z ≤ 255) (hy : ∀ z ∈ ys, 0 ≤ z ∧ z ≤ 255) : ((strOfNums xs).toList == (strOfNums ys).toList) = (xs == ys) := by
  rw [ByteArray.toList_eq, ByteArray.toList_eq, strOfNums_data, strOfNums_data]
  have key : ∀ (xs ys : List Int), (∀ z ∈ xs, 0 ≤ z ∧ z ≤ 255) → (∀ z ∈ ys, 0 ≤ z ∧ z ≤ 255) → (xs.map fun n => UInt8.ofNat n.toNat) = (ys.map fun n => UInt8.ofNat n.toNat) → xs = ys := by
    intro xs
    induction xs with
    | nil => intro ys _ _ h; cases ys with
      | nil => rfl
      | cons y r => simp at h
    | cons x r ih =>
      intro ys hx hy h
      cases ys with
      | nil => simp at h
      | cons y t =>
        simp only [List.map_cons, List.cons.injEq] at h
        have h1 := hx x (by simp)
        have h2 := hy y (by simp)
        have h3 := congrArg UInt8.toNat h.1
        simp at h3
        have h4 : x = y := by omega
        rw [h4, ih t (fun z hz => hx z (by simp [hz])) (fun z hz => hy z (by simp [hz])) h.2]
  rw [Bool.eq_iff_iff, beq_iff_eq, beq_iff_eq]
  exact ⟨key xs ys hx hy, fun h => by rw [h]⟩

end Go.Proofs.YtmfpdchfofffeaaGreatDoor

namespace Go.Proofs.YtmfpdchfofffeaaGreatDoor
open Go.RowKit
set_option linter.unusedVariables false
/-- What a byte is refused by (0: it is not), where so many came ahead of it. -/
def tkErr (c : Nat) (x : Int) : Int := if c = 9 ∧ 1 < x then 10 else if 0 < c ∧ x = 0 then 12 else 0
/-- A Taker in a block of its own. -/
def TK (w : World) (b : Nat) (v : Int) (c : Nat) : Prop := w.heap[b]? = some (.cells #[.int .u64 v, .int .i64 c] 270 (0, 0))

set_option maxRecDepth 100000 in
theorem refuses_any (b : Nat) (v : Int) (c : Nat) (x : Int) (w : World) (h : TK w b v c) (hx0 : 0 ≤ x) (hc9 : c ≤ 9) :
    Calls Tryz.prog 216 #[.pointer (some ⟨b, 0, none⟩), .int .u8 x] w fun e w' => e = .returned (.int .i64 (tkErr c x)) ∧ w' = w := by
  have h1 := two_cell1 h
  by_cases a1 : c = 9
  · subst a1
    by_cases a2 : 1 < x
    · go_enter Tryz.func216, Tryz.ntmps216
      go_wp2
      go_ret
      exact ⟨by simp [tkErr, a2], rfl⟩
    · by_cases a3 : x = 0
      · subst a3
        go_enter Tryz.func216, Tryz.ntmps216
        go_wp2
        go_ret
        exact ⟨by simp [tkErr], rfl⟩
      · have a4 : (x == 0) = false := by simp [a3]
        go_enter Tryz.func216, Tryz.ntmps216
        go_wp2
        go_ret
        exact ⟨by have : ¬ 1 < x := by omega
                  simp [tkErr, this, a3], rfl⟩
  · have a0 : ((c : Int) == 9) = false := by simp; omega
    by_cases a2 : 0 < c
    · have a5 : (0 : Int) < (c : Int) := by omega
      by_cases a3 : x = 0
      · subst a3
        go_enter Tryz.func216, Tryz.ntmps216
        go_wp2
        go_ret
        exact ⟨by simp [tkErr, a1, a2], rfl⟩
      · have a4 : (x == 0) = false := by simp [a3]
        go_enter Tryz.func216, Tryz.ntmps216
        go_wp2
        go_ret
        exact ⟨by simp [tkErr, a1, a3], rfl⟩
    · have a6 : c = 0 := by omega
      subst a6
      go_enter Tryz.func216, Tryz.ntmps216
      go_wp2
      go_ret
      exact ⟨by simp [tkErr], rfl⟩

set_option maxRecDepth 100000 in
theorem reset_any (b : Nat) (v : Int) (c : Nat) (w : World) (h : TK w b v c) :
    Calls Tryz.prog 217 #[.pointer (some ⟨b, 0, none⟩)] w fun e w' => e = .returned (.tuple #[]) ∧ TK w' b 0 0 ∧ w.grownBy w' (some b) := by
  have h0 := two_cell0 h
  have h1 := two_cell1 h
  have f0 := two_free h 0
  have f1 := two_free h 1
  go_enter Tryz.func217, Tryz.ntmps217
  go_wp2
  go_end0
  exact ⟨rfl, two_set1 (two_set0 h _) _, grownBy_set (grownBy_set (World.grownBy.refl _ _) _) _⟩

set_option maxRecDepth 100000 in
set_option maxHeartbeats 400000 in
theorem take_bad (b : Nat) (v : Int) (c : Nat) (x : Int) (w : World) (h : TK w b v c) (hx0 : 0 ≤ x) (hx1 : x ≤ 255) (hc9 : c ≤ 9) (he : tkErr c x ≠ 0) :
    Calls Tryz.prog 180 #[.pointer (some ⟨b, 0, none⟩), .int .u8 x] w fun e w' => e = .returned (.tuple #[.int .u64 0, .bool false, .int .i64 (tkErr c x)]) ∧ TK w' b 0 0 ∧ w.grownBy w' (some b) := by
  have hn : (tkErr c x != 0) = true := by simp [he]
  clear he
  go_enter Tryz.func180, Tryz.ntmps180
  go_wp2_with (first
    | (go_at_call 216; refine (refuses_any b v c x _ h hx0 hc9).mono ?_; rintro e w' ⟨rfl, rfl⟩)
    | (go_at_call 217; refine (reset_any b v c _ h).mono ?_; rintro e w1 ⟨rfl, ht, hg⟩))
  go_ret3
  exact ⟨rfl, ht, hg⟩

theorem tkErr_nine {c : Nat} {x : Int} (h : tkErr c x = 0) : c = 9 → x ≤ 1 := by
  intro e; subst e
  unfold tkErr at h
  split at h
  · cases h
  · rename_i n; simp at n; omega

set_option maxRecDepth 100000 in
set_option maxHeartbeats 400000 in
theorem take_more (b : Nat) (v : Int) (c : Nat) (x : Int) (w : World) (h : TK w b v c) (hv0 : 0 ≤ v) (hv1 : v < 128 ^ c) (hx0 : 128 ≤ x) (hx1 : x ≤ 255) (hc9 : c ≤ 9) (he : tkErr c x = 0) :
    Calls Tryz.prog 180 #[.pointer (some ⟨b, 0, none⟩), .int .u8 x] w fun e w' => e = .returned (.tuple #[.int .u64 0, .bool false, .int .i64 0]) ∧ TK w' b (tkVal v c x) (c + 1) ∧ w.grownBy w' (some b) := by
  have h0 := two_cell0 h
  have h1 := two_cell1 h
  have f0 := two_free h 0
  have f1 := two_free h 1
  have hn : (tkErr c x != 0) = false := by simp [he]
  have ea : (bits .and .u8 x 128 != 0) = true := by rw [and128 x (by omega) hx1, if_pos hx0]; rfl
  have HO : Hid (bits .or .u64 v (IntKind.u64.wrap (IntKind.u64.wrap (bits .and .u8 x 127) * 2 ^ (7 * c))) = tkVal v c x) := tk_or v c x hv0 hv1 hc9 (by omega) hx1 (tkErr_nine he)
  clear he hv1
  go_enter Tryz.func180, Tryz.ntmps180
  go_wp2_with (first
    | (go_at_call 216; refine (refuses_any b v c x _ h (by omega) hc9).mono ?_; rintro e w' ⟨rfl, rfl⟩))
  go_region
  go_wp2
  rw [HO.out]
  go_ret3
  exact ⟨rfl, two_set1 (two_set0 h _) _, grownBy_drew (grownBy_set (grownBy_set (World.grownBy.refl _ _) _) _)⟩

set_option maxRecDepth 100000 in
set_option maxHeartbeats 400000 in
theorem take_ends (b : Nat) (v : Int) (c : Nat) (x : Int) (w : World) (h : TK w b v c) (hv0 : 0 ≤ v) (hv1 : v < 128 ^ c) (hx0 : 0 ≤ x) (hx1 : x ≤ 127) (hc9 : c ≤ 9) (he : tkErr c x = 0) :
    Calls Tryz.prog 180 #[.pointer (some ⟨b, 0, none⟩), .int .u8 x] w fun e w' => e = .returned (.tuple #[.int .u64 (tkVal v c x), .bool true, .int .i64 0]) ∧ TK w' b 0 0 ∧ w.grownBy w' (some b) := by
  have h0 := two_cell0 h
  have h1 := two_cell1 h
  have f0 := two_free h 0
  have f1 := two_free h 1
  have hn : (tkErr c x != 0) = false := by simp [he]
  have ea : (bits .and .u8 x 128 != 0) = false := by rw [and128 x (by omega) (by omega), if_neg (by omega)]; rfl
  have HO : Hid (bits .or .u64 v (IntKind.u64.wrap (IntKind.u64.wrap (bits .and .u8 x 127) * 2 ^ (7 * c))) = tkVal v c x) := tk_or v c x hv0 hv1 hc9 (by omega) (by omega) (tkErr_nine he)
  clear he hv1
  go_enter Tryz.func180, Tryz.ntmps180
  go_wp2_with (first
    | (go_at_call 216; refine (refuses_any b v c x _ h (by omega) hc9).mono ?_; rintro e w' ⟨rfl, rfl⟩))
  go_region
  go_wp2_with fail
  rw [HO.out]
  refine (reset_any b (tkVal v c x) (c + 1) _ (by exact two_set1 (two_set0 h _) _)).mono ?_
  rintro e w1 ⟨rfl, ht, hg⟩
  go_wp2
  go_ret3
  exact ⟨rfl, ht, grownBy_trans (grownBy_drew (grownBy_set (grownBy_set (World.grownBy.refl _ _) _) _)) hg⟩
end Go.Proofs.YtmfpdchfofffeaaGreatDoor

namespace Go.Proofs.YtmfpdchfofffeaaGreatDoor
open Go.RowKit
set_option linter.unusedVariables false
/-- The number at the front, how many bytes it has, and the error: behind the first so many bytes. -/
def decL (v : Int) (c : Nat) : List Int → Int × Int × Int
  | [] => (0, 0, 11)
  | x :: r => if tkErr c x ≠ 0 then (0, 0, tkErr c x) else if x < 128 then (tkVal v c x, (c : Int) + 1, 0) else decL (tkVal v c x) (c + 1) r

theorem drop_cons {zs : List Int} {k : Nat} (h : k < zs.length) : zs.drop k = zs.getD k 0 :: zs.drop (k + 1) := by
  rw [List.drop_eq_getElem_cons h]
  simp [List.getD, h]

theorem tkVal_bd (v : Int) (c : Nat) (x : Int) (hv0 : 0 ≤ v) (hv1 : v < 128 ^ c) (hx : 0 ≤ x) : 0 ≤ tkVal v c x ∧ tkVal v c x < 128 ^ (c + 1) := by
  have hp := pow128_pos c
  have hm : 0 ≤ x % 128 := by omega
  have h1 := Int.mul_nonneg hm (Int.le_of_lt hp)
  have h2 : x % 128 * 128 ^ c ≤ 127 * 128 ^ c := Int.mul_le_mul_of_nonneg_right (by omega) (Int.le_of_lt hp)
  unfold tkVal
  rw [Int.pow_succ]
  omega

theorem tk_more_le {c : Nat} {x : Int} (hc : c ≤ 9) (he : tkErr c x = 0) (hx : 128 ≤ x) : c ≤ 8 := by
  have := tkErr_nine he
  omega

set_option maxRecDepth 100000 in
set_option maxHeartbeats 400000 in
theorem decode_any (a : Option Addr) (zs : List Int) (cap : Nat) (w : World) (hs : Seg w a zs) (hl : zs.length ≤ 140737488355328) :
    Calls Tryz.prog 148 #[.slice a zs.length cap] w fun e w' => e = .returned (.tuple #[.int .u64 (decL 0 0 zs).1, .int .i64 (decL 0 0 zs).2.1, .int .i64 (decL 0 0 zs).2.2]) ∧ Below w.heap.size w w' := by
  go_enter Tryz.func148, Tryz.ntmps148
  go_wp2
  go_loopw [13] (fun i wr => ∃ (k : Nat) (v : Int), k ≤ zs.length ∧ i = .int .i64 k ∧ k ≤ 9 ∧ 0 ≤ v ∧ v < 128 ^ k ∧ TK wr w.heap.size v k ∧ Below w.heap.size w wr ∧ decL 0 0 zs = decL v k (zs.drop k)) (fun i _ => zs.length - (intOf i).toNat)
  case atStart => exact ⟨0, 0, Nat.zero_le _, rfl, by omega, by omega, by decide, heap_alloc_new w _, (Below.refl _ _).alloc (Nat.le_refl _) _, rfl⟩
  case round =>
    obtain ⟨k, v, hk, rfl, hk9, hv0, hv1, ht, hb, hd⟩ := hrel
    by_cases hlt : k < zs.length
    · have hsr := hs.old hb
      obtain ⟨b, off, rfl, hcell⟩ := hsr.at_ k hlt
      have hx := hs.bd k
      rw [drop_cons hlt] at hd
      generalize zs.getD k 0 = x at *
      by_cases he : tkErr k x = 0
      · by_cases h7 : x < 128
        · have HD : Hid (decL 0 0 zs = (tkVal v k x, (k : Int) + 1, 0)) := by rw [hd]; show decL v k _ = _; simp [decL, he, h7]
          clear hd
          go_wp2_with (go_at_call 180; refine (take_ends _ v k x _ ht hv0 hv1 (by omega) (by omega) hk9 he).mono ?_; rintro e w1 ⟨rfl, ht1, hg1⟩)
          go_ret3
          rw [HD.out]
          exact ⟨rfl, hb.trans (below_of_grown hg1 (Nat.le_refl _) hb.size)⟩
        · have HD : Hid (decL 0 0 zs = decL (tkVal v k x) (k + 1) (zs.drop (k + 1))) := by rw [hd]; show decL v k _ = _; simp [decL, he, h7]
          have hk8 := tk_more_le hk9 he (by omega)
          have hbd := tkVal_bd v k x hv0 hv1 (by omega)
          clear hd
          go_wp2_with (go_at_call 180; refine (take_more _ v k x _ ht hv0 hv1 (by omega) (by omega) hk9 he).mono ?_; rintro e w1 ⟨rfl, ht1, hg1⟩)
          go_roundw
          case rel => exact ⟨k + 1, tkVal v k x, by omega, by go_num, by omega, hbd.1, hbd.2, ht1, hb.trans (below_of_grown hg1 (Nat.le_refl _) hb.size), HD.out⟩
          case measure => simp [intOf]; omega
      · have HD : Hid (decL 0 0 zs = (0, 0, tkErr k x)) := by rw [hd]; show decL v k _ = _; simp [decL, he]
        have hne : (tkErr k x != 0) = true := by simp [he]
        clear hd
        go_wp2_with (go_at_call 180; refine (take_bad _ v k x _ ht (by omega) (by omega) hk9 he).mono ?_; rintro e w1 ⟨rfl, ht1, hg1⟩)
        go_ret3
        rw [HD.out]
        exact ⟨rfl, hb.trans (below_of_grown hg1 (Nat.le_refl _) hb.size)⟩
    · have HD : Hid (decL 0 0 zs = (0, 0, 11)) := by rw [hd, List.drop_of_length_le (by omega)]; rfl
      clear hd
      go_wp2
      go_ret3
      rw [HD.out]
      exact ⟨rfl, hb⟩
end Go.Proofs.YtmfpdchfofffeaaGreatDoor

namespace Go.Proofs.YtmfpdchfofffeaaGreatDoor
open Go.RowKit Go.Shelf
set_option linter.unusedVariables false
def pn18 (x : Int) : List PanicEntry := [{ v := .iface 22 (.int .i64 x), recovered := false }]
/-- A reader in memory: at bytes of z are taken. -/
def Rq18 (V : World) (br : Nat) (za : Option Addr) (zn zc : Nat) (at_ : Nat) : Prop := V.heap[br]? = some (.cells #[.slice za zn zc, .int .i64 (at_ : Int)] 131 (0, 0))
theorem Rq18.kp {V V' : World} {br : Nat} {za : Option Addr} {zn zc at_ : Nat} (h : Rq18 V br za zn zc at_) {S : Nat → Prop} (hk : Kp S V V') (hn : ¬ S br) : Rq18 V' br za zn zc at_ := hk.heap h hn
theorem Rq18.set {V : World} {br : Nat} {za : Option Addr} {zn zc at_ : Nat} (h : Rq18 V br za zn zc at_) (x : Nat) : Rq18 (V.setCell ⟨br, 1, none⟩ (.int .i64 (x : Int))) br za zn zc x := by
  show (V.setCell ⟨br, 1, none⟩ (.int .i64 (x : Int))).heap[br]? = _
  have h : V.heap[br]? = some (.cells #[.slice za zn zc, .int .i64 (at_ : Int)] 131 (0, 0)) := h
  simp [World.setCell, Array.getElem?_modify, h]
set_option maxRecDepth 100000 in
theorem pmust18_t (w : World) : Calls Tryz.prog 101 #[.bool true] w fun e w' => e = .returned (.tuple #[]) ∧ w' = w := by
  go_enter Tryz.func101, Tryz.ntmps101
  go_wp2
  go_end0
  exact ⟨rfl, rfl⟩
set_option maxRecDepth 100000 in
theorem pmust18_f (w : World) : Calls Tryz.prog 101 #[.bool false] w fun e w' => e = .panicked (pn18 182) ∧ w' = w := by
  go_enter Tryz.func101, Tryz.ntmps101
  go_wp2
  exact ⟨rfl, rfl, rfl⟩
set_option maxRecDepth 100000 in
set_option maxHeartbeats 2000000 in
theorem ptk18_no (br n : Nat) (za : Option Addr) (zn zc at_ : Nat) (w : World) (h : Rq18 w br za zn zc at_) (hl : zn ≤ 140737488355328) (hat : at_ ≤ zn) (hn : zn < at_ + n) :
    Calls Tryz.prog 102 #[.pointer (some ⟨br, 0, none⟩), .int .i64 (n : Int)] w fun e w' => e = .panicked (pn18 182) ∧ Below w.heap.size w w' := by
  have HS : Hid (w.drew.cell? ⟨br, 0, none⟩ = some (.slice za zn zc) ∧ w.drew.cell? ⟨br, 1, none⟩ = some (.int .i64 (at_ : Int))) := ⟨cell18 (W := w.drew) h rfl, cell18 (W := w.drew) h rfl⟩
  have hw : IntKind.i64.wrap ((zn : Int) - (at_ : Int)) = (zn : Int) - (at_ : Int) := IntWalk.i64_in _ (by omega)
  have hd : decide ((n : Int) ≤ (zn : Int) - (at_ : Int)) = false := decide_eq_false (by omega)
  have hd2 : ¬ (n : Int) ≤ (zn : Int) - (at_ : Int) := by omega
  clear h hl hat hn
  go_enter Tryz.func102, Tryz.ntmps102
  go_wp2_with fail
  refine plain_region16 (fun V => V.cell? ⟨br, 0, none⟩ = some (.slice za zn zc) ∧ V.cell? ⟨br, 1, none⟩ = some (.int .i64 (at_ : Int))) 13 (by kernel_rfl) HS.out (fun hHeld => ?_)
  refine wpAnyK_take (i := 0) (v := .int .i64 (n : Int)) rfl (by kernel_rfl) (by kernel_rfl) (by kernel_rfl) (by kernel_rfl) (fun _ _ _ h => h) (Or.inl ⟨by rfl, fun w hSw => by go_simp⟩) hHeld ?_
  simp only [List.getElem_toArray, List.getElem_cons_zero, Act.put, List.setIfInBounds_toArray, List.set_cons_zero, List.set_cons_succ]
  refine wpAnyK_take (i := 1) (v := .pointer (some ⟨br, 0, none⟩)) rfl (by kernel_rfl) (by kernel_rfl) (by kernel_rfl) (by kernel_rfl) (fun _ _ _ h => h) (Or.inl ⟨by rfl, fun w hSw => by go_simp⟩) hHeld ?_
  simp only [List.getElem_toArray, List.getElem_cons_zero, List.getElem_cons_succ, Act.put, List.setIfInBounds_toArray, List.set_cons_zero, List.set_cons_succ]
  refine wpAnyK_take (i := 2) (v := .pointer (some ⟨br, 0, none⟩)) rfl (by kernel_rfl) (by kernel_rfl) (by kernel_rfl) (by kernel_rfl) (fun _ _ _ h => h) (Or.inl ⟨by rfl, fun w hSw => by go_simp⟩) hHeld ?_
  simp only [List.getElem_toArray, List.getElem_cons_zero, List.getElem_cons_succ, Act.put, List.setIfInBounds_toArray, List.set_cons_zero, List.set_cons_succ]
  refine wpAnyK_take (i := 3) (v := .pointer (some ⟨br, 0, none⟩)) rfl (by kernel_rfl) (by kernel_rfl) (by kernel_rfl) (by kernel_rfl) (fun _ _ _ h => h) (Or.inl ⟨by rfl, fun w hSw => by go_simp⟩) hHeld ?_
  simp only [List.getElem_toArray, List.getElem_cons_zero, List.getElem_cons_succ, Act.put, List.setIfInBounds_toArray, List.set_cons_zero, List.set_cons_succ]
  refine wpAnyK_take (i := 4) (v := .slice za zn zc) rfl (by kernel_rfl) (by kernel_rfl) (by kernel_rfl) (by kernel_rfl) (fun _ _ _ h => h) (Or.inl ⟨by rfl, fun w hSw => by go_simp⟩) hHeld ?_
  simp only [List.getElem_toArray, List.getElem_cons_zero, List.getElem_cons_succ, Act.put, List.setIfInBounds_toArray, List.set_cons_zero, List.set_cons_succ]
  refine wpAnyK_take (i := 5) (v := .int .i64 (zn : Int)) rfl (by kernel_rfl) (by kernel_rfl) (by kernel_rfl) (by kernel_rfl) (fun _ _ _ h => h) (Or.inl ⟨by rfl, fun w hSw => by go_simp⟩) hHeld ?_
  simp only [List.getElem_toArray, List.getElem_cons_zero, List.getElem_cons_succ, Act.put, List.setIfInBounds_toArray, List.set_cons_zero, List.set_cons_succ]
  refine wpAnyK_take (i := 6) (v := .pointer (some ⟨br, 0, none⟩)) rfl (by kernel_rfl) (by kernel_rfl) (by kernel_rfl) (by kernel_rfl) (fun _ _ _ h => h) (Or.inl ⟨by rfl, fun w hSw => by go_simp⟩) hHeld ?_
  simp only [List.getElem_toArray, List.getElem_cons_zero, List.getElem_cons_succ, Act.put, List.setIfInBounds_toArray, List.set_cons_zero, List.set_cons_succ]
  refine wpAnyK_take (i := 7) (v := .pointer (some ⟨br, 0, none⟩)) rfl (by kernel_rfl) (by kernel_rfl) (by kernel_rfl) (by kernel_rfl) (fun _ _ _ h => h) (Or.inl ⟨by rfl, fun w hSw => by go_simp⟩) hHeld ?_
  simp only [List.getElem_toArray, List.getElem_cons_zero, List.getElem_cons_succ, Act.put, List.setIfInBounds_toArray, List.set_cons_zero, List.set_cons_succ]
  refine wpAnyK_take (i := 8) (v := .pointer (some ⟨br, 1, none⟩)) rfl (by kernel_rfl) (by kernel_rfl) (by kernel_rfl) (by kernel_rfl) (fun _ _ _ h => h) (Or.inl ⟨by rfl, fun w hSw => by go_simp⟩) hHeld ?_
  simp only [List.getElem_toArray, List.getElem_cons_zero, List.getElem_cons_succ, Act.put, List.setIfInBounds_toArray, List.set_cons_zero, List.set_cons_succ]
  refine wpAnyK_take (i := 9) (v := .int .i64 (at_ : Int)) rfl (by kernel_rfl) (by kernel_rfl) (by kernel_rfl) (by kernel_rfl) (fun _ _ _ h => h) (Or.inl ⟨by rfl, fun w hSw => by go_simp⟩) hHeld ?_
  simp only [List.getElem_toArray, List.getElem_cons_zero, List.getElem_cons_succ, Act.put, List.setIfInBounds_toArray, List.set_cons_zero, List.set_cons_succ]
  refine wpAnyK_take (i := 10) (v := .int .i64 ((zn : Int) - (at_ : Int))) rfl (by kernel_rfl) (by kernel_rfl) (by kernel_rfl) (by kernel_rfl) (fun _ _ _ h => h) (Or.inl ⟨by rfl, fun w hSw => by go_simp⟩) hHeld ?_
  simp only [List.getElem_toArray, List.getElem_cons_zero, List.getElem_cons_succ, Act.put, List.setIfInBounds_toArray, List.set_cons_zero, List.set_cons_succ]
  refine wpAnyK_take (i := 11) (v := .bool false) rfl (by kernel_rfl) (by kernel_rfl) (by kernel_rfl) (by kernel_rfl) (fun _ _ _ h => h) (Or.inl ⟨by rfl, fun w hSw => by go_simp⟩) hHeld ?_
  simp only [List.getElem_toArray, List.getElem_cons_zero, List.getElem_cons_succ, Act.put, List.setIfInBounds_toArray, List.set_cons_zero, List.set_cons_succ]
  refine wpAnyK_one (i := 12) (by kernel_rfl) rfl (fun K hK => ?_)
  (try simp only [List.getElem_toArray, List.getElem_cons_zero, List.getElem_cons_succ, Act.put, List.setIfInBounds_toArray, List.set_cons_zero, List.set_cons_succ])
  go_simp
  refine (pmust18_f w.drew).mono ?_
  rintro e1 w1 ⟨rfl, hw1⟩
  subst w1
  exact ⟨rfl, rfl, (Below.refl _ _).drew⟩
set_option maxRecDepth 100000 in
set_option maxHeartbeats 2000000 in
theorem ptk18 (br n : Nat) (za : Option Addr) (zn zc at_ : Nat) (w : World) (h : Rq18 w br za zn zc at_) (hl : zn ≤ 140737488355328) (hc : zn ≤ zc) (hn : at_ + n ≤ zn) :
    Calls Tryz.prog 102 #[.pointer (some ⟨br, 0, none⟩), .int .i64 (n : Int)] w fun e w' => e = .returned (.slice (rs16 za zc at_) n (zc - at_)) ∧ Rq18 w' br za zn zc (at_ + n) ∧ Kp (fun k => k = br) w w' := by
  have HS : Hid (w.drew.cell? ⟨br, 0, none⟩ = some (.slice za zn zc) ∧ w.drew.cell? ⟨br, 1, none⟩ = some (.int .i64 (at_ : Int))) := ⟨cell18 (W := w.drew) h rfl, cell18 (W := w.drew) h rfl⟩
  have hw : IntKind.i64.wrap ((zn : Int) - (at_ : Int)) = (zn : Int) - (at_ : Int) := IntWalk.i64_in _ (by omega)
  have hd : decide ((n : Int) ≤ (zn : Int) - (at_ : Int)) = true := decide_eq_true (by omega)
  have hd2 : (n : Int) ≤ (zn : Int) - (at_ : Int) := by omega
  obtain ⟨t, ht⟩ : ∃ t, t = at_ + n := ⟨_, rfl⟩
  have hw3 : IntKind.i64.wrap ((at_ : Int) + (n : Int)) = (t : Int) := by rw [IntWalk.i64_in _ (by omega)]; omega
  have hw4 : IntKind.i64.wrap ((t : Int) - (n : Int)) = (at_ : Int) := by rw [IntWalk.i64_in _ (by omega)]; omega
  have h1 : (at_ : Int) ≤ (t : Int) := by omega
  have h2 : (t : Int) ≤ (zc : Int) := by omega
  have f1 : w.frozen? ⟨br, 1, none⟩ = false := by
    have h : w.heap[br]? = some (.cells #[.slice za zn zc, .int .i64 (at_ : Int)] 131 (0, 0)) := h
    simp [World.frozen?, h]
  have c0 : w.cell? ⟨br, 0, none⟩ = some (.slice za zn zc) := cell18 h rfl
  have c1 : w.cell? ⟨br, 1, none⟩ = some (.int .i64 (at_ : Int)) := cell18 h rfl
  have q2 := h.set t
  have HS2 : Hid ((w.setCell ⟨br, 1, none⟩ (.int .i64 (t : Int))).drew.drew.cell? ⟨br, 0, none⟩ = some (.slice za zn zc) ∧ (w.setCell ⟨br, 1, none⟩ (.int .i64 (t : Int))).drew.drew.cell? ⟨br, 1, none⟩ = some (.int .i64 (t : Int))) := ⟨cell18 (W := (w.setCell ⟨br, 1, none⟩ (.int .i64 (t : Int))).drew.drew) q2 rfl, cell18 (W := (w.setCell ⟨br, 1, none⟩ (.int .i64 (t : Int))).drew.drew) q2 rfl⟩
  have HQ : Hid (Rq18 (w.setCell ⟨br, 1, none⟩ (.int .i64 (t : Int))).drew.drew br za zn zc t) := q2
  have HK : Hid (Kp (fun k => k = br) w (w.setCell ⟨br, 1, none⟩ (.int .i64 (t : Int))).drew.drew) := by
    have k0 : Kp (fun k => k = br) w (w.setCell ⟨br, 1, none⟩ (.int .i64 (t : Int))) := Kp.set (S := fun k => k = br) rfl _
    exact k0.trans (Kp.of_below (((Below.refl _ _).drew).drew)) (fun _ _ x => x)
  have HTN : Hid (t = at_ + n) := ht
  have hnt : (t : Int) - (at_ : Int) = (n : Int) := by omega
  have htn : t - at_ = n := by omega
  clear h hl hc hn q2 ht
  go_enter Tryz.func102, Tryz.ntmps102
  go_wp2_with fail
  refine plain_region16 (fun V => V.cell? ⟨br, 0, none⟩ = some (.slice za zn zc) ∧ V.cell? ⟨br, 1, none⟩ = some (.int .i64 (at_ : Int))) 13 (by kernel_rfl) HS.out (fun hHeld => ?_)
  refine wpAnyK_take (i := 0) (v := .int .i64 (n : Int)) rfl (by kernel_rfl) (by kernel_rfl) (by kernel_rfl) (by kernel_rfl) (fun _ _ _ h => h) (Or.inl ⟨by rfl, fun w hSw => by go_simp⟩) hHeld ?_
  simp only [List.getElem_toArray, List.getElem_cons_zero, Act.put, List.setIfInBounds_toArray, List.set_cons_zero, List.set_cons_succ]
  refine wpAnyK_take (i := 1) (v := .pointer (some ⟨br, 0, none⟩)) rfl (by kernel_rfl) (by kernel_rfl) (by kernel_rfl) (by kernel_rfl) (fun _ _ _ h => h) (Or.inl ⟨by rfl, fun w hSw => by go_simp⟩) hHeld ?_
  simp only [List.getElem_toArray, List.getElem_cons_zero, List.getElem_cons_succ, Act.put, List.setIfInBounds_toArray, List.set_cons_zero, List.set_cons_succ]
  refine wpAnyK_take (i := 2) (v := .pointer (some ⟨br, 0, none⟩)) rfl (by kernel_rfl) (by kernel_rfl) (by kernel_rfl) (by kernel_rfl) (fun _ _ _ h => h) (Or.inl ⟨by rfl, fun w hSw => by go_simp⟩) hHeld ?_
  simp only [List.getElem_toArray, List.getElem_cons_zero, List.getElem_cons_succ, Act.put, List.setIfInBounds_toArray, List.set_cons_zero, List.set_cons_succ]
  refine wpAnyK_take (i := 3) (v := .pointer (some ⟨br, 0, none⟩)) rfl (by kernel_rfl) (by kernel_rfl) (by kernel_rfl) (by kernel_rfl) (fun _ _ _ h => h) (Or.inl ⟨by rfl, fun w hSw => by go_simp⟩) hHeld ?_
  simp only [List.getElem_toArray, List.getElem_cons_zero, List.getElem_cons_succ, Act.put, List.setIfInBounds_toArray, List.set_cons_zero, List.set_cons_succ]
  refine wpAnyK_take (i := 4) (v := .slice za zn zc) rfl (by kernel_rfl) (by kernel_rfl) (by kernel_rfl) (by kernel_rfl) (fun _ _ _ h => h) (Or.inl ⟨by rfl, fun w hSw => by go_simp⟩) hHeld ?_
  simp only [List.getElem_toArray, List.getElem_cons_zero, List.getElem_cons_succ, Act.put, List.setIfInBounds_toArray, List.set_cons_zero, List.set_cons_succ]
  refine wpAnyK_take (i := 5) (v := .int .i64 (zn : Int)) rfl (by kernel_rfl) (by kernel_rfl) (by kernel_rfl) (by kernel_rfl) (fun _ _ _ h => h) (Or.inl ⟨by rfl, fun w hSw => by go_simp⟩) hHeld ?_
  simp only [List.getElem_toArray, List.getElem_cons_zero, List.getElem_cons_succ, Act.put, List.setIfInBounds_toArray, List.set_cons_zero, List.set_cons_succ]
  refine wpAnyK_take (i := 6) (v := .pointer (some ⟨br, 0, none⟩)) rfl (by kernel_rfl) (by kernel_rfl) (by kernel_rfl) (by kernel_rfl) (fun _ _ _ h => h) (Or.inl ⟨by rfl, fun w hSw => by go_simp⟩) hHeld ?_
  simp only [List.getElem_toArray, List.getElem_cons_zero, List.getElem_cons_succ, Act.put, List.setIfInBounds_toArray, List.set_cons_zero, List.set_cons_succ]
  refine wpAnyK_take (i := 7) (v := .pointer (some ⟨br, 0, none⟩)) rfl (by kernel_rfl) (by kernel_rfl) (by kernel_rfl) (by kernel_rfl) (fun _ _ _ h => h) (Or.inl ⟨by rfl, fun w hSw => by go_simp⟩) hHeld ?_
  simp only [List.getElem_toArray, List.getElem_cons_zero, List.getElem_cons_succ, Act.put, List.setIfInBounds_toArray, List.set_cons_zero, List.set_cons_succ]
  refine wpAnyK_take (i := 8) (v := .pointer (some ⟨br, 1, none⟩)) rfl (by kernel_rfl) (by kernel_rfl) (by kernel_rfl) (by kernel_rfl) (fun _ _ _ h => h) (Or.inl ⟨by rfl, fun w hSw => by go_simp⟩) hHeld ?_
  simp only [List.getElem_toArray, List.getElem_cons_zero, List.getElem_cons_succ, Act.put, List.setIfInBounds_toArray, List.set_cons_zero, List.set_cons_succ]
  refine wpAnyK_take (i := 9) (v := .int .i64 (at_ : Int)) rfl (by kernel_rfl) (by kernel_rfl) (by kernel_rfl) (by kernel_rfl) (fun _ _ _ h => h) (Or.inl ⟨by rfl, fun w hSw => by go_simp⟩) hHeld ?_
  simp only [List.getElem_toArray, List.getElem_cons_zero, List.getElem_cons_succ, Act.put, List.setIfInBounds_toArray, List.set_cons_zero, List.set_cons_succ]
  refine wpAnyK_take (i := 10) (v := .int .i64 ((zn : Int) - (at_ : Int))) rfl (by kernel_rfl) (by kernel_rfl) (by kernel_rfl) (by kernel_rfl) (fun _ _ _ h => h) (Or.inl ⟨by rfl, fun w hSw => by go_simp⟩) hHeld ?_
  simp only [List.getElem_toArray, List.getElem_cons_zero, List.getElem_cons_succ, Act.put, List.setIfInBounds_toArray, List.set_cons_zero, List.set_cons_succ]
  refine wpAnyK_take (i := 11) (v := .bool true) rfl (by kernel_rfl) (by kernel_rfl) (by kernel_rfl) (by kernel_rfl) (fun _ _ _ h => h) (Or.inl ⟨by rfl, fun w hSw => by go_simp⟩) hHeld ?_
  simp only [List.getElem_toArray, List.getElem_cons_zero, List.getElem_cons_succ, Act.put, List.setIfInBounds_toArray, List.set_cons_zero, List.set_cons_succ]
  refine wpAnyK_one (i := 12) (by kernel_rfl) rfl (fun K hK => ?_)
  (try simp only [List.getElem_toArray, List.getElem_cons_zero, List.getElem_cons_succ, Act.put, List.setIfInBounds_toArray, List.set_cons_zero, List.set_cons_succ])
  go_simp
  refine (pmust18_t w.drew).mono ?_
  rintro e1 w1 ⟨rfl, hw1⟩
  subst w1
  refine hK.out _ _ (fun _ => HS.out) (fun hHeld0 => ?_)
  clear hHeld0 hK K
  (try simp only [List.getElem_toArray, List.getElem_cons_zero, List.getElem_cons_succ, Act.put, List.setIfInBounds_toArray, List.set_cons_zero, List.set_cons_succ])
  refine wpAnyK_done (by kernel_rfl) ?_ _
  go_wp2_with fail
  refine plain_region16 (fun V => V.cell? ⟨br, 0, none⟩ = some (.slice za zn zc) ∧ V.cell? ⟨br, 1, none⟩ = some (.int .i64 (t : Int))) 16 (by kernel_rfl) HS2.out (fun hHeld => ?_)
  refine wpAnyK_take (i := 0) (v := .pointer (some ⟨br, 0, none⟩)) rfl (by kernel_rfl) (by kernel_rfl) (by kernel_rfl) (by kernel_rfl) (fun _ _ _ h => h) (Or.inl ⟨by rfl, fun w hSw => by go_simp⟩) hHeld ?_
  simp only [List.getElem_toArray, List.getElem_cons_zero, Act.put, List.setIfInBounds_toArray, List.set_cons_zero, List.set_cons_succ]
  refine wpAnyK_take (i := 1) (v := .pointer (some ⟨br, 0, none⟩)) rfl (by kernel_rfl) (by kernel_rfl) (by kernel_rfl) (by kernel_rfl) (fun _ _ _ h => h) (Or.inl ⟨by rfl, fun w hSw => by go_simp⟩) hHeld ?_
  simp only [List.getElem_toArray, List.getElem_cons_zero, List.getElem_cons_succ, Act.put, List.setIfInBounds_toArray, List.set_cons_zero, List.set_cons_succ]
  refine wpAnyK_take (i := 2) (v := .pointer (some ⟨br, 0, none⟩)) rfl (by kernel_rfl) (by kernel_rfl) (by kernel_rfl) (by kernel_rfl) (fun _ _ _ h => h) (Or.inl ⟨by rfl, fun w hSw => by go_simp⟩) hHeld ?_
  simp only [List.getElem_toArray, List.getElem_cons_zero, List.getElem_cons_succ, Act.put, List.setIfInBounds_toArray, List.set_cons_zero, List.set_cons_succ]
  refine wpAnyK_take (i := 3) (v := .slice za zn zc) rfl (by kernel_rfl) (by kernel_rfl) (by kernel_rfl) (by kernel_rfl) (fun _ _ _ h => h) (Or.inl ⟨by rfl, fun w hSw => by go_simp⟩) hHeld ?_
  simp only [List.getElem_toArray, List.getElem_cons_zero, List.getElem_cons_succ, Act.put, List.setIfInBounds_toArray, List.set_cons_zero, List.set_cons_succ]
  refine wpAnyK_take (i := 4) (v := .pointer (some ⟨br, 0, none⟩)) rfl (by kernel_rfl) (by kernel_rfl) (by kernel_rfl) (by kernel_rfl) (fun _ _ _ h => h) (Or.inl ⟨by rfl, fun w hSw => by go_simp⟩) hHeld ?_
  simp only [List.getElem_toArray, List.getElem_cons_zero, List.getElem_cons_succ, Act.put, List.setIfInBounds_toArray, List.set_cons_zero, List.set_cons_succ]
  refine wpAnyK_take (i := 5) (v := .pointer (some ⟨br, 0, none⟩)) rfl (by kernel_rfl) (by kernel_rfl) (by kernel_rfl) (by kernel_rfl) (fun _ _ _ h => h) (Or.inl ⟨by rfl, fun w hSw => by go_simp⟩) hHeld ?_
  simp only [List.getElem_toArray, List.getElem_cons_zero, List.getElem_cons_succ, Act.put, List.setIfInBounds_toArray, List.set_cons_zero, List.set_cons_succ]
  refine wpAnyK_take (i := 6) (v := .pointer (some ⟨br, 1, none⟩)) rfl (by kernel_rfl) (by kernel_rfl) (by kernel_rfl) (by kernel_rfl) (fun _ _ _ h => h) (Or.inl ⟨by rfl, fun w hSw => by go_simp⟩) hHeld ?_
  simp only [List.getElem_toArray, List.getElem_cons_zero, List.getElem_cons_succ, Act.put, List.setIfInBounds_toArray, List.set_cons_zero, List.set_cons_succ]
  refine wpAnyK_take (i := 7) (v := .int .i64 (t : Int)) rfl (by kernel_rfl) (by kernel_rfl) (by kernel_rfl) (by kernel_rfl) (fun _ _ _ h => h) (Or.inl ⟨by rfl, fun w hSw => by go_simp⟩) hHeld ?_
  simp only [List.getElem_toArray, List.getElem_cons_zero, List.getElem_cons_succ, Act.put, List.setIfInBounds_toArray, List.set_cons_zero, List.set_cons_succ]
  refine wpAnyK_take (i := 8) (v := .int .i64 (n : Int)) rfl (by kernel_rfl) (by kernel_rfl) (by kernel_rfl) (by kernel_rfl) (fun _ _ _ h => h) (Or.inl ⟨by rfl, fun w hSw => by go_simp⟩) hHeld ?_
  simp only [List.getElem_toArray, List.getElem_cons_zero, List.getElem_cons_succ, Act.put, List.setIfInBounds_toArray, List.set_cons_zero, List.set_cons_succ]
  refine wpAnyK_take (i := 9) (v := .int .i64 (at_ : Int)) rfl (by kernel_rfl) (by kernel_rfl) (by kernel_rfl) (by kernel_rfl) (fun _ _ _ h => h) (Or.inl ⟨by rfl, fun w hSw => by go_simp⟩) hHeld ?_
  simp only [List.getElem_toArray, List.getElem_cons_zero, List.getElem_cons_succ, Act.put, List.setIfInBounds_toArray, List.set_cons_zero, List.set_cons_succ]
  refine wpAnyK_take (i := 10) (v := .pointer (some ⟨br, 0, none⟩)) rfl (by kernel_rfl) (by kernel_rfl) (by kernel_rfl) (by kernel_rfl) (fun _ _ _ h => h) (Or.inl ⟨by rfl, fun w hSw => by go_simp⟩) hHeld ?_
  simp only [List.getElem_toArray, List.getElem_cons_zero, List.getElem_cons_succ, Act.put, List.setIfInBounds_toArray, List.set_cons_zero, List.set_cons_succ]
  refine wpAnyK_take (i := 11) (v := .pointer (some ⟨br, 0, none⟩)) rfl (by kernel_rfl) (by kernel_rfl) (by kernel_rfl) (by kernel_rfl) (fun _ _ _ h => h) (Or.inl ⟨by rfl, fun w hSw => by go_simp⟩) hHeld ?_
  simp only [List.getElem_toArray, List.getElem_cons_zero, List.getElem_cons_succ, Act.put, List.setIfInBounds_toArray, List.set_cons_zero, List.set_cons_succ]
  refine wpAnyK_take (i := 12) (v := .pointer (some ⟨br, 1, none⟩)) rfl (by kernel_rfl) (by kernel_rfl) (by kernel_rfl) (by kernel_rfl) (fun _ _ _ h => h) (Or.inl ⟨by rfl, fun w hSw => by go_simp⟩) hHeld ?_
  simp only [List.getElem_toArray, List.getElem_cons_zero, List.getElem_cons_succ, Act.put, List.setIfInBounds_toArray, List.set_cons_zero, List.set_cons_succ]
  refine wpAnyK_take (i := 13) (v := .int .i64 (t : Int)) rfl (by kernel_rfl) (by kernel_rfl) (by kernel_rfl) (by kernel_rfl) (fun _ _ _ h => h) (Or.inl ⟨by rfl, fun w hSw => by go_simp⟩) hHeld ?_
  simp only [List.getElem_toArray, List.getElem_cons_zero, List.getElem_cons_succ, Act.put, List.setIfInBounds_toArray, List.set_cons_zero, List.set_cons_succ]
  refine wpAnyK_take (i := 14) (v := .slice (if zc = at_ then za else za.map (fun y => y.add at_)) (t - at_) (zc - at_)) rfl (by kernel_rfl) (by kernel_rfl) (by kernel_rfl) (by kernel_rfl) (fun _ _ _ h => h) (Or.inl ⟨by rfl, fun w hSw => by go_simp⟩) hHeld ?_
  simp only [List.getElem_toArray, List.getElem_cons_zero, List.getElem_cons_succ, Act.put, List.setIfInBounds_toArray, List.set_cons_zero, List.set_cons_succ]
  rw [show (if zc = at_ then za else za.map (fun y => y.add at_)) = rs16 za zc at_ from rfl, htn]
  refine wpAnyK_one (i := 15) (by kernel_rfl) rfl (fun K hK => ?_)
  (try simp only [List.getElem_toArray, List.getElem_cons_zero, List.getElem_cons_succ, Act.put, List.setIfInBounds_toArray, List.set_cons_zero, List.set_cons_succ])
  go_simp
  refine hK.out _ _ (fun _ => HS2.out) (fun hHeld0 => ?_)
  clear hHeld0 hK K
  (try simp only [List.getElem_toArray, List.getElem_cons_zero, List.getElem_cons_succ, Act.put, List.setIfInBounds_toArray, List.set_cons_zero, List.set_cons_succ])
  refine wpAnyK_done (by kernel_rfl) ?_ _
  obtain ⟨ax, hax⟩ : ∃ ax, ax = rs16 za zc at_ := ⟨_, rfl⟩
  rw [← hax]
  have HAX : Hid (ax = rs16 za zc at_) := hax
  clear hax
  go_wp2_with fail
  go_ret
  exact ⟨by rw [← HAX.out]; rfl, by rw [← HTN.out]; exact HQ.out, HK.out⟩
end Go.Proofs.YtmfpdchfofffeaaGreatDoor
