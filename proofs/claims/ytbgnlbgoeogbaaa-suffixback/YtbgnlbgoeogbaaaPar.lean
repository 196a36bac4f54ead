import Derived.Test.YtbgnlbgoeogbaaaPao
import Derived.Lib.Bytes
import Derived.Test.YtbgnlbgoeogbaaaProg
import Derived.Test.YtbgnlbgoeogbaaaPaa
import Derived.WalkKit
import Derived.WalkSpells
import Derived.Laws.BytesArg
import Derived.Test.YtbgnlbgoeogbaaaPaq
namespace Go.Proofs.Ytbgnlbgoeogbaaa
set_option linter.unusedVariables false

/-! Strings by their order; the order by counting (layer 13), as mathematics. -/
theorem u8_lt13 {x y : Int} (hx : 0 ≤ x ∧ x ≤ 255) (hy : 0 ≤ y ∧ y ≤ 255) : UInt8.ofNat x.toNat < UInt8.ofNat y.toNat ↔ x < y := by
  rw [UInt8.lt_iff_toNat_lt, UInt8.toNat_ofNat', UInt8.toNat_ofNat']
  rw [Nat.mod_eq_of_lt (by omega), Nat.mod_eq_of_lt (by omega)]
  omega
theorem u8_eq13 {x y : Int} (hx : 0 ≤ x ∧ x ≤ 255) (hy : 0 ≤ y ∧ y ≤ 255) : UInt8.ofNat x.toNat = UInt8.ofNat y.toNat ↔ x = y := by
  constructor
  · intro h
    have := congrArg UInt8.toNat h
    rw [UInt8.toNat_ofNat', UInt8.toNat_ofNat', Nat.mod_eq_of_lt (by omega), Nat.mod_eq_of_lt (by omega)] at this
    omega
  · intro h; rw [h]
theorem bl13 : ∀ (a b : List Int), (∀ y ∈ a, 0 ≤ y ∧ y ≤ 255) → (∀ y ∈ b, 0 ≤ y ∧ y ≤ 255) → (Op.bytesLess (Lib.bytesOf a) (Lib.bytesOf b) = true ↔ LL12 a b)
  | [], [], _, _ => ⟨fun h => by simp [Lib.bytesOf, Op.bytesLess] at h, fun h => h.no.elim⟩
  | _ :: _, [], _, _ => ⟨fun h => by simp [Lib.bytesOf, Op.bytesLess] at h, fun h => h.no.elim⟩
  | [], _ :: _, _, _ => ⟨fun _ => .nil, fun _ => by simp [Lib.bytesOf, Op.bytesLess]⟩
  | x :: a, y :: b, ha, hb => by
    have hx := ha x (by simp)
    have hy := hb y (by simp)
    have ih := bl13 a b (fun z hz => ha z (by simp [hz])) (fun z hz => hb z (by simp [hz]))
    have e : Op.bytesLess (Lib.bytesOf (x :: a)) (Lib.bytesOf (y :: b)) = (decide (UInt8.ofNat x.toNat < UInt8.ofNat y.toNat) || (UInt8.ofNat x.toNat == UInt8.ofNat y.toNat && Op.bytesLess (Lib.bytesOf a) (Lib.bytesOf b))) := rfl
    rw [e, Bool.or_eq_true, decide_eq_true_eq, Bool.and_eq_true, beq_iff_eq, u8_lt13 hx hy, u8_eq13 hx hy, ih]
    constructor
    · rintro (h | ⟨rfl, h⟩)
      · exact .lt h
      · exact .eq h
    · intro h
      exact h.inv
theorem sl13 {a b : List Int} (ha : ∀ y ∈ a, 0 ≤ y ∧ y ≤ 255) (hb : ∀ y ∈ b, 0 ≤ y ∧ y ≤ 255) (h : LL12 a b) : Op.bytesLess (strOfNums a).toList (strOfNums b).toList = true := by
  rw [Lib.strOfNums_toList, Lib.strOfNums_toList]
  exact (bl13 a b ha hb).2 h
theorem sln13 {a b : List Int} (ha : ∀ y ∈ a, 0 ≤ y ∧ y ≤ 255) (hb : ∀ y ∈ b, 0 ≤ y ∧ y ≤ 255) (h : ¬ LL12 a b) : Op.bytesLess (strOfNums a).toList (strOfNums b).toList = false := by
  rw [Lib.strOfNums_toList, Lib.strOfNums_toList]
  exact Bool.eq_false_iff.2 fun k => h ((bl13 a b ha hb).1 k)
/-- How many of the first suffixes are less than a suffix. -/
noncomputable def ct13 (z : List Int) (i k : Nat) : Nat := cn12 (fun j => LL12 (z.drop j) (z.drop i)) k
theorem ct13_yes {z : List Int} {i k : Nat} (h : LL12 (z.drop k) (z.drop i)) : ct13 z i (k + 1) = ct13 z i k + 1 := by
  unfold ct13
  show cn12 _ k + _ = _
  rw [if_pos h]
theorem ct13_no {z : List Int} {i k : Nat} (h : ¬ LL12 (z.drop k) (z.drop i)) : ct13 z i (k + 1) = ct13 z i k := by
  unfold ct13
  show cn12 _ k + _ = _
  rw [if_neg h]
  rfl
theorem ct13_le (z : List Int) (i : Nat) : ∀ k, ct13 z i k ≤ k
  | 0 => Nat.le_refl _
  | k + 1 => by
    have := ct13_le z i k
    by_cases h : LL12 (z.drop k) (z.drop i)
    · rw [ct13_yes h]; omega
    · rw [ct13_no h]; omega
theorem take13 {n : Nat} {S : Nat → Int} {A : List Nat} (h : Ar12 n S A) : ∀ r, r ≤ n → cn12 (fun j => j ∈ A.take r) n = r
  | 0, _ => cn12_none fun i _ => by simp
  | r + 1, hr => by
    have hl : r < A.length := by rw [h.len]; omega
    have e : A.take (r + 1) = A.take r ++ [A.getD r 0] := by rw [List.take_add_one]; simp [List.getD, hl]
    have h1 := take13 h r (by omega)
    have h2 := cn12_upd (P := fun j => j ∈ A.take r) (Q := fun j => j ∈ A.take (r + 1)) (n := n) (j := A.getD r 0) (h.get (by omega)) (fun hm => by
      obtain ⟨q, hq, e2⟩ := List.mem_iff_getElem.1 hm
      rw [List.length_take] at hq
      rw [List.getElem_take] at e2
      have hq2 : q < A.length := by omega
      have e3 : A.getD q 0 = A.getD r 0 := by rw [← e2]; simp [List.getD, hq2]
      have := h.inj (r := q) (q := r) (by omega) (by omega) e3
      omega) (fun i _ => by rw [e]; simp)
    rw [h2, h1]
theorem ct13_rk {z : List Int} {A : List Nat} (h : Ar12 z.length (S12 z) A) {i : Nat} (hi : i < z.length) : ct13 z i z.length = rk13 A i := by
  obtain ⟨h1, h2⟩ := h.rk hi
  rw [← take13 h (rk13 A i) (by omega)]
  unfold ct13
  refine cn12_congr fun j hj => ?_
  obtain ⟨g1, g2⟩ := h.rk hj
  constructor
  · intro k
    have k2 := ll_ls13 _ j i (Nat.le_add_left _ _) k
    have hlt : rk13 A j < rk13 A i := by
      rcases Nat.lt_trichotomy (rk13 A j) (rk13 A i) with c | c | c
      · exact c
      · have : j = i := by rw [← g2, ← h2, c]
        rw [this] at k2; exact k2.irrefl.elim
      · have := h.pair c g1; rw [g2, h2] at this; exact (k2.asymm this).elim
    rw [List.mem_iff_getElem]
    have hl : rk13 A j < A.length := by rw [h.len]; exact g1
    refine ⟨rk13 A j, by rw [List.length_take]; omega, ?_⟩
    rw [List.getElem_take]
    have : A.getD (rk13 A j) 0 = A[rk13 A j] := by simp [List.getD, hl]
    rw [← this, g2]
  · intro k
    obtain ⟨q, hq, e2⟩ := List.mem_iff_getElem.1 k
    rw [List.length_take] at hq
    rw [List.getElem_take] at e2
    have hq2 : q < A.length := by omega
    have e3 : A.getD q 0 = j := by rw [← e2]; simp [List.getD, hq2]
    have := h.pair (r := q) (q := rk13 A i) (by omega) h1
    rw [e3, h2] at this
    exact ls_ll13 this
/-- The array, of which so many places are put in. -/
def ap13 (n : Nat) (A : List Nat) (k : Nat) : List Int := (List.range n).map fun r => if A.getD r 0 < k then ((A.getD r 0 : Nat) : Int) else 0
theorem ap13_len (n : Nat) (A : List Nat) (k : Nat) : (ap13 n A k).length = n := by simp [ap13]
theorem ap13_zero (n : Nat) (A : List Nat) : ap13 n A 0 = List.replicate n 0 := by
  refine List.ext_getElem (by simp [ap13]) fun i h1 h2 => ?_
  simp [ap13]
theorem ap13_all {n : Nat} {S : Nat → Int} {A : List Nat} (h : Ar12 n S A) : ap13 n A n = A.map (fun j : Nat => (j : Int)) := by
  refine List.ext_getElem (by simp [ap13, h.len]) fun i h1 h2 => ?_
  simp [ap13] at h1
  have hl : i < A.length := by rw [h.len]; exact h1
  have := h.get h1
  simp only [ap13, List.getElem_map, List.getElem_range]
  rw [if_pos this]
  simp [List.getD, hl]
theorem ap13_set {n : Nat} {S : Nat → Int} {A : List Nat} (h : Ar12 n S A) {j : Nat} (hj : j < n) : (ap13 n A j).set (rk13 A j) (j : Int) = ap13 n A (j + 1) := by
  obtain ⟨h1, h2⟩ := h.rk hj
  refine List.ext_getElem (by simp [ap13]) fun i h3 h4 => ?_
  simp [ap13] at h4
  rw [List.getElem_set]
  by_cases e : rk13 A j = i
  · rw [if_pos e]
    subst e
    simp only [ap13, List.getElem_map, List.getElem_range]
    rw [if_pos (by omega), h2]
  · rw [if_neg e]
    simp only [ap13, List.getElem_map, List.getElem_range]
    have : A.getD i 0 ≠ j := by
      intro c
      exact e (h.inj h1 h4 (by rw [h2, c]))
    by_cases c : A.getD i 0 < j
    · rw [if_pos c, if_pos (by omega)]
    · rw [if_neg c, if_neg (by omega)]
/-- What neighbours have in common, of which so many ranks are told. -/
def lq13 (z : List Int) (A : List Nat) (k : Nat) : List Int := (List.range z.length).map fun r => if r < k then ((lv13 z A r : Nat) : Int) else 0
theorem lq13_len (z : List Int) (A : List Nat) (k : Nat) : (lq13 z A k).length = z.length := by simp [lq13]
theorem lq13_one (z : List Int) (A : List Nat) : lq13 z A 1 = List.replicate z.length 0 := by
  refine List.ext_getElem (by simp [lq13]) fun i h1 h2 => ?_
  simp only [lq13, List.getElem_map, List.getElem_range, List.getElem_replicate]
  by_cases c : i < 1
  · rw [if_pos c]
    have : i = 0 := by omega
    subst this
    rfl
  · rw [if_neg c]
theorem lq13_all {z : List Int} {A : List Nat} {k : Nat} (h : z.length ≤ k) : lq13 z A k = lp13 z A := by
  refine List.ext_getElem (by simp [lq13, lp13]) fun i h1 h2 => ?_
  simp [lq13] at h1
  simp only [lq13, lp13, List.getElem_map, List.getElem_range]
  rw [if_pos (by omega)]
theorem lq13_set {z : List Int} {A : List Nat} {k : Nat} (h : k < z.length) : (lq13 z A k).set k ((lv13 z A k : Nat) : Int) = lq13 z A (k + 1) := by
  refine List.ext_getElem (by simp [lq13]) fun i h1 h2 => ?_
  simp only [lq13, List.getElem_set, List.getElem_map, List.getElem_range]
  by_cases c : k = i
  · subst c
    rw [if_pos rfl, if_pos (by omega)]
  · rw [if_neg c]
    by_cases d : i < k
    · rw [if_pos d, if_pos (by omega)]
    · rw [if_neg d, if_neg (by omega)]
end Go.Proofs.Ytbgnlbgoeogbaaa

namespace Go.Proofs.Ytbgnlbgoeogbaaa
open Go.RowKit
set_option linter.unusedVariables false

theorem run_conv_segS {P : Program} {w : World} {a : Option Addr} {zs : List Int} (cap : Nat) (h : Seg w a zs) (src e dst : TypeId) (hs : P.underlying src = some (.slice e)) (he : P.underlying e = some (.int .u8)) (hd : P.underlying dst = some .string) :
    (convert src dst (.slice a zs.length cap)).run P w = .ok (.string (strOfNums zs)) w := by
  by_cases hz : 0 < zs.length
  · obtain ⟨b, off, rfl, _⟩ := h.at_ 0 hz
    refine run_convert_bytes_arg w src e hs he b off zs.length cap zs rfl (fun i hi => ?_) dst hd
    obtain ⟨b', off', hb, hc⟩ := h.at_ i hi
    cases hb
    exact hc
  · have : zs = [] := List.eq_nil_of_length_eq_zero (by omega)
    subst this
    cases a with
    | none => exact run_convert_bytes_nil w src e hs he _ _ dst hd
    | some x =>
      rw [run_convert_bytes_string w src dst e _ _ cap hs he hd]
      have hl : (loadCells x 0).run P w = .ok (([] : List Int).map (Value.int .u8)).toArray w := by simp [loadCells, loadCellsFrom]
      have := run_bytesToString (P := P) w x 0 cap [] hl
      exact this

theorem str_injS {xs ys : List Int} (hx : ∀ z ∈ xs, 0 ≤ z ∧ z ≤ 255) (hy : ∀ z ∈ ys, 0 ≤ z ∧ z ≤ 255) : ((strOfNums xs).toList == (strOfNums ys).toList) = (xs == ys) := by
  rw [ByteArray.toList_eq, ByteArray.toList_eq, strOfNums_data, strOfNums_data]
  have key : ∀ (xs ys : List Int), (∀ z ∈ xs, 0 ≤ z ∧ z ≤ 255) → (∀ z ∈ ys, 0 ≤ z ∧ z ≤ 255) → (xs.map fun n => UInt8.ofNat n.toNat) = (ys.map fun n => UInt8.ofNat n.toNat) → xs = ys := by
    intro xs
    induction xs with
    | nil => intro ys _ _ h; cases ys with
      | nil => rfl
      | cons y r => simp at h
    | cons x r ih =>
      intro ys hx hy h
      cases ys with
      | nil => simp at h
      | cons y t =>
        simp only [List.map_cons, List.cons.injEq] at h
        have h1 := hx x (by simp)
        have h2 := hy y (by simp)
        have h3 := congrArg UInt8.toNat h.1
        simp at h3
        have h4 : x = y := by omega
        rw [h4, ih t (fun z hz => hx z (by simp [hz])) (fun z hz => hy z (by simp [hz])) h.2]
  rw [Bool.eq_iff_iff, beq_iff_eq, beq_iff_eq]
  exact ⟨key xs ys hx hy, fun h => by rw [h]⟩

set_option maxRecDepth 100000 in
theorem bsame_any (a b : Option Addr) (xs ys : List Int) (ca cb : Nat) (w : World) (hx : Seg w a xs) (hy : Seg w b ys) :
    Calls Try.prog 26 #[.slice a xs.length ca, .slice b ys.length cb] w fun e w' => e = .returned (.bool (xs == ys)) ∧ w' = w := by
  have h1 := run_conv_segS (P := Try.prog) ca hx 41 5 9 Try.underlying41 Try.underlying5 Try.underlying9
  have h2 := run_conv_segS (P := Try.prog) cb hy 41 5 9 Try.underlying41 Try.underlying5 Try.underlying9
  have HE : Hid (((strOfNums xs).toList == (strOfNums ys).toList) = (xs == ys)) := str_injS hx.mem hy.mem
  go_enter Try.func26, Try.ntmps26
  go_wp2
  go_ret
  exact ⟨by rw [← HE.out]; rfl, rfl⟩
end Go.Proofs.Ytbgnlbgoeogbaaa

namespace Go.Proofs.Ytbgnlbgoeogbaaa
open Go.RowKit
set_option linter.unusedVariables false

/-! The document's Array. -/
theorem drewN13 (w : World) (a b : Nat) : (w.drewN a).drewN b = w.drewN (a + b) := by simp [World.drewN, Nat.add_assoc]
theorem nz13 (A : List Nat) : A.map (fun j : Nat => (j : Int)) = nz12 A := rfl
theorem drop_bd13 {z : List Int} (h : ∀ y ∈ z, 0 ≤ y ∧ y ≤ 255) (i : Nat) : ∀ y ∈ z.drop i, 0 ≤ y ∧ y ≤ 255 := fun y hy => h y (List.mem_of_mem_drop hy)
set_option maxRecDepth 100000 in
set_option maxHeartbeats 4000000 in
theorem rarr13 (a : Option Addr) (z : List Int) (n ca : Nat) (A : List Nat) (w : World) (hs : Seg w a z) (hc : n ≤ ca) (hn : Hid (z.length = n)) (hA : Ar12 n (S12 z) A) (hb : n ≤ 16777216) :
    Calls Try.prog 44 #[.slice a n ca] w fun e w' => e = .returned (.slice (some ⟨w.heap.size, 0, none⟩) n n) ∧ Rz12 w' w.heap.size (nz12 A) ∧ Below w.heap.size w w' := by
  have HM := run_make_i12 n (by omega) w
  have hal : Below w.heap.size w (w.alloc (.cells (vi12 (List.replicate n 0)) 3)) := (Below.refl _ _).alloc (Nat.le_refl _) _
  have hr0 := Rz12.new w (List.replicate n 0)
  rw [← ap13_zero n A] at hal hr0 HM
  have HAL : Hid (ap13 n A n = nz12 A) := ap13_all hA
  have HAR : Hid (Ar12 n (S12 z) A) := hA
  have HAZ : Hid (Ar12 z.length (S12 z) A) := by show Ar12 _ _ _; rw [hn.out]; exact hA
  have HSD : Hid (∀ w', Below w.heap.size w w' → Seg w' a z) := fun w' b => hs.old b
  have HV : Hid (∀ y ∈ z, 0 ≤ y ∧ y ≤ 255) := seg_bd13 hs
  clear hs hA
  generalize hg : w.heap.size = g at *
  generalize hw1 : w.alloc (.cells (vi12 (ap13 n A 0)) 3) = w1 at *
  have HG : Hid (w.heap.size = g) := hg
  clear hg hw1
  go_enter Try.func44, Try.ntmps44
  go_wp2_with fail
  go_loopw [12] (fun ti wr => ∃ i : Nat, i ≤ n ∧ ti = .int .i64 i ∧ Rz12 wr g (ap13 n A i) ∧ Below g w wr) (fun ti _ => n - (intOf ti).toNat)
  case atStart => exact ⟨0, Nat.zero_le _, rfl, hr0, hal⟩
  case round =>
    obtain ⟨i, hi, rfl, hR, hb2⟩ := hrel
    rename World => wo
    by_cases h1 : i < n
    · have h1i : (i : Int) < (n : Int) := by omega
      obtain ⟨xb, off, rfl, -⟩ := (HSD.out wo hb2).at_ i (by rw [hn.out]; exact h1)
      have hs := HSD.out wo hb2
      have hrk := (HAR.out.rk h1).1
      have HCT : Hid (ct13 z i n = rk13 A i) := by
        show _ = _
        rw [← hn.out]
        exact ct13_rk HAZ.out (by rw [hn.out]; exact h1)
      have HCB : Hid (∀ k, ct13 z i k ≤ k) := ct13_le z i
      have HC0 : Hid (ct13 z i 0 = 0) := rfl
      have k1 := hR.cell (i := rk13 A i) (by rw [ap13_len]; exact hrk)
      have k2 := hR.free (rk13 A i)
      have HS1 : Hid (∀ d, Rz12 ((wo.drewN d).setCell ⟨g, rk13 A i, none⟩ (.int .i64 (i : Int))) g (ap13 n A (i + 1)) ∧ Below g w ((wo.drewN d).setCell ⟨g, rk13 A i, none⟩ (.int .i64 (i : Int)))) := by
        intro d
        have h5 := (hR.drewN d).set (rk13 A i) (i : Int)
        rw [ap13_set HAR.out h1] at h5
        have hbd : Below g w (wo.drewN d) := ⟨hb2.os, hb2.tape, hb2.output, hb2.size, hb2.block⟩
        exact ⟨h5, hbd.trans ((Kp.set (S := fun q => q = g) rfl _).below (fun q h => by omega) (by have h7 := hR.lt; show g ≤ wo.heap.size; omega))⟩
      have HCV : Hid (∀ j d, (convert 41 9 (.slice (some ⟨xb, off + j, none⟩) (n - j) (ca - j))).run Try.prog (wo.drewN d) = .ok (.string (strOfNums (z.drop j))) (wo.drewN d)) := by
        intro j d
        have h8 := run_conv_segS (P := Try.prog) (ca - j) ((hs.drewN d).drop j) 41 5 9 Try.underlying41 Try.underlying5 Try.underlying9
        rw [List.length_drop, hn.out] at h8
        exact h8
      generalize (ap13 n A i).getD (rk13 A i) 0 = y at *
      clear hs hR
      have HWR : Hid (∀ d, (wo.drewN d).cell? ⟨g, rk13 A i, none⟩ = some (.int .i64 y) ∧ (wo.drewN d).frozen? ⟨g, rk13 A i, none⟩ = false) := fun d => ⟨k1, k2⟩
      go_wp2_with fail
      go_loopw [5, 17] (fun tc tk wr => ∃ k c : Nat, k ≤ n ∧ tc = .int .i64 c ∧ tk = .int .i64 k ∧ Hid (c = ct13 z i k) ∧ ∃ d, wr = wo.drewN d) (fun _ tk _ => n - (intOf tk).toNat)
      case atStart => exact ⟨0, 0, Nat.zero_le _, rfl, rfl, HC0.out.symm, 0, rfl⟩
      case round =>
        obtain ⟨k, c, hk, rfl, rfl, HC, d, hd⟩ := hrel
        have hcb : c ≤ k := by rw [HC.out]; exact HCB.out k
        by_cases hk1 : k < n
        · have hk1i : (k : Int) < (n : Int) := by omega
          have HCW : Hid (∀ j d2, (convert 41 9 (.slice (some ⟨xb, off + j, none⟩) (n - j) (ca - j))).run Try.prog (wr.drewN d2) = .ok (.string (strOfNums (z.drop j))) (wr.drewN d2)) := by
            intro j d2
            rw [hd]
            rw [drewN13]
            exact HCV.out j (d + d2)
          have y1 := HCW.out k
          have y2 := HCW.out i
          have HD : Hid (∀ d2, ∃ d3, wr.drewN d2 = wo.drewN d3) := fun d2 => ⟨d + d2, by rw [hd, drewN13]⟩
          clear hd
          have l1 : k ≤ n := by omega
          have l2 : i ≤ n := by omega
          have l3 : ¬ ca = k := by omega
          have l4 : ¬ ca = i := by omega
          by_cases hll : LL12 (z.drop k) (z.drop i)
          · have hbl := sl13 (drop_bd13 HV.out k) (drop_bd13 HV.out i) hll
            have HN2 : Hid (c + 1 = ct13 z i (k + 1)) := by show _ = _; rw [ct13_yes hll, HC.out]
            clear hll
            generalize strOfNums (z.drop k) = s1 at *
            generalize strOfNums (z.drop i) = s2 at *
            go_wp2_with fail
            go_quiet (fail)
            go_wp2_with fail
            go_roundw
            case rel => exact ⟨k + 1, c + 1, by omega, by go_num, by go_num, HN2, HD.out _⟩
            case measure => simp [intOf]; omega
          · have hbl := sln13 (drop_bd13 HV.out k) (drop_bd13 HV.out i) hll
            have HN2 : Hid (c = ct13 z i (k + 1)) := by show _ = _; rw [ct13_no hll, HC.out]
            clear hll
            generalize strOfNums (z.drop k) = s1 at *
            generalize strOfNums (z.drop i) = s2 at *
            go_wp2_with fail
            go_quiet (fail)
            go_wp2_with fail
            go_roundw
            case rel => exact ⟨k + 1, c, by omega, by go_num, by go_num, HN2, HD.out _⟩
            case measure => simp [intOf]; omega
        · have hk1i : ¬ (k : Int) < (n : Int) := by omega
          obtain rfl : k = n := by omega
          have HE : Hid (c = rk13 A i) := by show _ = _; rw [HC.out, HCT.out]
          have hcn : (c : Int) < (k : Int) := by have := HE.out; omega
          obtain ⟨k3, k4⟩ := HWR.out d
          have HS2 := HS1.out d
          rw [← HE.out] at k3 k4 HS2
          rw [← hd] at k3 k4 HS2
          have HS3 : Hid (Rz12 (wr.setCell ⟨g, c, none⟩ (.int .i64 (i : Int))) g (ap13 k A (i + 1)) ∧ Below g w (wr.setCell ⟨g, c, none⟩ (.int .i64 (i : Int)))) := HS2
          clear HS2 hd HE HC HCT HS1 k1 k2
          go_wp2_with fail
          go_roundw
          case rel => exact ⟨i + 1, by omega, by go_num, HS3.out.1, HS3.out.2⟩
          case measure => simp [intOf]; omega
    · have h1i : ¬ (i : Int) < (n : Int) := by omega
      obtain rfl : i = n := by omega
      rw [HAL.out] at hR
      go_wp2_with fail
      go_ret
      exact ⟨rfl, hR, hb2⟩
end Go.Proofs.Ytbgnlbgoeogbaaa
