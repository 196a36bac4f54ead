import Derived.Test.YtbgnlbgoeogbaaaPav
import Derived.Laws.CopyOwn
import Derived.Laws.BitsAllLaws
import Derived.WalkKit
import Derived.Test.YtbgnlbgoeogbaaaProg
import Derived.WalkSpells
import Derived.WalkLawsBesides
import Derived.Test.YtbgnlbgoeogbaaaPaa
namespace Go.Proofs.Ytbgnlbgoeogbaaa
open Go.RowKit
set_option linter.unusedVariables false

/-! The landed Buckets, where it may be. -/
theorem size_b12 : (Try.prog.info? 3).map (·.size) = some 1 := by kernel_rfl
def fr12 (K : Nat) (s : List Int) : List Int := (List.range K).map (fun u : Nat => ((cnt12 s (u : Int) : Nat) : Int))
def to12 (K : Nat) (s : List Int) : List Int := (List.range K).map (fun u : Nat => ((cnt12 s ((u : Int) + 1) : Nat) : Int))
theorem fr12_len (K : Nat) (s : List Int) : (fr12 K s).length = K := by simp [fr12]
theorem to12_len (K : Nat) (s : List Int) : (to12 K s).length = K := by simp [to12]
theorem fr12_get {K : Nat} {s : List Int} {u : Nat} (h : u < K) : (fr12 K s).getD u 0 = ((cnt12 s (u : Int) : Nat) : Int) := by simp [fr12, List.getD, h]
theorem to12_get {K : Nat} {s : List Int} {u : Nat} (h : u < K) : (to12 K s).getD u 0 = ((cnt12 s ((u : Int) + 1) : Nat) : Int) := by simp [to12, List.getD, h]
theorem bnd12_take (K : Nat) (s : List Int) : (bnd12 K s).take K = fr12 K s := by
  refine ext12 (d := 0) (by simp [bnd12, fr12]) fun i hi => ?_
  have hk : i < K := by simp [bnd12] at hi; omega
  rw [fr12_get hk]
  simp [bnd12, List.getD, hk]
theorem bnd12_drop (K : Nat) (s : List Int) : (bnd12 K s).drop 1 = to12 K s := by
  refine List.ext_getElem (by simp [bnd12, to12]) fun i h1 h2 => ?_
  simp only [bnd12, to12, List.getElem_drop, List.getElem_map, List.getElem_range]
  rw [show ((1 + i : Nat) : Int) = (i : Int) + 1 by omega]
theorem fr12_bd {K : Nat} {s : List Int} (h : s.length ≤ 16777216) : ∀ z ∈ fr12 K s, -9223372036854775808 ≤ z ∧ z ≤ 9223372036854775807 := by
  intro z hz
  unfold fr12 at hz
  rw [List.mem_map] at hz
  obtain ⟨u, _, rfl⟩ := hz
  have := cnt12_le s (u : Int)
  omega
theorem to12_bd {K : Nat} {s : List Int} (h : s.length ≤ 16777216) : ∀ z ∈ to12 K s, -9223372036854775808 ≤ z ∧ z ≤ 9223372036854775807 := by
  intro z hz
  unfold to12 at hz
  rw [List.mem_map] at hz
  obtain ⟨u, _, rfl⟩ := hz
  have := cnt12_le s ((u : Int) + 1)
  omega
theorem bnd13_bd {K : Nat} {s : List Int} (h : s.length ≤ 16777216) : ∀ z ∈ bnd12 K s, -9223372036854775808 ≤ z ∧ z ≤ 9223372036854775807 := by
  intro z hz
  unfold bnd12 at hz
  rw [List.mem_map] at hz
  obtain ⟨u, _, rfl⟩ := hz
  have := cnt12_le s (u : Int)
  omega
/-- A made row, of which the first numbers are handed out. -/
theorem Rz12.own_take {w : World} {g base : Nat} {A : List Int} {n : Nat} (h : Rz12 w g A) (hb : base ≤ g) (hn : n ≤ A.length) (hl : A.length ≤ 140737488355328) : w.ownsRow base 3 1 (.slice (some ⟨g, 0, none⟩) n A.length) n ((A.take n).map (Value.int .i64)) :=
  ⟨by simp; omega, .inr ⟨g, A.length, _, rfl, hb, h.hp, hn, by unfold maxLen; omega, by simp [vi12], by simp [vi12, List.map_take]⟩⟩
def BkQ12 (w : World) (K : Nat) (s : List Int) (e : Ending) (w' : World) : Prop := ∃ gf gt, e = .returned (.tuple #[.slice (some ⟨gf, 0, none⟩) K (K + 1), .slice (some ⟨gt, 0, none⟩) K K, .int .i64 0]) ∧ Rz12 w' gf (bnd12 K s) ∧ Rz12 w' gt (to12 K s) ∧ w.heap.size ≤ gf ∧ gf < gt ∧ Below w.heap.size w w'
set_option maxRecDepth 100000 in
set_option maxHeartbeats 2000000 in
theorem pbks12 (K : Nat) (a : Option Addr) (s : List Int) (n cap : Nat) (w : World) (hs : SegZ w a s) (hn : Hid (s.length = n)) (hr : Hid (ref12 (K : Int) s = 0)) :
    Calls Try.prog 11 #[.int .i64 (K : Int), .slice a n cap] w (BkQ12 w K s) := by
  have hW := ref12_ok hn.out hr.out
  have hK : K ≤ 33554432 := by
    have := hr.out
    unfold ref12 at this
    split at this
    · omega
    · omega
  have hn24 : n ≤ 16777216 := hW.n24
  have HR := pref12 (K : Int) a s n cap w hs hn (by omega) (by omega)
  rw [hr.out] at HR
  have HB : Hid (∀ w1, Below w.heap.size w w1 → Calls Try.prog 34 #[.int .i64 (K : Int), .slice a n cap] w1 fun e w' => e = .returned (.slice (some ⟨w1.heap.size, 0, none⟩) (K + 1) (K + 1)) ∧ Rz12 w' w1.heap.size (bnd12 K s) ∧ Below w1.heap.size w1 w') := fun w1 b1 => pbnd12 K a s n cap w1 (hs.old b1) hn hn24 hK (fun i hi => by have := hW.val i hi; simpa using this)
  have HM := fun w' => run_make_i12 K (by omega) w'
  have hsl : s.length ≤ 16777216 := by rw [hn.out]; exact hn24
  have HDR : Hid ((bnd12 K s).drop 1 = to12 K s) := bnd12_drop K s
  have HTL : Hid ((to12 K s).length = K) := to12_len K s
  have HBL : Hid ((bnd12 K s).length = K + 1) := bnd12_len K s
  have HBD : Hid (∀ z ∈ bnd12 K s, -9223372036854775808 ≤ z ∧ z ≤ 9223372036854775807) := bnd13_bd hsl
  clear hs hW hr hsl
  have HCO : Hid (∀ (w2 : World) gf, Rz12 w2 gf (bnd12 K s) → (w2.alloc (.cells (vi12 (List.replicate K 0)) 3)).heap[w2.heap.size]? = some (.cells (List.replicate K (Value.int .i64 0)).toArray 3 (0, 0)) ∧ (∀ j v, ((to12 K s).map (Value.int .i64))[j]? = some v → (w2.alloc (.cells (vi12 (List.replicate K 0)) 3)).cell? ((⟨gf, 1, none⟩ : Addr).add j) = some v)) := by
    intro w2 gf R
    refine ⟨?_, fun j v hv => ?_⟩
    · have := heap_alloc_new w2 (.cells (vi12 (List.replicate K 0)) 3)
      rw [this]
      simp [vi12]
    · have hb : Below w2.heap.size w2 (w2.alloc (.cells (vi12 (List.replicate K 0)) 3)) := (Below.refl _ _).alloc (Nat.le_refl _) _
      have hj : j < K := by
        rcases Nat.lt_or_ge j K with h | h
        · exact h
        · rw [List.getElem?_eq_none (by rw [List.length_map, HTL.out]; exact h)] at hv; cases hv
      have hadd : (⟨gf, 1, none⟩ : Addr).add j = ⟨gf, 1 + j, none⟩ := by unfold Addr.add; split <;> simp_all
      rw [hadd, (R.old hb).cell (by rw [HBL.out]; omega)]
      have hj2 : j < (to12 K s).length := by rw [HTL.out]; exact hj
      rw [← hv, List.getElem?_map, ← HDR.out]
      simp only [List.getElem?_drop]
      have hj3 : 1 + j < (bnd12 K s).length := by rw [HBL.out]; omega
      simp [List.getD, hj3]
  have HSPL : Hid (∀ (L : List Value), L.length = K → splice (List.replicate K (Value.int .i64 0)) 0 L = L) := by
    intro L hL
    unfold splice
    rw [List.take_zero, List.nil_append, List.drop_eq_nil_of_le (by simp; omega), List.append_nil]
  have HFIN : Hid (∀ (W : World) gt, W.heap[gt]? = some (.cells (splice (List.replicate K (Value.int .i64 0)) 0 ((to12 K s).map (Value.int .i64))).toArray 3 (0, 0)) → Rz12 W gt (to12 K s)) := by
    intro W gt h
    rw [HSPL.out _ (by rw [List.length_map, HTL.out])] at h
    exact ⟨h⟩
  by_cases hK0 : K = 0
  · subst hK0
    have HT0 : Hid (to12 0 s = []) := rfl
    have HM0 : ∀ w' : World, (Instr.makeSlice 22 (.int .i64 0) (.int .i64 0)).run Try.prog w' = .ok (.slice (some ⟨w'.heap.size, 0, none⟩) 0 0) (w'.alloc (.cells (vi12 (List.replicate 0 0)) 3)) := fun w' => run_make_i12 0 (by omega) w'
    go_enter Try.func11, Try.ntmps11
    go_wp2_with (first
      | (go_at_call 33; refine HR.mono ?_; rintro e1 w1 ⟨rfl, B1⟩; clear HR)
      | (go_at_call 34; refine (HB.out w1 B1).mono ?_; rintro e2 w2 ⟨rfl, R2, B2⟩; clear HB)
      | (refine wpList_copy_nothing rfl (.tmp 21) (.tmp 23) 22 22 rfl 3 Try.underlying22 size_b12 _ _ 0 0 0 0 rfl rfl (by simp) ?_))
    trace_state
    refine bodyPost_ret (results_tmp3 rfl _ _ _) rfl ?_
    have S1 := B1.size
    have S2 := B2.size
    have hlt := R2.lt
    have b3 : Below w2.heap.size w2 (w2.alloc (.cells (vi12 (List.replicate 0 0)) 3)) := (Below.refl _ _).alloc (Nat.le_refl _) _
    refine ⟨w1.heap.size, w2.heap.size, rfl, R2.old b3, ?_, by omega, by omega, (B1.trans (B2.mono S1)).trans (b3.mono (by omega))⟩
    rw [HT0.out]
    exact Rz12.new w2 []
  · have k1 : (1 : Int) ≤ (K : Int) + 1 := by omega
    have k2 : ¬ K + 1 = 1 := by omega
    have k3 : ¬ K = 0 := hK0
    have k4 : (K : Int) ≤ (K : Int) + 1 := by omega
    go_enter Try.func11, Try.ntmps11
    go_wp2_with (first
      | (go_at_call 33; refine HR.mono ?_; rintro e1 w1 ⟨rfl, B1⟩; clear HR)
      | (go_at_call 34; refine (HB.out w1 B1).mono ?_; rintro e2 w2 ⟨rfl, R2, B2⟩; clear HB; have hlt := R2.lt)
      | (refine wpList_copy_splice rfl (.tmp 21) (.tmp 23) 22 22 rfl 3 Try.underlying22 size_b12 (some ⟨w2.heap.size, 0, none⟩) (some ⟨w1.heap.size, 1, none⟩) K K K K rfl rfl w2.heap.size 0 (List.replicate K (Value.int .i64 0)) 3 (HCO.out w2 _ R2).1 ((to12 K s).map (Value.int .i64)) (by rw [List.length_map, HTL.out]; simp) (fun _ => ⟨rfl, _, rfl, (HCO.out w2 _ R2).2⟩) (by rw [List.length_map, HTL.out]; simp) (ints_oneCell _ _) w2.heap.size w2 ((Below.refl _ _).alloc (Nat.le_refl _) _) (Nat.le_refl _) ?_; intro w4 H4 B4))
    refine bodyPost_ret (results_tmp3 rfl _ _ _) rfl ?_
    have S1 := B1.size
    have S2 := B2.size
    exact ⟨w1.heap.size, w2.heap.size, rfl, R2.old B4, HFIN.out w4 _ H4.out, by omega, by omega, (B1.trans (B2.mono S1)).trans (B4.mono (by omega))⟩
end Go.Proofs.Ytbgnlbgoeogbaaa

namespace Go.Proofs.Ytbgnlbgoeogbaaa
open Go.RowKit
set_option linter.unusedVariables false
set_option linter.unusedSimpArgs false

/-! Words of 32 bits; the register's move by one bit, many moves, and the way over bytes. -/
abbrev W32 := BitVec 32
def genW : W32 := 3988292384#32
def on (w : W32) : W32 := (w >>> 1) ^^^ (if w.getLsbD 0 then genW else 0#32)
def onN : Nat → W32 → W32
  | 0, w => w
  | k + 1, w => on (onN k w)

theorem bxor_left_comm (a b c : W32) : a ^^^ (b ^^^ c) = b ^^^ (a ^^^ c) := by rw [← BitVec.xor_assoc, BitVec.xor_comm a b, BitVec.xor_assoc]
theorem bxor_cancel (a b : W32) : a ^^^ (a ^^^ b) = b := by rw [← BitVec.xor_assoc, BitVec.xor_self, BitVec.zero_xor]
theorem on_xor (a b : W32) : on (a ^^^ b) = on a ^^^ on b := by
  unfold on
  rw [BitVec.ushiftRight_xor_distrib, BitVec.getLsbD_xor]
  cases a.getLsbD 0 <;> cases b.getLsbD 0 <;> simp [BitVec.xor_assoc, BitVec.xor_comm, bxor_left_comm, bxor_cancel]
theorem on_zero : on 0#32 = 0#32 := by decide
theorem onN_xor (k : Nat) (a b : W32) : onN k (a ^^^ b) = onN k a ^^^ onN k b := by
  induction k with
  | zero => rfl
  | succ k ih => simp only [onN, ih, on_xor]
theorem onN_zero (k : Nat) : onN k 0#32 = 0#32 := by
  induction k with
  | zero => rfl
  | succ k ih => simp only [onN, ih, on_zero]
theorem onN_add (a b : Nat) (w : W32) : onN (a + b) w = onN a (onN b w) := by
  induction a with
  | zero => simp [onN]
  | succ a ih => rw [Nat.succ_add]; simp only [onN, ih]
theorem onN_comm (a b : Nat) (w : W32) : onN a (onN b w) = onN b (onN a w) := by
  rw [← onN_add, ← onN_add, Nat.add_comm]

def back (w : W32) : W32 := if w.getLsbD 31 then ((w ^^^ genW) <<< 1) ||| 1#32 else w <<< 1
def backN : Nat → W32 → W32
  | 0, w => w
  | k + 1, w => back (backN k w)
theorem gen31 : genW.getLsbD 31 = true := by decide
theorem on31 (w : W32) : (on w).getLsbD 31 = w.getLsbD 0 := by
  unfold on
  cases h : w.getLsbD 0 <;> simp [-BitVec.getLsbD_eq_getElem, gen31, h]
theorem back_on (w : W32) : back (on w) = w := by
  unfold back
  rw [on31]
  unfold on
  cases h : w.getLsbD 0
  · simp only [Bool.false_eq_true, if_false, BitVec.xor_zero]
    apply BitVec.eq_of_getLsbD_eq
    intro i hi
    rcases i with _ | i
    · simp [-BitVec.getLsbD_eq_getElem, h]
    · simp [-BitVec.getLsbD_eq_getElem, hi, Nat.add_comm]
  · simp only [if_true, BitVec.xor_assoc, BitVec.xor_self, BitVec.xor_zero]
    apply BitVec.eq_of_getLsbD_eq
    intro i hi
    rcases i with _ | i
    · simp [-BitVec.getLsbD_eq_getElem, h]
    · simp [-BitVec.getLsbD_eq_getElem, hi, Nat.add_comm]
theorem on_inj {a b : W32} (h : on a = on b) : a = b := by rw [← back_on a, ← back_on b, h]
theorem onN_inj (k : Nat) {a b : W32} (h : onN k a = onN k b) : a = b := by
  induction k with
  | zero => exact h
  | succ k ih => exact ih (on_inj h)
theorem on_back (w : W32) : on (back w) = w := by
  unfold back on
  cases h : w.getLsbD 31
  · simp only [Bool.false_eq_true, if_false]
    have e0 : (w <<< 1).getLsbD 0 = false := by simp
    rw [e0]
    simp only [Bool.false_eq_true, if_false, BitVec.xor_zero]
    apply BitVec.eq_of_getLsbD_eq
    intro i hi
    by_cases e : i = 31
    · subst e; simp [-BitVec.getLsbD_eq_getElem, h]
    · have : 1 + i < 32 := by omega
      simp [-BitVec.getLsbD_eq_getElem, this, hi]
  · simp only [if_true]
    have e0 : ((w ^^^ genW) <<< 1 ||| 1#32).getLsbD 0 = true := by simp
    rw [e0]
    simp only [if_true]
    apply BitVec.eq_of_getLsbD_eq
    intro i hi
    by_cases e : i = 31
    · subst e; simp [-BitVec.getLsbD_eq_getElem, h, gen31]
    · have : 1 + i < 32 := by omega
      simp [-BitVec.getLsbD_eq_getElem, this, hi, Bool.xor_assoc]
theorem onN_backN (k : Nat) (w : W32) : onN k (backN k w) = w := by
  have key : ∀ (j k : Nat) (w : W32), onN j (back (backN k w)) = onN j (backN k (back w)) := by
    intro j k
    induction k with
    | zero => intro w; rfl
    | succ k ih =>
      intro w
      have e : ∀ k w, backN k (back w) = back (backN k w) := by
        intro k
        induction k with
        | zero => intro w; rfl
        | succ k ih => intro w; simp only [backN, ih]
      rw [e]
  induction k generalizing w with
  | zero => rfl
  | succ k ih =>
    show on (onN k (back (backN k w))) = w
    rw [key, ih, on_back]

theorem on_double (y : W32) (h : y.toNat < 2 ^ 31) : on (y <<< 1) = y := by
  unfold on
  have e0 : (y <<< 1).getLsbD 0 = false := by simp
  rw [e0]
  simp only [Bool.false_eq_true, if_false, BitVec.xor_zero]
  apply BitVec.eq_of_toNat_eq
  simp [Nat.shiftLeft_eq, Nat.shiftRight_eq_div_pow]
  omega
theorem onN_shl (k : Nat) (y : W32) (h : y.toNat < 2 ^ (32 - k)) (hk : k ≤ 32) : onN k (y <<< k) = y := by
  induction k with
  | zero => simp [onN]
  | succ k ih =>
    have e : onN (k + 1) (y <<< (k + 1)) = onN k (on (y <<< (k + 1))) := by
      rw [onN_add k 1]; rfl
    have hp : y.toNat < 2 ^ (32 - k) := Nat.lt_of_lt_of_le h (Nat.pow_le_pow_right (by decide) (by omega))
    have e2 : (y <<< k).toNat < 2 ^ 31 := by
      rw [BitVec.toNat_shiftLeft, Nat.shiftLeft_eq]
      refine Nat.lt_of_le_of_lt (Nat.mod_le _ _) ?_
      have : y.toNat * 2 ^ k < 2 ^ (32 - (k + 1)) * 2 ^ k := Nat.mul_lt_mul_of_pos_right h (Nat.pow_pos (by decide))
      rw [← Nat.pow_add] at this
      rw [show 32 - (k + 1) + k = 31 by omega] at this
      exact this
    rw [e, BitVec.shiftLeft_add, on_double _ e2, ih hp (by omega)]

/-! The table of sixteen words. -/
def halfL : List Int := [0, 498536548, 997073096, 651767980, 1994146192, 1802195444, 1303535960, 1342533948, 3988292384, 4027552580, 3604390888, 3412177804, 2607071920, 2262029012, 2685067896, 3183342108]
theorem half_split (r : W32) : r = ((r >>> 4) <<< 4) ^^^ (r &&& 15#32) := by
  apply BitVec.eq_of_getLsbD_eq
  intro i hi
  by_cases h : i < 4
  · rcases i with _ | _ | _ | _ | i <;> simp_all <;> first | (exfalso; omega) | skip
  · have e : 4 + (i - 4) = i := by omega
    have e2 : (15#32).getLsbD i = false := by
      have : ∀ j : Fin 32, 4 ≤ j.val → (15#32).getLsbD j.val = false := by decide
      exact this ⟨i, hi⟩ (Nat.le_of_not_lt h)
    simp [-BitVec.getLsbD_eq_getElem, h, hi, e, e2]
theorem half_tab : ∀ i : Fin 16, (((onN 4 (BitVec.ofNat 32 i.val)).toNat : Nat) : Int) = halfL.getD i.val 0 := by decide
theorem onN4 (r : W32) : onN 4 r = (r >>> 4) ^^^ onN 4 (r &&& 15#32) := by
  have h : (r >>> 4).toNat < 2 ^ (32 - 4) := by
    rw [BitVec.toNat_ushiftRight, Nat.shiftRight_eq_div_pow]
    have := r.isLt
    omega
  conv => lhs; rw [half_split r]
  rw [onN_xor, onN_shl 4 _ h (by decide)]
theorem and15 (r : W32) : r &&& 15#32 = BitVec.ofNat 32 (r.toNat % 16) := by
  apply BitVec.eq_of_toNat_eq
  have : r.toNat &&& 15 = r.toNat % 16 := Nat.and_two_pow_sub_one_eq_mod _ 4
  simp [this]
  omega
end Go.Proofs.Ytbgnlbgoeogbaaa

namespace Go.Proofs.Ytbgnlbgoeogbaaa
open Go.RowKit
set_option linter.unusedVariables false
set_option linter.unusedSimpArgs false

/-! The product of two words' polynomials. -/
def oneW : W32 := 2147483648#32
def actN (a : W32) : Nat → W32 → W32
  | 0, _ => 0#32
  | i + 1, b => actN a i b ^^^ (if a.getLsbD (31 - i) then onN i b else 0#32)
def act (a b : W32) : W32 := actN a 32 b

theorem xor4 (a b c d : W32) : (a ^^^ b) ^^^ (c ^^^ d) = (a ^^^ c) ^^^ (b ^^^ d) := by
  simp only [BitVec.xor_assoc, bxor_left_comm]
theorem actN_xor (a : W32) (i : Nat) (b c : W32) : actN a i (b ^^^ c) = actN a i b ^^^ actN a i c := by
  induction i with
  | zero => simp [actN]
  | succ i ih =>
    simp only [actN, ih, onN_xor]
    split
    · rw [xor4]
    · simp
theorem actN_zero (a : W32) (i : Nat) : actN a i 0#32 = 0#32 := by
  induction i with
  | zero => rfl
  | succ i ih => simp only [actN, ih, onN_zero]; split <;> simp
theorem actN_on (a : W32) (i : Nat) (b : W32) : actN a i (on b) = on (actN a i b) := by
  induction i with
  | zero => simp [actN, on_zero]
  | succ i ih =>
    have e : onN i (on b) = on (onN i b) := onN_comm i 1 b
    simp only [actN, ih, on_xor, e]
    split
    · rfl
    · rw [on_zero]
theorem actN_onN (a : W32) (i k : Nat) (b : W32) : actN a i (onN k b) = onN k (actN a i b) := by
  induction k with
  | zero => rfl
  | succ k ih => simp only [onN, actN_on, ih]
theorem actN_comm (a b : W32) (m n : Nat) (c : W32) : actN a m (actN b n c) = actN b n (actN a m c) := by
  induction m with
  | zero => simp only [actN, actN_zero]
  | succ m ih =>
    simp only [actN, actN_xor, ih]
    split
    · rw [actN_onN]
    · rw [actN_zero]
theorem onN_one : ∀ i : Fin 32, onN i.val oneW = BitVec.twoPow 32 (31 - i.val) := by decide +kernel
theorem actN_one (a : W32) (n : Nat) (hn : n ≤ 32) (j : Nat) (hj : j < 32) : (actN a n oneW).getLsbD j = (decide (31 - j < n) && a.getLsbD j) := by
  induction n with
  | zero => simp [actN]
  | succ n ih =>
    have e := onN_one ⟨n, by omega⟩
    simp only at e
    simp only [actN, BitVec.getLsbD_xor, ih (by omega), e]
    by_cases h : j = 31 - n
    · subst h
      have h1 : ¬ (31 - (31 - n) < n) := by omega
      have h2 : 31 - (31 - n) < n + 1 := by omega
      cases ha : a.getLsbD (31 - n)
      · simp
      · simp only [h1, h2, decide_true, decide_false, Bool.false_and, Bool.true_and, if_true, BitVec.getLsbD_twoPow, hj]
        rfl
    · have h1 : decide (31 - j < n + 1) = decide (31 - j < n) := by simp only [decide_eq_decide]; omega
      rw [h1]
      split
      · rw [BitVec.getLsbD_twoPow]
        have : decide (31 - n = j) = false := by simp; omega
        rw [this]
        simp
      · simp
theorem act_one (a : W32) : act a oneW = a := by
  apply BitVec.eq_of_getLsbD_eq
  intro j hj
  rw [act, actN_one a 32 (by decide) j hj]
  have : 31 - j < 32 := by omega
  simp only [this, decide_true, Bool.true_and]
theorem act_comm (a b : W32) : act a b = act b a := by
  conv => lhs; rw [← act_one b]
  conv => rhs; rw [← act_one a]
  exact actN_comm _ _ _ _ _
theorem act_pow (a : W32) (k : Nat) : act a (onN k oneW) = onN k a := by
  rw [act, actN_onN]
  exact congrArg _ (act_one a)
theorem act_pow' (k : Nat) (b : W32) : act (onN k oneW) b = onN k b := by
  rw [act_comm, act_pow]

/-! The register's way over bytes. -/
def bW (x : Int) : W32 := BitVec.ofNat 32 x.toNat
def takeW (r : W32) (x : Int) : W32 := onN 8 (r ^^^ bW x)
def runW : W32 → List Int → W32
  | r, [] => r
  | r, x :: l => runW (takeW r x) l
theorem runW_append (r : W32) (l m : List Int) : runW r (l ++ m) = runW (runW r l) m := by
  induction l generalizing r with
  | nil => rfl
  | cons x l ih => exact ih _
theorem runW_snoc (r : W32) (l : List Int) (x : Int) : runW r (l ++ [x]) = takeW (runW r l) x := by rw [runW_append]; rfl
theorem runW_xor (r s : W32) (l : List Int) : runW (r ^^^ s) l = onN (8 * l.length) r ^^^ runW s l := by
  induction l generalizing r s with
  | nil => rfl
  | cons x l ih =>
    have e : takeW (r ^^^ s) x = onN 8 r ^^^ takeW s x := by
      unfold takeW
      rw [← onN_xor, BitVec.xor_assoc]
    show runW (takeW (r ^^^ s) x) l = _
    rw [e, ih, ← onN_add]
    show _ = _ ^^^ runW (takeW s x) l
    congr 2
theorem runW_lin (r : W32) (l : List Int) : runW r l = onN (8 * l.length) r ^^^ runW 0#32 l := by
  have := runW_xor r 0#32 l
  rwa [BitVec.xor_zero] at this
theorem runW_zeros (r : W32) (n : Nat) : runW r (List.replicate n 0) = onN (8 * n) r := by
  induction n generalizing r with
  | zero => rfl
  | succ n ih =>
    have e : takeW r 0 = onN 8 r := by
      unfold takeW bW
      simp
    rw [List.replicate_succ]
    show runW (takeW r 0) _ = _
    rw [e, ih, ← onN_add]
    congr 1
/-- The sum of bytes. -/
def sumW (l : List Int) : W32 := ~~~ (runW (~~~ 0#32) l)
theorem not_not (a : W32) : ~~~ (~~~ a) = a := BitVec.not_not
theorem sumW_append (l m : List Int) : sumW (l ++ m) = onN (8 * m.length) (sumW l) ^^^ sumW m := by
  unfold sumW
  rw [runW_append]
  generalize hr : runW (~~~ 0#32) l = r
  have e : r = (~~~ r) ^^^ (~~~ 0#32) := by
    apply BitVec.eq_of_getLsbD_eq
    intro i hi
    simp only [BitVec.getLsbD_xor, BitVec.getLsbD_not, hi, decide_true, Bool.true_and, BitVec.getLsbD_zero]
    cases r.getLsbD i <;> rfl
  conv => lhs; rw [e]
  rw [runW_xor]
  apply BitVec.eq_of_getLsbD_eq
  intro i hi
  simp [-BitVec.getLsbD_eq_getElem, hi]
end Go.Proofs.Ytbgnlbgoeogbaaa

namespace Go.Proofs.Ytbgnlbgoeogbaaa
open Go.RowKit
set_option linter.unusedVariables false
set_option linter.unusedSimpArgs false

/-- A word as the model's number. -/
def wI (a : W32) : Int := (a.toNat : Int)
theorem wI_bd (a : W32) : 0 ≤ wI a ∧ wI a < 4294967296 := by
  have := a.isLt
  unfold wI
  omega
theorem wI_of {x : Int} (h0 : 0 ≤ x) (h1 : x < 4294967296) : ∃ a : W32, x = wI a := by
  refine ⟨BitVec.ofNat 32 x.toNat, ?_⟩
  unfold wI
  simp
  omega
theorem wI_inj {a b : W32} (h : wI a = wI b) : a = b := by
  apply BitVec.eq_of_toNat_eq
  unfold wI at h
  omega
theorem wI_xor (a b : W32) : bits .xor .u32 (wI a) (wI b) = wI (a ^^^ b) := by
  unfold wI
  rw [u32_xor_nat _ _ a.isLt b.isLt, BitVec.toNat_xor]
theorem wI_and (a b : W32) : bits .and .u32 (wI a) (wI b) = wI (a &&& b) := by
  unfold wI
  rw [u32_and_nat _ _ a.isLt b.isLt, BitVec.toNat_and]
theorem wI_or (a b : W32) : bits .or .u32 (wI a) (wI b) = wI (a ||| b) := by
  unfold wI
  rw [u32_or_nat _ _ a.isLt b.isLt, BitVec.toNat_or]
theorem wI_shr (a : W32) (k : Nat) : wI a / 2 ^ k = wI (a >>> k) := by
  unfold wI
  rw [BitVec.toNat_ushiftRight, Nat.shiftRight_eq_div_pow]
  simp
theorem wI_zero : wI 0#32 = 0 := rfl
theorem wI_lsb (a : W32) : a.getLsbD 0 = decide (wI a % 2 = 1) := by
  unfold wI
  rw [BitVec.getLsbD, Nat.testBit_zero]
  simp only [decide_eq_decide]
  omega
theorem ret_u32 {a b : Int} (h : a = b) : Ending.returned (.int .u32 a) = .returned (.int .u32 b) := by rw [h]

theorem wI_ne (a : W32) : (wI a != 0) = (a != 0#32) := by
  rw [Bool.eq_iff_iff, bne_iff_ne, bne_iff_ne]
  constructor
  · intro h e; apply h; rw [e]; rfl
  · intro h e; exact h (wI_inj (e.trans wI_zero.symm))
theorem and_two (a : W32) (k : Nat) (hk : k < 32) : (a &&& BitVec.twoPow 32 k != 0#32) = a.getLsbD k := by
  rw [BitVec.and_twoPow]
  cases h : a.getLsbD k
  · simp
  · simp only [if_true]
    rw [bne_iff_ne]
    intro e
    have := congrArg (·.getLsbD k) e
    simp [BitVec.getLsbD_twoPow, hk] at this
theorem wI_bit (a : W32) (k : Nat) (hk : k < 32) : (bits .and .u32 (wI a) (wI (BitVec.twoPow 32 k)) != 0) = a.getLsbD k := by
  rw [wI_and, wI_ne, and_two a k hk]
theorem wI_half (a : W32) : wI a / (2 : Int) = wI (a >>> 1) := by
  have := wI_shr a 1
  simpa using this
theorem on_pos (a : W32) (h : a.getLsbD 0 = true) : bits .xor .u32 (wI a / 2) 3988292384 = wI (on a) := by
  rw [wI_half, show (3988292384 : Int) = wI genW from rfl, wI_xor]
  unfold on
  rw [h, if_pos rfl]
theorem on_neg (a : W32) (h : a.getLsbD 0 = false) : wI a / 2 = wI (on a) := by
  rw [wI_half]
  unfold on
  rw [h]
  simp

theorem one_shr : ∀ i : Fin 33, oneW >>> i.val = if i.val < 32 then BitVec.twoPow 32 (31 - i.val) else 0#32 := by decide +kernel
theorem actN_next (a b : W32) (i : Nat) : actN a (i + 1) b = actN a i b ^^^ (if a.getLsbD (31 - i) then onN i b else 0#32) := rfl

end Go.Proofs.Ytbgnlbgoeogbaaa

namespace Go.Proofs.Ytbgnlbgoeogbaaa
open Go.RowKit
set_option linter.unusedVariables false
set_option linter.unusedSimpArgs false

/-- The table lies where the program's text lays it. -/
abbrev Tab (w : World) : Prop := SegK .u32 4294967295 w (some ⟨0, 0, none⟩) halfL
theorem Tab.cell {w : World} (h : Tab w) (k : Nat) (hk : k < 16) : w.cell? ⟨0, k, none⟩ = some (.int .u32 (wI (onN 4 (BitVec.ofNat 32 k)))) := by
  obtain ⟨b, off, e, hc⟩ := h.at_ k hk
  cases e
  rw [Nat.zero_add] at hc
  rw [hc, ← half_tab ⟨k, hk⟩]
  rfl
theorem wI_and15 (a : W32) : bits .and .u32 (wI a) 15 = ((a.toNat % 16 : Nat) : Int) := by
  rw [show (15 : Int) = wI 15#32 from rfl, wI_and, and15]
  unfold wI
  simp
  omega
theorem wI_shr4 (a : W32) : wI a / (16 : Int) = wI (a >>> 4) := by
  have := wI_shr a 4
  simpa using this
theorem wI_byte (x : Int) (h0 : 0 ≤ x) (h1 : x ≤ 255) : wI (bW x) = x := by
  unfold wI bW
  simp
  omega

end Go.Proofs.Ytbgnlbgoeogbaaa

namespace Go.Proofs.Ytbgnlbgoeogbaaa
open Go.RowKit
set_option linter.unusedVariables false
set_option linter.unusedSimpArgs false

theorem u32_unsigned : IntKind.u32.signed = false := rfl
theorem wI_not (a : W32) : bits .xor .u32 IntKind.u32.max (wI a) = wI (~~~ a) := by
  rw [show IntKind.u32.max = wI (~~~ 0#32) from by decide, wI_xor]
  congr 1

theorem take_snoc {zs : List Int} {k : Nat} (hk : k < zs.length) : zs.take (k + 1) = zs.take k ++ [zs.getD k 0] := by
  rw [List.take_add_one]
  simp [List.getD, hk]

end Go.Proofs.Ytbgnlbgoeogbaaa

namespace Go.Proofs.Ytbgnlbgoeogbaaa
open Go.RowKit
set_option linter.unusedVariables false
set_option linter.unusedSimpArgs false

/-- A part: where its bytes lie, the bytes, the capacity. -/
structure Part where
  a : Option Addr
  zs : List Int
  cap : Nat
def Part.val (p : Part) : Value := .slice p.a p.zs.length p.cap
def noPart : Part := ⟨none, [], 0⟩
/-- Parts lie where a slice's address leads, and the bytes of each where it leads. -/
structure Parts (w : World) (a : Option Addr) (ps : List Part) : Prop where
  at_ : ∀ i, i < ps.length → ∃ b off, a = some ⟨b, off, none⟩ ∧ w.cell? ⟨b, off + i, none⟩ = some (ps.getD i noPart).val
  seg : ∀ i, i < ps.length → Seg w (ps.getD i noPart).a (ps.getD i noPart).zs
  len : ∀ i, i < ps.length → (ps.getD i noPart).zs.length ≤ 9223372036854775807
def flat (ps : List Part) : List Int := (ps.map (·.zs)).flatten
theorem flat_snoc {ps : List Part} {k : Nat} (hk : k < ps.length) : flat (ps.take (k + 1)) = flat (ps.take k) ++ (ps.getD k noPart).zs := by
  unfold flat
  rw [List.take_add_one, List.map_append, List.flatten_append, List.getElem?_eq_getElem hk]
  simp only [Option.toList, List.map_cons, List.map_nil, List.flatten_cons, List.flatten_nil, List.append_nil]
  rw [List.getD, List.getElem?_eq_getElem hk]
  rfl

end Go.Proofs.Ytbgnlbgoeogbaaa
