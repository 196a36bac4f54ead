import Derived.Test.YtmjlpfmacblcpaaDoorPh
import Derived.Test.YtmjlpfmacblcpaaDoorPf
import Derived.Test.YtmjlpfmacblcpaaDoorPl
import Derived.Test.YtmjlpfmacblcpaaDoorPm
import Derived.Test.YtmjlpfmacblcpaaDoorPn
import Derived.Test.YtmjlpfmacblcpaaDoorProg
import Derived.Test.YtmjlpfmacblcpaaDoorPa
import Derived.WalkKit
import Derived.WalkSpells
import Derived.Laws.BytesArg
namespace Go.Proofs.YtmjlpfmacblcpaaDoor
open Go.RowKit Go.Shelf
set_option linter.unusedVariables false
set_option linter.unusedSimpArgs false
theorem be25_at (r : Rc25) : ∀ k, k ≤ 10 → (be25 r k).length = fo25 k
  | 0, _ => rfl
  | k + 1, h => by
    have ih := be25_at r k (by omega)
    have nx := fo25_next k (by omega)
    rw [be25, List.length_append, fixL_len, ih]
    exact nx.1.symm
theorem be25_pre (r : Rc25) (k : Nat) : ∀ n, k ≤ n → n ≤ 10 → ∃ Y, be25 r n = be25 r k ++ Y
  | 0, h, _ => ⟨[], by
    obtain rfl : k = 0 := by omega
    simp⟩
  | n + 1, h, hn => by
    by_cases e : k = n + 1
    · subst e; exact ⟨[], by simp⟩
    · obtain ⟨Y, hY⟩ := be25_pre r k n (by omega) (by omega)
      exact ⟨Y ++ fixL (fz25 n).toNat (vs25 r n), by rw [be25, hY, List.append_assoc]⟩
theorem by25_len (r : Rc25) : (by25 r).length = 43 := by
  unfold by25
  rw [List.length_append, be25_at r 10 (by omega), sm21_len]
  rfl
theorem seg_by25 {r : Rc25} (X : List Int) (k : Nat) (hk : k < 10) : ((by25 r ++ X).drop (fo25 k)).take (fz25 k).toNat = fixL (fz25 k).toNat (vs25 r k) := by
  obtain ⟨Y, hY⟩ := be25_pre r (k + 1) 10 (by omega) (by omega)
  have e : by25 r ++ X = be25 r k ++ (fixL (fz25 k).toNat (vs25 r k) ++ (Y ++ (sm21 (be25 r 10) ++ X))) := by
    unfold by25
    rw [hY, be25]
    simp only [List.append_assoc]
  rw [e, ← be25_at r k (by omega), List.drop_left]
  have h := List.take_left (l₁ := fixL (fz25 k).toNat (vs25 r k)) (l₂ := Y ++ (sm21 (be25 r 10) ++ X))
  rw [fixL_len] at h
  exact h
theorem dv_by25 {r : Rc25} (hm : r.may) (hw : r.wd) (X : List Int) (k : Nat) (hk : k < 10) : dv25 (by25 r ++ X) k = vs25 r k := by
  have hf := vs25_fit hm hw k hk
  unfold dv25
  rw [seg_by25 X k hk, unf_fix _ _ hf.2.2.1]
  have hcase : fk25 k = .i64 ∨ (fk25 k = .u32 ∧ (k = 4 ∨ k = 8)) := by
    rcases (by omega : k = 0 ∨ k = 1 ∨ k = 2 ∨ k = 3 ∨ k = 4 ∨ k = 5 ∨ k = 6 ∨ k = 7 ∨ k = 8 ∨ k = 9) with rfl | rfl | rfl | rfl | rfl | rfl | rfl | rfl | rfl | rfl <;> first | exact .inl rfl | exact .inr ⟨rfl, by omega⟩
  rcases hcase with e | ⟨e, h4⟩
  · rw [e]; exact IntWalk.i64_in _ (by omega)
  · rw [e]
    have hb : 0 ≤ vs25 r k ∧ vs25 r k ≤ 4294967295 := by
      rcases h4 with rfl | rfl
      · exact hw.1
      · exact hw.2
    exact IntWalk.u32_in _ (by omega)
theorem dr_by25 {r : Rc25} (hm : r.may) (hw : r.wd) (X : List Int) : dr25 (by25 r ++ X) = r := by
  unfold dr25
  simp only [dv_by25 hm hw X _ (show 0 < 10 by omega), dv_by25 hm hw X _ (show 1 < 10 by omega), dv_by25 hm hw X _ (show 2 < 10 by omega), dv_by25 hm hw X _ (show 3 < 10 by omega), dv_by25 hm hw X _ (show 4 < 10 by omega), dv_by25 hm hw X _ (show 5 < 10 by omega), dv_by25 hm hw X _ (show 6 < 10 by omega), dv_by25 hm hw X _ (show 7 < 10 by omega), dv_by25 hm hw X _ (show 8 < 10 by omega), dv_by25 hm hw X _ (show 9 < 10 by omega)]
  rfl
theorem de_by25 {r : Rc25} (hm : r.may) (hw : r.wd) (X : List Int) : de25 (by25 r ++ X) = (r, 0) := by
  have h39 : (be25 r 10).length = 39 := be25_at r 10 (by omega)
  have hd := dr_by25 hm hw X
  have ht : tk25 (by25 r ++ X) := by
    refine ⟨by rw [List.length_append, by25_len]; omega, ?_, ?_⟩
    · obtain ⟨Y, hY⟩ := be25_pre r 0 10 (by omega) (by omega)
      unfold by25
      rw [hY]
      show ((mg25 ++ Y ++ _) ++ X).take 4 = mg25
      rw [List.append_assoc, List.append_assoc]
      rfl
    · have e : by25 r ++ X = be25 r 10 ++ (sm21 (be25 r 10) ++ X) := by unfold by25; rw [List.append_assoc]
      have h1 : (by25 r ++ X).drop 39 = sm21 (be25 r 10) ++ X := by rw [e, ← h39, List.drop_left]
      have h2 : (by25 r ++ X).take 39 = be25 r 10 := by rw [e, ← h39, List.take_left]
      rw [h1, h2]
      have h3 : (sm21 (be25 r 10) ++ X).take 4 = sm21 (be25 r 10) := by
        have h := List.take_left (l₁ := sm21 (be25 r 10)) (l₂ := X)
        rw [sm21_len] at h
        exact h
      rw [h3]
      unfold sm21
      have hb := wI_bd21 (sumW (be25 r 10))
      exact unf_fix 4 _ (by rw [show (2 : Int) ^ (8 * 4) = 4294967296 by decide]; omega)
  unfold de25
  rw [if_pos ht, hd]
  unfold cd25 ck25
  rw [if_pos hm, if_pos hm]
/-- What Decode says: a record that may be, or none. -/
theorem de_cases25 (zs : List Int) : ((de25 zs).2 = 0 ∧ (de25 zs).1.may) ∨ ((de25 zs).2 = 250 ∧ (de25 zs).1 = zr25) := by
  unfold de25
  split
  · unfold cd25 ck25
    by_cases h : (dr25 zs).may
    · rw [if_pos h, if_pos h]; exact .inl ⟨rfl, h⟩
    · rw [if_neg h, if_neg h]; exact .inr ⟨rfl, rfl⟩
  · exact .inr ⟨rfl, rfl⟩
theorem zr_not_may25 : ¬ zr25.may := by decide
theorem may_q25 {r : Rc25} (h : r.may) : 1 ≤ r.q := h.1.1
/-- A page's bytes. -/
def pb25 (S : Fs21) (k : Nat) : List Int := (List.range 64).map fun i => (sh21 S 2 (k : Int)).b.getD i 255
theorem pb25_len (S : Fs21) (k : Nat) : (pb25 S k).length = 64 := by simp [pb25]
theorem rb_page25 {S : Fs21} (hpg : S.pg = 64) (k : Nat) : rb21 S 2 (64 * k) 64 = pb25 S k := by
  have h := rb21_more S 2 (64 * k) 0 64 (by omega) (by rw [hpg]; omega)
  have h0 : rb21 S 2 (64 * k) 0 = [] := rfl
  rw [h0, List.nil_append] at h
  rw [show 64 = 0 + 64 from rfl, h]
  unfold pb25
  have e1 : (64 * k + 0) / S.pg = k := by rw [hpg]; omega
  have e2 : (64 * k + 0) % S.pg = 0 := by rw [hpg]; omega
  rw [e1, e2]
  simp
theorem rb_both25 {S : Fs21} (hpg : S.pg = 64) : rb21 S 2 0 128 = pb25 S 0 ++ pb25 S 1 := by
  have h := rb21_more S 2 0 64 64 (by omega) (by rw [hpg]; omega)
  have h0 : rb21 S 2 0 64 = pb25 S 0 := rb_page25 hpg 0
  rw [show 128 = 64 + 64 from rfl, h, h0]
  unfold pb25
  have e1 : (0 + 64) / S.pg = 1 := by rw [hpg]
  have e2 : (0 + 64) % S.pg = 0 := by rw [hpg]
  rw [e1, e2]
  simp
/-- What Decode says of a page. -/
def dc25 (S : Fs21) (k : Nat) : Rc25 × Int := de25 (pb25 S k)
/-- The newest record of two, its page, and the error. -/
def nr25 (x y : Rc25) : Rc25 × Nat × Int := if x.q < y.q then (if y = zr25 then (zr25, 0, 251) else (y, 1, 0)) else (if x = zr25 then (zr25, 0, 251) else (x, 0, 0))
def rd25 (S : Fs21) : Rc25 × Nat × Int := if S.on = false then (zr25, 0, 213) else nr25 (dc25 S 0).1 (dc25 S 1).1
/-- Write: the record, the error, the device. -/
def wr25 (S : Fs21) (r : Rc25) : Rc25 × Int × Fs21 :=
  if (rd25 S).2.2 ≠ 0 ∧ (rd25 S).2.2 ≠ 251 then (zr25, (rd25 S).2.2, S) else
  let tp : Nat := if (rd25 S).2.2 = 0 then 1 - (rd25 S).2.1 else 0
  let r' : Rc25 := ⟨(rd25 S).1.q + 1, r.g, r.n, r.t⟩
  if ¬ r'.may then (zr25, 250, S) else
  if erE21 S 2 (tp : Int) ≠ 0 then (zr25, erE21 S 2 (tp : Int), erS21 S 2 (tp : Int)) else
  if pgE21 (erS21 S 2 (tp : Int)) 2 (tp : Int) 43 ≠ 0 then (zr25, pgE21 (erS21 S 2 (tp : Int)) 2 (tp : Int) 43, pgS21 (erS21 S 2 (tp : Int)) 2 (tp : Int) (by25 r')) else
  (r', 0, pgS21 (erS21 S 2 (tp : Int)) 2 (tp : Int) (by25 r'))
theorem dc_q25 (S : Fs21) (k : Nat) : 0 ≤ (dc25 S k).1.q ∧ (dc25 S k).1.q ≤ 1152921504606846976 := by
  rcases de_cases25 (pb25 S k) with ⟨_, h⟩ | ⟨_, h⟩
  · exact ⟨by have := may_q25 h; show 0 ≤ (de25 (pb25 S k)).1.q; omega, h.1.2⟩
  · show 0 ≤ (de25 (pb25 S k)).1.q ∧ (de25 (pb25 S k)).1.q ≤ _
    rw [h]; exact ⟨by decide, by decide⟩
theorem rd_q25 (S : Fs21) : 0 ≤ (rd25 S).1.q ∧ (rd25 S).1.q ≤ 1152921504606846976 ∧ (rd25 S).2.1 ≤ 1 := by
  have h0 := dc_q25 S 0
  have h1 := dc_q25 S 1
  have hz : zr25.q = 0 := rfl
  unfold rd25 nr25
  split
  · exact ⟨by rw [hz]; omega, by rw [hz]; omega, by show 0 ≤ 1; omega⟩
  · split
    · split
      · exact ⟨by rw [hz]; omega, by rw [hz]; omega, by show 0 ≤ 1; omega⟩
      · exact ⟨h1.1, h1.2, Nat.le_refl _⟩
    · split
      · exact ⟨by rw [hz]; omega, by rw [hz]; omega, by show 0 ≤ 1; omega⟩
      · exact ⟨h0.1, h0.2, by show 0 ≤ 1; omega⟩
end Go.Proofs.YtmjlpfmacblcpaaDoor

namespace Go.Proofs.YtmjlpfmacblcpaaDoor
open Go.RowKit
set_option linter.unusedVariables false
theorem run_conv_segS {P : Program} {w : World} {a : Option Addr} {zs : List Int} (cap : Nat) (h : Seg w a zs) (src e dst : TypeId) (hs : P.underlying src = some (.slice e)) (he : P.underlying e = some (.int .u8)) (hd : P.underlying dst = some .string) :
    (convert src dst (.slice a zs.length cap)).run P w = .ok (.string (strOfNums zs)) w := by
  by_cases hz : 0 < zs.length
  · obtain ⟨b, off, rfl, _⟩ := h.at_ 0 hz
    refine run_convert_bytes_arg w src e hs he b off zs.length cap zs rfl (fun i hi => ?_) dst hd
    obtain ⟨b', off', hb, hc⟩ := h.at_ i hi
    cases hb
    exact hc
  · have : zs = [] := List.eq_nil_of_length_eq_zero (by omega)
    subst this
    cases a with
    | none => exact run_convert_bytes_nil w src e hs he _ _ dst hd
    | some x =>
      rw [run_convert_bytes_string w src dst e _ _ cap hs he hd]
      have hl : (loadCells x 0).run P w = .ok (([] : List Int).map (Value.int .u8)).toArray w := by simp [loadCells, loadCellsFrom]
      have := run_bytesToString (P := P) w x 0 cap [] hl
      exact this

theorem str_injS {xs ys : List Int} (hx : ∀ z ∈ xs, 0 ≤ z ∧ z ≤ 255) (hy : ∀ z ∈ ys, 0 ≤ z ∧ z ≤ 255) : ((strOfNums xs).toList == (strOfNums ys).toList) = (xs == ys) := by
  rw [ByteArray.toList_eq, ByteArray.toList_eq, strOfNums_data, strOfNums_data]
  have key : ∀ (xs ys : List Int), (∀ z ∈ xs, 0 ≤ z ∧ z ≤ 255) → (∀ z ∈ ys, 0 ≤ z ∧ z ≤ 255) → (xs.map fun n => UInt8.ofNat n.toNat) = (ys.map fun n => UInt8.ofNat n.toNat) → xs = ys := by
    intro xs
    induction xs with
    | nil => intro ys _ _ h; cases ys with
      | nil => rfl
      | cons y r => simp at h
    | cons x r ih =>
      intro ys hx hy h
      cases ys with
      | nil => simp at h
      | cons y t =>
        simp only [List.map_cons, List.cons.injEq] at h
        have h1 := hx x (by simp)
        have h2 := hy y (by simp)
        have h3 := congrArg UInt8.toNat h.1
        simp at h3
        have h4 : x = y := by omega
        rw [h4, ih t (fun z hz => hx z (by simp [hz])) (fun z hz => hy z (by simp [hz])) h.2]
  rw [Bool.eq_iff_iff, beq_iff_eq, beq_iff_eq]
  exact ⟨key xs ys hx hy, fun h => by rw [h]⟩

end Go.Proofs.YtmjlpfmacblcpaaDoor
