import Derived.Test.YtmjlpfmacblcpaaDoorProg
import Derived.Test.YtmjlpfmacblcpaaDoorPk
import Derived.Test.YtmjlpfmacblcpaaDoorPa
import Derived.Test.YtmjlpfmacblcpaaDoorPj
import Derived.Test.YtmjlpfmacblcpaaDoorPg
namespace Go.Proofs.YtmjlpfmacblcpaaDoor
open Go.RowKit
set_option linter.unusedVariables false
/-- The number at the front, how many bytes it has, and the error: behind the first so many bytes. -/
def decL (v : Int) (c : Nat) : List Int → Int × Int × Int
  | [] => (0, 0, 11)
  | x :: r => if tkErr c x ≠ 0 then (0, 0, tkErr c x) else if x < 128 then (tkVal v c x, (c : Int) + 1, 0) else decL (tkVal v c x) (c + 1) r

theorem drop_cons {zs : List Int} {k : Nat} (h : k < zs.length) : zs.drop k = zs.getD k 0 :: zs.drop (k + 1) := by
  rw [List.drop_eq_getElem_cons h]
  simp [List.getD, h]

theorem tkVal_bd (v : Int) (c : Nat) (x : Int) (hv0 : 0 ≤ v) (hv1 : v < 128 ^ c) (hx : 0 ≤ x) : 0 ≤ tkVal v c x ∧ tkVal v c x < 128 ^ (c + 1) := by
  have hp := pow128_pos c
  have hm : 0 ≤ x % 128 := by omega
  have h1 := Int.mul_nonneg hm (Int.le_of_lt hp)
  have h2 : x % 128 * 128 ^ c ≤ 127 * 128 ^ c := Int.mul_le_mul_of_nonneg_right (by omega) (Int.le_of_lt hp)
  unfold tkVal
  rw [Int.pow_succ]
  omega

theorem tk_more_le {c : Nat} {x : Int} (hc : c ≤ 9) (he : tkErr c x = 0) (hx : 128 ≤ x) : c ≤ 8 := by
  have := tkErr_nine he
  omega

set_option maxRecDepth 100000 in
set_option maxHeartbeats 400000 in
theorem decode_any (a : Option Addr) (zs : List Int) (cap : Nat) (w : World) (hs : Seg w a zs) (hl : zs.length ≤ 140737488355328) :
    Calls Tryd.prog 113 #[.slice a zs.length cap] w fun e w' => e = .returned (.tuple #[.int .u64 (decL 0 0 zs).1, .int .i64 (decL 0 0 zs).2.1, .int .i64 (decL 0 0 zs).2.2]) ∧ Below w.heap.size w w' := by
  go_enter Tryd.func113, Tryd.ntmps113
  go_wp2
  go_loopw [13] (fun i wr => ∃ (k : Nat) (v : Int), k ≤ zs.length ∧ i = .int .i64 k ∧ k ≤ 9 ∧ 0 ≤ v ∧ v < 128 ^ k ∧ TK wr w.heap.size v k ∧ Below w.heap.size w wr ∧ decL 0 0 zs = decL v k (zs.drop k)) (fun i _ => zs.length - (intOf i).toNat)
  case atStart => exact ⟨0, 0, Nat.zero_le _, rfl, by omega, by omega, by decide, heap_alloc_new w _, (Below.refl _ _).alloc (Nat.le_refl _) _, rfl⟩
  case round =>
    obtain ⟨k, v, hk, rfl, hk9, hv0, hv1, ht, hb, hd⟩ := hrel
    by_cases hlt : k < zs.length
    · have hsr := hs.old hb
      obtain ⟨b, off, rfl, hcell⟩ := hsr.at_ k hlt
      have hx := hs.bd k
      rw [drop_cons hlt] at hd
      generalize zs.getD k 0 = x at *
      by_cases he : tkErr k x = 0
      · by_cases h7 : x < 128
        · have HD : Hid (decL 0 0 zs = (tkVal v k x, (k : Int) + 1, 0)) := by rw [hd]; show decL v k _ = _; simp [decL, he, h7]
          clear hd
          go_wp2_with (go_at_call 127; refine (take_ends _ v k x _ ht hv0 hv1 (by omega) (by omega) hk9 he).mono ?_; rintro e w1 ⟨rfl, ht1, hg1⟩)
          go_ret3
          rw [HD.out]
          exact ⟨rfl, hb.trans (below_of_grown hg1 (Nat.le_refl _) hb.size)⟩
        · have HD : Hid (decL 0 0 zs = decL (tkVal v k x) (k + 1) (zs.drop (k + 1))) := by rw [hd]; show decL v k _ = _; simp [decL, he, h7]
          have hk8 := tk_more_le hk9 he (by omega)
          have hbd := tkVal_bd v k x hv0 hv1 (by omega)
          clear hd
          go_wp2_with (go_at_call 127; refine (take_more _ v k x _ ht hv0 hv1 (by omega) (by omega) hk9 he).mono ?_; rintro e w1 ⟨rfl, ht1, hg1⟩)
          go_roundw
          case rel => exact ⟨k + 1, tkVal v k x, by omega, by go_num, by omega, hbd.1, hbd.2, ht1, hb.trans (below_of_grown hg1 (Nat.le_refl _) hb.size), HD.out⟩
          case measure => simp [intOf]; omega
      · have HD : Hid (decL 0 0 zs = (0, 0, tkErr k x)) := by rw [hd]; show decL v k _ = _; simp [decL, he]
        have hne : (tkErr k x != 0) = true := by simp [he]
        clear hd
        go_wp2_with (go_at_call 127; refine (take_bad _ v k x _ ht (by omega) (by omega) hk9 he).mono ?_; rintro e w1 ⟨rfl, ht1, hg1⟩)
        go_ret3
        rw [HD.out]
        exact ⟨rfl, hb.trans (below_of_grown hg1 (Nat.le_refl _) hb.size)⟩
    · have HD : Hid (decL 0 0 zs = (0, 0, 11)) := by rw [hd, List.drop_of_length_le (by omega)]; rfl
      clear hd
      go_wp2
      go_ret3
      rw [HD.out]
      exact ⟨rfl, hb⟩
end Go.Proofs.YtmjlpfmacblcpaaDoor

namespace Go.Proofs.YtmjlpfmacblcpaaDoor
open Go.RowKit Go.Shelf
set_option linter.unusedVariables false
set_option linter.unusedSimpArgs false
theorem below_drewN24 {B : Nat} {w w' : World} (h : Below B w w') (n : Nat) : Below B w (w'.drewN n) := ⟨h.os, h.tape, h.output, h.size, h.block⟩
theorem getD_take24 {L M : List Int} {k : Nat} (h : L.take k = M.take k) (h1 : k < L.length) (h2 : k < M.length) (h3 : L.getD k 0 = M.getD k 0) : L.take (k + 1) = M.take (k + 1) := by
  rw [List.take_add_one, List.take_add_one, h]
  simp only [List.getD_eq_getElem?_getD, List.getElem?_eq_getElem h1, List.getElem?_eq_getElem h2, Option.getD_some] at h3 ⊢
  rw [h3]
theorem getD_ne24 {L M : List Int} {k : Nat} (h3 : L.getD k 0 ≠ M.getD k 0) : L ≠ M := fun e => h3 (by rw [e])
set_option maxRecDepth 100000 in
set_option maxHeartbeats 2000000 in
theorem peqs24 (a b : Option Addr) (ca cb : Nat) (L M : List Int) (n : Nat) (w : World) (hx : Seg w a L) (hy : Seg w b M) (hn : Hid (L.length = n)) (hm : Hid (M.length = n)) (hl : n ≤ 140737488351232) :
    Calls Tryd.prog 37 #[.slice a n ca, .slice b n cb] w fun e w' => e = .returned (.bool (decide (L = M))) ∧ Below w.heap.size w w' := by
  have KEY : Hid (∀ wr, (∃ d, wr = w.drewN d) → Seg wr a L ∧ Seg wr b M) := by
    rintro wr ⟨d, rfl⟩
    exact ⟨hx.drewN d, hy.drewN d⟩
  clear hx hy
  go_enter Tryd.func37, Tryd.ntmps37
  go_wp2_with fail
  go_loopw [13] (fun ti wr => ∃ k : Nat, k ≤ n ∧ ti = .int .i64 k ∧ (∃ d, wr = w.drewN d) ∧ L.take k = M.take k) (fun ti _ => n - (intOf ti).toNat)
  case atStart => exact ⟨0, Nat.zero_le _, rfl, ⟨0, rfl⟩, rfl⟩
  case round =>
    obtain ⟨k, hk, rfl, hd, hT⟩ := hrel
    obtain ⟨sx, sy⟩ := KEY.out wr hd
    obtain ⟨d, hd⟩ := hd
    have HD : Hid (wr = w.drewN d) := hd
    have HTK : Hid (L.take k = M.take k) := hT
    clear hd hT
    by_cases h1 : k < n
    · have h1i : (k : Int) < (n : Int) := by omega
      obtain ⟨b1, o1, rfl, t1⟩ := sx.at_ k (by rw [hn.out]; exact h1)
      obtain ⟨b2, o2, rfl, t2⟩ := sy.at_ k (by rw [hm.out]; exact h1)
      clear sx sy
      have HLT : Hid (k < L.length ∧ k < M.length) := ⟨by rw [hn.out]; exact h1, by rw [hm.out]; exact h1⟩
      obtain ⟨x, hx⟩ : ∃ x, x = L.getD k 0 := ⟨_, rfl⟩
      obtain ⟨y, hy⟩ : ∃ y, y = M.getD k 0 := ⟨_, rfl⟩
      rw [← hx] at t1
      rw [← hy] at t2
      have HXY : Hid (x = L.getD k 0 ∧ y = M.getD k 0) := ⟨hx, hy⟩
      clear hx hy
      by_cases hxy : x = y
      · subst hxy
        go_wp2_with fail
        go_quiet (fail)
        go_wp2_with fail
        go_roundw
        case rel => exact ⟨k + 1, by omega, by go_num, ⟨d + nq, by rw [HD.out]; simp [World.drewN]; try omega⟩, getD_take24 HTK.out HLT.out.1 HLT.out.2 (by rw [← HXY.out.1, ← HXY.out.2])⟩
        case measure => simp [intOf]; omega
      · go_wp2_with fail
        go_quiet (fail)
        go_wp2_with fail
        go_ret
        have : L ≠ M := getD_ne24 (k := k) (by rw [← HXY.out.1, ← HXY.out.2]; exact hxy)
        refine ⟨by simp [this], ?_⟩
        rw [HD.out]
        first | exact below_drewN24 (below_drewN24 (Below.refl _ _) d) _ | exact below_drewN24 (Below.refl _ _) _
    · have h1i : ¬ (k : Int) < (n : Int) := by omega
      go_wp2_with fail
      go_ret
      have : L = M := by
        have h := HTK.out
        rw [List.take_of_length_le (by rw [hn.out]; omega), List.take_of_length_le (by rw [hm.out]; omega)] at h
        exact h
      exact ⟨by simp [this], by rw [HD.out]; exact below_drewN24 (Below.refl _ _) d⟩
end Go.Proofs.YtmjlpfmacblcpaaDoor

namespace Go.Proofs.YtmjlpfmacblcpaaDoor
open Go.RowKit
set_option linter.unusedVariables false
/-- What was written is taken up, whatever stands behind. -/
theorem dec_enc : ∀ (f c : Nat) (u v : Int) (rest : List Int), c + f = 9 → 0 ≤ v → v < 2 * 128 ^ f → (c = 0 ∨ 0 < v) → decL u c (encL f v ++ rest) = (u + v * 128 ^ c, (c : Int) + ((encL f v).length : Int), 0)
  | 0, c, u, v, rest, hc, h0, h1, h2 => by
    obtain rfl : c = 9 := by omega
    simp at h1
    have hv : 0 < v := by rcases h2 with h | h; · omega
                          · exact h
    obtain rfl : v = 1 := by omega
    simp [encL, decL, tkErr, tkVal]
  | f + 1, c, u, v, rest, hc, h0, h1, h2 => by
    have hp := pow128_pos f
    have h3 : (128 : Int) ^ (f + 1) = 128 ^ f * 128 := Int.pow_succ _ _
    have hc9 : c ≠ 9 := by omega
    by_cases h7 : 127 < v
    · have ih := dec_enc f (c + 1) (tkVal u c (v % 128 + 128)) (v / 128) rest (by omega) (by omega) (by omega) (Or.inr (by omega))
      have ht : tkErr c (v % 128 + 128) = 0 := by
        unfold tkErr
        rw [if_neg (by omega), if_neg (by omega)]
      have e : encL (f + 1) v = (v % 128 + 128) :: encL f (v / 128) := by rw [encL, if_pos h7]
      rw [e, List.cons_append, decL, if_neg (by simp [ht]), if_neg (by omega), ih]
      have e2 : (v % 128 + 128) % 128 = v % 128 := by omega
      have e3 : v / 128 * 128 ^ (c + 1) = (v / 128 * 128) * 128 ^ c := by rw [Int.pow_succ, Int.mul_assoc, Int.mul_comm 128, ← Int.mul_assoc]
      have e4 : v % 128 * 128 ^ c + v / 128 * 128 ^ (c + 1) = v * 128 ^ c := by
        rw [e3, ← Int.add_mul]
        congr 1
        omega
      have e5 : tkVal u c (v % 128 + 128) + v / 128 * 128 ^ (c + 1) = u + v * 128 ^ c := by
        unfold tkVal
        rw [e2, Int.add_assoc, e4]
      rw [e5]
      simp only [List.length_cons, Prod.mk.injEq, true_and, and_true]
      omega
    · have e : encL (f + 1) v = [v] := by rw [encL, if_neg h7]
      have ht : tkErr c v = 0 := by
        unfold tkErr
        rw [if_neg (by omega), if_neg (by omega)]
      rw [e, List.singleton_append, decL, if_neg (by simp [ht]), if_pos (by omega)]
      have e2 : v % 128 = v := by omega
      simp [tkVal, e2]
theorem dec_encI (v : Int) (rest : List Int) (h0 : 0 ≤ v) (h1 : v ≤ 18446744073709551615) : decL 0 0 (encI v ++ rest) = (v, ((encI v).length : Int), 0) := by
  have := dec_enc 9 0 0 v rest rfl h0 (by rw [pow9]; omega) (Or.inl rfl)
  simp at this
  exact this

end Go.Proofs.YtmjlpfmacblcpaaDoor

namespace Go.Proofs.YtmjlpfmacblcpaaDoor
open Go.RowKit
set_option linter.unusedVariables false
/-- What is taken is just what is written. -/
theorem dec_ok : ∀ (zs : List Int) (c : Nat) (u w n : Int), c ≤ 9 → 0 ≤ u → u < 128 ^ c → (∀ z ∈ zs, 0 ≤ z ∧ z ≤ 255) → decL u c zs = (w, n, 0) →
    ∃ (m : Nat) (v : Int), 1 ≤ m ∧ m ≤ zs.length ∧ n = (c : Int) + (m : Int) ∧ 0 ≤ v ∧ v < 2 * 128 ^ (9 - c) ∧ w = u + v * 128 ^ c ∧ zs.take m = encL (9 - c) v ∧ (0 < c → 0 < v)
  | [], c, u, w, n, _, _, _, _, h => by simp [decL] at h
  | x :: r, c, u, w, n, hc, hu0, hu1, hz, h => by
    have hx := hz x (by simp)
    have hp := pow128_pos c
    rw [decL] at h
    by_cases he : tkErr c x = 0
    · rw [if_neg (by simp [he])] at h
      have h9 := tkErr_nine he
      have hne : 0 < c → x ≠ 0 := by
        intro h1 h2
        subst h2
        unfold tkErr at he
        split at he
        · cases he
        · rw [if_pos ⟨h1, rfl⟩] at he; cases he
      by_cases h7 : x < 128
      · rw [if_pos h7] at h
        simp only [Prod.mk.injEq, and_true] at h
        obtain ⟨rfl, rfl⟩ := h
        have e2 : x % 128 = x := by omega
        have hp9 := pow128_pos (9 - c)
        refine ⟨1, x, by omega, by simp, by omega, hx.1, ?_, by unfold tkVal; rw [e2], ?_, fun h1 => by have := hne h1; omega⟩
        · by_cases e : c = 9
          · subst e; have := h9 rfl; simp; omega
          · have h1 : (128 : Int) ^ 1 ≤ 128 ^ (9 - c) := pow128_mono (by omega)
            simp at h1
            omega
        · cases 9 - c with
          | zero => simp [encL]
          | succ f => rw [encL, if_neg (by omega)]; simp
      · rw [if_neg h7] at h
        have hc8 := tk_more_le hc he (by omega)
        have hbd := tkVal_bd u c x hu0 hu1 hx.1
        obtain ⟨m, v, h1, h2, h3, h4, h5, h6, h8, h10⟩ := dec_ok r (c + 1) (tkVal u c x) w n (by omega) hbd.1 hbd.2 (fun z hz' => hz z (by simp [hz'])) h
        have hv := h10 (by omega)
        obtain ⟨f, hf⟩ : ∃ f, 9 - c = f + 1 := ⟨9 - c - 1, by omega⟩
        have hf2 : 9 - (c + 1) = f := by omega
        rw [hf2] at h5 h8
        have e3 : (128 : Int) ^ (f + 1) = 128 ^ f * 128 := Int.pow_succ _ _
        have hpf := pow128_pos f
        have d1 : (x % 128 + v * 128) / 128 = v := by omega
        have d2 : (x % 128 + v * 128) % 128 + 128 = x := by omega
        refine ⟨m + 1, x % 128 + v * 128, by omega, by simp; omega, by omega, by omega, by rw [hf, e3]; omega, ?_, ?_, fun _ => by omega⟩
        · rw [h6]
          unfold tkVal
          rw [Int.add_mul, Int.pow_succ, Int.add_assoc, Int.mul_assoc, Int.mul_comm 128]
        · rw [hf, encL, if_pos (by omega), d1, d2, List.take_succ_cons, h8]
    · rw [if_pos (by simp [he])] at h
      simp at h
      exact absurd h.2.2 he

theorem decI_ok (zs : List Int) (w n : Int) (hz : ∀ z ∈ zs, 0 ≤ z ∧ z ≤ 255) (h : decL 0 0 zs = (w, n, 0)) : ∃ m : Nat, 1 ≤ m ∧ m ≤ zs.length ∧ n = (m : Int) ∧ 0 ≤ w ∧ w ≤ 18446744073709551615 ∧ zs.take m = encI w := by
  obtain ⟨m, v, h1, h2, h3, h4, h5, h6, h7, _⟩ := dec_ok zs 0 0 w n (by omega) (by omega) (by decide) hz h
  have := pow9
  simp only [Nat.sub_zero, Int.pow_zero, Int.mul_one, Int.zero_add] at h5 h6 h7
  subst h6
  exact ⟨m, h1, h2, by omega, h4, by omega, h7⟩

theorem dec_bad : ∀ (zs : List Int) (c : Nat) (u : Int), (decL u c zs).2.2 ≠ 0 → (decL u c zs).1 = 0 ∧ (decL u c zs).2.1 = 0
  | [], c, u, h => by simp [decL]
  | x :: r, c, u, h => by
    rw [decL] at h ⊢
    by_cases he : tkErr c x = 0
    · rw [if_neg (by simp [he])] at h ⊢
      by_cases h7 : x < 128
      · rw [if_pos h7] at h; simp at h
      · rw [if_neg h7] at h ⊢; exact dec_bad r _ _ h
    · rw [if_pos (by simp [he])]; simp

end Go.Proofs.YtmjlpfmacblcpaaDoor

namespace Go.Proofs.YtmjlpfmacblcpaaDoor
open Go.RowKit Go.Shelf
set_option linter.unusedVariables false
set_option linter.unusedSimpArgs false
def rs24 (a : Option Addr) (c d : Nat) : Option Addr := if c = d then a else a.map fun x => x.add d
theorem seg_rs24 {V : World} {a : Option Addr} {L : List Int} {c d : Nat} (h : Seg V a L) (hd : d ≤ L.length) (hc : L.length ≤ c) : Seg V (rs24 a c d) (L.drop d) := by
  unfold rs24
  by_cases h0 : L.drop d = []
  · rw [h0]
    exact SegK.nil (by decide) _ _
  · have hl : d < L.length := by
      rcases Nat.lt_or_ge d L.length with x | x
      · exact x
      · exact absurd (List.drop_eq_nil_of_le x) h0
    rw [if_neg (by omega)]
    obtain ⟨b, off, rfl, _⟩ := h.at_ 0 (by omega)
    have hadd : (⟨b, off, none⟩ : Addr).add d = ⟨b, off + d, none⟩ := by simp [Addr.add]
    simp only [Option.map_some, hadd]
    exact h.drop d
theorem slice_none24 (W : World) : (Instr.slice 22 (.slice none 0 0) (some (.int .i64 0)) none none).run Tryd.prog W = .ok (.slice none 0 0) W := by kernel_rfl
theorem slice_lo24 (a : Option Addr) (n k m : Nat) (hnk : n ≤ k) (hm : m ≤ n) (hn : a = none → k = 0) (W : World) : (Instr.slice 22 (.slice a n k) (some (.int .i64 (m : Int))) none none).run Tryd.prog W = .ok (.slice (rs24 a k m) (n - m) (k - m)) W := by
  have h1 : (m : Int) ≤ (n : Int) := by omega
  have h2 : (n : Int) ≤ (k : Int) := by omega
  have h0 : (0 : Int) ≤ (m : Int) := by omega
  cases a with
  | none =>
    have := hn rfl
    subst this
    obtain rfl : n = 0 := by omega
    obtain rfl : m = 0 := by omega
    exact slice_none24 W
  | some x =>
    unfold rs24
    by_cases hkm : k = m
    · subst hkm
      obtain rfl : n = k := by omega
      go_simp
    · have hkm' : ¬ ((k : Int) = (m : Int)) := by omega
      go_simp
abbrev Rs24 := List Int × Bool
def tk24 (n : Nat) (r : Rs24) : Rs24 := if r.1.length < n then (r.1, true) else (r.1.drop n, r.2)
def tkv24 (n : Nat) (L : List Int) : List Int := if L.length < n then [] else L.take n
def nok24 (lo hi : Int) (L : List Int) : Bool := decide ((decL 0 0 L).2.2 = 0) && (decide (lo ≤ (decL 0 0 L).1) && decide ((decL 0 0 L).1 ≤ hi))
def nb24 (lo hi : Int) (r : Rs24) : Rs24 := if nok24 lo hi r.1 then (r.1.drop (decL 0 0 r.1).2.1.toNat, r.2) else (r.1, true)
def nbv24 (lo hi : Int) (L : List Int) : Int := if nok24 lo hi L then (decL 0 0 L).1 else lo
/-- The reader in memory: what is left lies in the bytes that came in, whose world is w. -/
structure Rm24 (w V : World) (p : Nat) (L : List Int) (x : Bool) : Prop where
  bl : Below w.heap.size w V
  ge : w.heap.size ≤ p
  blk : ∃ a n k, V.heap[p]? = some (.cells #[.slice a n k, .bool x] 85 (0, 0)) ∧ Seg w a L ∧ L.length = n ∧ n ≤ k ∧ (a = none → k = 0)
theorem Rm24.kp {w V W : World} {p : Nat} {L : List Int} {x : Bool} {S : Nat → Prop} (h : Rm24 w V p L x) (hk : Kp S V W) (hS : ∀ k, S k → w.heap.size ≤ k) (hp : ¬ S p) : Rm24 w W p L x := by
  obtain ⟨h1, h2, a, n, k, h3, h4⟩ := h
  exact ⟨h1.trans (hk.below hS h1.size), h2, a, n, k, hk.heap h3 hp, h4⟩
theorem Rm24.lt {w V : World} {p : Nat} {L : List Int} {x : Bool} (h : Rm24 w V p L x) : p < V.heap.size := by
  obtain ⟨h1, h2, a, n, k, h3, h4⟩ := h
  exact (Array.getElem?_eq_some_iff.1 h3).1
theorem Rm24.wrong {w V : World} {p : Nat} {L : List Int} {x : Bool} (h : Rm24 w V p L x) : Rm24 w (V.setCell ⟨p, 1, none⟩ (.bool true)) p L true ∧ Kp (fun k => k = p) V (V.setCell ⟨p, 1, none⟩ (.bool true)) := by
  obtain ⟨h1, h2, a, n, k, h3, h4⟩ := h
  have hk : Kp (fun k => k = p) V (V.setCell ⟨p, 1, none⟩ (.bool true)) := Kp.set (S := fun k => k = p) rfl _
  exact ⟨⟨h1.trans (hk.below (fun i e => by omega) h1.size), h2, a, n, k, two_set1 h3 _, h4⟩, hk⟩
section
variable {w V : World} {p : Nat} {L : List Int} {x : Bool}
theorem Rm24.rest (h : Rm24 w V p L x) (a : Option Addr) (n k : Nat) (hb : V.heap[p]? = some (.cells #[.slice a n k, .bool x] 85 (0, 0))) (hs : Seg w a L) (hl : L.length = n) (hn : n ≤ k) (hz : a = none → k = 0) (m : Nat) (hm : m ≤ n) : Rm24 w (V.setCell ⟨p, 0, none⟩ (.slice (rs24 a k m) (n - m) (k - m))) p (L.drop m) x ∧ Kp (fun k => k = p) V (V.setCell ⟨p, 0, none⟩ (.slice (rs24 a k m) (n - m) (k - m))) := by
  have hk : Kp (fun k => k = p) V (V.setCell ⟨p, 0, none⟩ (.slice (rs24 a k m) (n - m) (k - m))) := Kp.set (S := fun k => k = p) rfl _
  refine ⟨⟨h.bl.trans (hk.below (fun i e => by have := h.ge; omega) h.bl.size), h.ge, _, _, _, two_set0 hb _, seg_rs24 hs (by omega) (by omega), by simp; omega, by omega, fun e => ?_⟩, hk⟩
  have : a = none := by
    unfold rs24 at e
    split at e
    · exact e
    · cases a with
      | none => rfl
      | some y => cases e
  have := hz this
  omega
set_option maxRecDepth 100000 in
set_option maxHeartbeats 4000000 in
theorem ptake24 (h : Rm24 w V p L x) (m : Nat) (hm : m ≤ 4096) (hL : L.length ≤ 140737488355328) :
    Calls Tryd.prog 84 #[.pointer (some ⟨p, 0, none⟩), .int .i64 (m : Int)] V fun e V' => (∃ a k, e = .returned (.slice a (tkv24 m L).length k) ∧ Seg w a (tkv24 m L) ∧ (tkv24 m L).length ≤ k ∧ (a = none → k = 0)) ∧ Rm24 w V' p (tk24 m (L, x)).1 (tk24 m (L, x)).2 ∧ Kp (fun k => k = p) V V' := by
  have HR : Hid (Rm24 w V p L x) := h
  obtain ⟨h1, h2, a, n, k, h3, hs, hl, hn, hz⟩ := h
  have c0 := two_cell0 h3
  have c1 := two_cell1 h3
  have f0 := two_free h3
  have HB : Hid (V.heap[p]? = some (.cells #[.slice a n k, .bool x] 85 (0, 0))) := h3
  have HL : Hid (Seg w a L ∧ L.length = n ∧ n ≤ k ∧ (a = none → k = 0)) := ⟨hs, hl, hn, hz⟩
  by_cases hc : n < m
  · have hci : (n : Int) < (m : Int) := by omega
    have hT : tkv24 m L = [] := by unfold tkv24; rw [if_pos (by omega)]
    have hR : tk24 m (L, x) = (L, true) := by unfold tk24; rw [if_pos (by show L.length < m; omega)]
    rw [hT, hR]
    clear hT hR h3 hs hl hn hz h1 h2
    go_enter Tryd.func84, Tryd.ntmps84
    go_wp2_with fail
    go_ret
    exact ⟨⟨none, 0, rfl, SegK.nil (by decide) _ _, by simp, fun _ => rfl⟩, HR.out.wrong⟩
  · have hci : ¬ (n : Int) < (m : Int) := by omega
    have hT : tkv24 m L = L.take m := by unfold tkv24; rw [if_neg (by omega)]
    have hR : tk24 m (L, x) = (L.drop m, x) := by unfold tk24; rw [if_neg (by show ¬ L.length < m; omega)]
    have hTl : (L.take m).length = m := by simp; omega
    rw [hT, hR, hTl]
    have X1 := slice_hi22 a n k m hn (by omega) hz
    have X2 := slice_lo24 a n k m hn (by omega) hz
    have HX : Hid (m ≤ n ∧ (L.take m).length = m) := ⟨by omega, hTl⟩
    clear hT hR h3 hs hl hn hz h1 h2 hc hTl
    go_enter Tryd.func84, Tryd.ntmps84
    go_wp2_with fail
    go_ret
    obtain ⟨hs, hl, hn, hz⟩ := HL.out
    have := HX.out.1
    exact ⟨⟨a, k, rfl, hs.take m, by omega, hz⟩, HR.out.rest a n k HB.out hs hl hn hz m HX.out.1⟩
set_option maxRecDepth 100000 in
set_option maxHeartbeats 4000000 in
theorem pnumber24 (h : Rm24 w V p L x) (lo hi : Nat) (hlo : lo ≤ 4096) (hhi : hi ≤ 1099511627776) (hL : L.length ≤ 140737488351232) :
    Calls Tryd.prog 85 #[.pointer (some ⟨p, 0, none⟩), .int .i64 (lo : Int), .int .i64 (hi : Int)] V fun e V' => e = .returned (.int .i64 (nbv24 lo hi L)) ∧ Rm24 w V' p (nb24 lo hi (L, x)).1 (nb24 lo hi (L, x)).2 ∧ Kp (fun k => k = p) V V' := by
  have HR : Hid (Rm24 w V p L x) := h
  have hplt := h.lt
  obtain ⟨h1, h2, a, n, k, h3, hs, hl, hn, hz⟩ := h
  have hby := hs.mem
  obtain ⟨dv, dn, de, hd⟩ : ∃ dv dn de, decL 0 0 L = (dv, dn, de) := ⟨_, _, _, rfl⟩
  have HD := decode_any a L k V (hs.old h1) (by omega)
  rw [hl, hd] at HD
  have hfact : de = 0 → ∃ m : Nat, 1 ≤ m ∧ m ≤ n ∧ dn = (m : Int) ∧ 0 ≤ dv ∧ dv ≤ 18446744073709551615 := by
    intro he
    rw [he] at hd
    obtain ⟨m, g1, g2, g3, g4, g5, _⟩ := decI_ok L dv dn hby hd
    exact ⟨m, g1, by omega, g3, g4, g5⟩
  have hNok : nok24 lo hi L = (decide (de = 0) && (decide ((lo : Int) ≤ dv) && decide (dv ≤ (hi : Int)))) := by unfold nok24; rw [hd]
  have hNv : nbv24 lo hi L = if (decide (de = 0) && (decide ((lo : Int) ≤ dv) && decide (dv ≤ (hi : Int)))) then dv else (lo : Int) := by unfold nbv24; rw [hNok, hd]
  have hNb : nb24 lo hi (L, x) = if (decide (de = 0) && (decide ((lo : Int) ≤ dv) && decide (dv ≤ (hi : Int)))) then (L.drop dn.toNat, x) else (L, true) := by unfold nb24; simp only; rw [hNok, hd]
  have c0 := two_cell0 h3
  have HBK : Hid (∀ V', Below V.heap.size V V' → Rm24 w V' p L x ∧ V'.heap[p]? = some (.cells #[.slice a n k, .bool x] 85 (0, 0)) ∧ Kp (fun k => k = p) V V') := fun V' hV' => by
    have hk : Kp (fun k => k = p) V V' := Kp.of_below hV'
    have hb := (hV'.block p hplt).trans h3
    exact ⟨⟨h1.trans (hV'.mono h1.size), h2, a, n, k, hb, hs, hl, hn, hz⟩, hb, hk⟩
  have HL : Hid (Seg w a L ∧ L.length = n ∧ n ≤ k ∧ (a = none → k = 0)) := ⟨hs, hl, hn, hz⟩
  have u1 : IntKind.u64.wrap (lo : Int) = (lo : Int) := IntWalk.u64_in _ (by omega)
  have u2 : IntKind.u64.wrap (hi : Int) = (hi : Int) := IntWalk.u64_in _ (by omega)
  have HNB : Hid (nbv24 lo hi L = (if (decide (de = 0) && (decide ((lo : Int) ≤ dv) && decide (dv ≤ (hi : Int)))) then dv else (lo : Int)) ∧ nb24 lo hi (L, x) = if (decide (de = 0) && (decide ((lo : Int) ≤ dv) && decide (dv ≤ (hi : Int)))) then (L.drop dn.toNat, x) else (L, true)) := ⟨hNv, hNb⟩
  clear hs hl hn hz h1 h2 h3 hd hby hNok hNv hNb
  by_cases he : de = 0
  · subst he
    obtain ⟨m, g1, g2, rfl, g4, g5⟩ := hfact rfl
    have HG : Hid (m ≤ n) := g2
    clear hfact
    by_cases hlv : dv < (lo : Int)
    · have HE : Hid (nbv24 lo hi L = (lo : Int) ∧ nb24 lo hi (L, x) = (L, true)) := by
        have e1 : (decide ((0 : Int) = 0) && (decide ((lo : Int) ≤ dv) && decide (dv ≤ (hi : Int)))) = false := by simp; omega
        have := HNB.out
        rw [e1] at this
        exact this
      clear HNB
      go_enter Tryd.func85, Tryd.ntmps85
      go_wp2_with fail
      refine HD.mono ?_
      rintro e V1 ⟨rfl, b1⟩
      obtain ⟨r1, r2, r3⟩ := HBK.out V1 b1
      have d0 := two_cell0 r2
      have d1 := two_cell1 r2
      have f0 := two_free r2
      have HR1 : Hid (Rm24 w V1 p L x ∧ Kp (fun k => k = p) V V1) := ⟨r1, r3⟩
      clear r1 r2 r3 HBK HD
      go_wp2_with fail
      go_ret
      rw [HE.out.1, HE.out.2]
      exact ⟨rfl, HR1.out.1.wrong.1, HR1.out.2.trans HR1.out.1.wrong.2 (fun i _ h => h)⟩
    · by_cases hhv : (hi : Int) < dv
      · have HE : Hid (nbv24 lo hi L = (lo : Int) ∧ nb24 lo hi (L, x) = (L, true)) := by
          have e1 : (decide ((0 : Int) = 0) && (decide ((lo : Int) ≤ dv) && decide (dv ≤ (hi : Int)))) = false := by simp; omega
          have := HNB.out
          rw [e1] at this
          exact this
        clear HNB
        go_enter Tryd.func85, Tryd.ntmps85
        go_wp2_with fail
        refine HD.mono ?_
        rintro e V1 ⟨rfl, b1⟩
        obtain ⟨r1, r2, r3⟩ := HBK.out V1 b1
        have d0 := two_cell0 r2
        have d1 := two_cell1 r2
        have f0 := two_free r2
        have HR1 : Hid (Rm24 w V1 p L x ∧ Kp (fun k => k = p) V V1) := ⟨r1, r3⟩
        clear r1 r2 r3 HBK HD
        go_wp2_with fail
        go_ret
        rw [HE.out.1, HE.out.2]
        exact ⟨rfl, HR1.out.1.wrong.1, HR1.out.2.trans HR1.out.1.wrong.2 (fun i _ h => h)⟩
      · have HE : Hid (nbv24 lo hi L = dv ∧ nb24 lo hi (L, x) = (L.drop m, x)) := by
          have e1 : (decide ((0 : Int) = 0) && (decide ((lo : Int) ≤ dv) && decide (dv ≤ (hi : Int)))) = true := by simp; omega
          have := HNB.out
          rw [e1] at this
          exact this
        have v1 : IntKind.i64.wrap dv = dv := IntWalk.i64_in _ (by omega)
        clear HNB
        have X2 := slice_lo24 a n k m HL.out.2.2.1 HG.out HL.out.2.2.2
        go_enter Tryd.func85, Tryd.ntmps85
        go_wp2_with fail
        refine HD.mono ?_
        rintro e V1 ⟨rfl, b1⟩
        obtain ⟨r1, r2, r3⟩ := HBK.out V1 b1
        have d0 := two_cell0 r2
        have d1 := two_cell1 r2
        have f0 := two_free r2
        have HR1 : Hid (Rm24 w V1 p L x ∧ Kp (fun k => k = p) V V1 ∧ V1.heap[p]? = some (.cells #[.slice a n k, .bool x] 85 (0, 0))) := ⟨r1, r3, r2⟩
        clear r1 r2 r3 HBK HD
        go_wp2_with fail
        go_ret
        rw [HE.out.1, HE.out.2]
        obtain ⟨hs, hl, hn, hz⟩ := HL.out
        obtain ⟨q1, q2⟩ := HR1.out.1.rest a n k HR1.out.2.2 hs hl hn hz m HG.out
        exact ⟨rfl, q1, HR1.out.2.1.trans q2 (fun i _ h => h)⟩
  · have HE : Hid (nbv24 lo hi L = (lo : Int) ∧ nb24 lo hi (L, x) = (L, true)) := by
      have e1 : (decide (de = 0) && (decide ((lo : Int) ≤ dv) && decide (dv ≤ (hi : Int)))) = false := by simp; omega
      have := HNB.out
      rw [e1] at this
      exact this
    clear HNB hfact
    go_enter Tryd.func85, Tryd.ntmps85
    go_wp2_with fail
    refine HD.mono ?_
    rintro e V1 ⟨rfl, b1⟩
    obtain ⟨r1, r2, r3⟩ := HBK.out V1 b1
    have d0 := two_cell0 r2
    have d1 := two_cell1 r2
    have f0 := two_free r2
    have HR1 : Hid (Rm24 w V1 p L x ∧ Kp (fun k => k = p) V V1) := ⟨r1, r3⟩
    clear r1 r2 r3 HBK HD
    go_wp2_with fail
    go_ret
    rw [HE.out.1, HE.out.2]
    exact ⟨rfl, HR1.out.1.wrong.1, HR1.out.2.trans HR1.out.1.wrong.2 (fun i _ h => h)⟩
end
end Go.Proofs.YtmjlpfmacblcpaaDoor

namespace Go.Proofs.YtmjlpfmacblcpaaDoor
open Go.RowKit Go.Shelf
set_option linter.unusedVariables false
set_option linter.unusedSimpArgs false
theorem tk24_len (n : Nat) (r : Rs24) : (tk24 n r).1.length ≤ r.1.length := by
  unfold tk24; split
  · exact Nat.le_refl _
  · simp
theorem nb24_len (lo hi : Int) (r : Rs24) : (nb24 lo hi r).1.length ≤ r.1.length := by
  unfold nb24; split
  · simp
  · exact Nat.le_refl _
def sw24 (r : Rs24) : Rs24 := nb24 0 1099511627776 r
def se24 (r : Rs24) : Rs24 := nb24 0 1 (sw24 r)
def er24 (r : Rs24) : Bool := nbv24 0 1 (sw24 r).1 == 1
def st24 (pg : Nat) (r : Rs24) : Rs24 := if er24 r then se24 r else tk24 pg (se24 r)
def stb24 (pg : Nat) (r : Rs24) : List Int := if er24 r then [] else tkv24 pg (se24 r).1
def stv24 (pg : Nat) (r : Rs24) : Sh21 := ⟨stb24 pg r, er24 r, nbv24 0 1099511627776 r.1⟩
theorem se24_len (r : Rs24) : (se24 r).1.length ≤ r.1.length := Nat.le_trans (nb24_len _ _ _) (nb24_len _ _ _)
theorem st24_len (pg : Nat) (r : Rs24) : (st24 pg r).1.length ≤ r.1.length := by
  unfold st24; split
  · exact se24_len r
  · exact Nat.le_trans (tk24_len _ _) (se24_len r)
section
variable {w V : World} {p : Nat} {L : List Int} {x : Bool}
theorem pnumw24 (h : Rm24 w V p L x) (hL : L.length ≤ 140737488351232) :
    Calls Tryd.prog 85 #[.pointer (some ⟨p, 0, none⟩), .int .i64 0, .int .i64 1099511627776] V fun e V' => e = .returned (.int .i64 (nbv24 0 1099511627776 L)) ∧ Rm24 w V' p (nb24 0 1099511627776 (L, x)).1 (nb24 0 1099511627776 (L, x)).2 ∧ Kp (fun k => k = p) V V' :=
  pnumber24 h 0 1099511627776 (by decide) (by decide) hL
theorem pnumb24 (h : Rm24 w V p L x) (hL : L.length ≤ 140737488351232) :
    Calls Tryd.prog 85 #[.pointer (some ⟨p, 0, none⟩), .int .i64 0, .int .i64 1] V fun e V' => e = .returned (.int .i64 (nbv24 0 1 L)) ∧ Rm24 w V' p (nb24 0 1 (L, x)).1 (nb24 0 1 (L, x)).2 ∧ Kp (fun k => k = p) V V' :=
  pnumber24 h 0 1 (by decide) (by decide) hL
set_option maxRecDepth 100000 in
set_option maxHeartbeats 8000000 in
theorem psheet24 (h : Rm24 w V p L x) (pg : Nat) (hpg : pg ≤ 4096) (hL : L.length ≤ 140737488351232) :
    Calls Tryd.prog 41 #[.pointer (some ⟨p, 0, none⟩), .int .i64 (pg : Int)] V fun e V' => (∃ a c, e = .returned (.agg #[.slice a (stv24 pg (L, x)).b.length c, .bool (stv24 pg (L, x)).er, .int .i64 (stv24 pg (L, x)).wr]) ∧ Cl21 V' a (stv24 pg (L, x)).b c V.heap.size) ∧ Rm24 w V' p (st24 pg (L, x)).1 (st24 pg (L, x)).2 ∧ Kp (fun k => k = p) V V' := by
  have hplt := h.lt
  obtain ⟨g, hg⟩ : ∃ g, g = V.heap.size := ⟨_, rfl⟩
  obtain ⟨V0, hV0⟩ : ∃ V0, V0 = V.alloc (.cells #[.slice none 0 0, .bool false, .int .i64 0] 89) := ⟨_, rfl⟩
  have HV0 : Hid (V.alloc (.cells #[.slice none 0 0, .bool false, .int .i64 0] 89) = V0 ∧ V.heap.size = g) := ⟨hV0.symm, hg.symm⟩
  have k0 : Kp (fun _ => False) V V0 := by rw [hV0]; exact Kp.alloc _ _
  have r0 : Rm24 w V0 p L x := h.kp k0 (fun _ e => e.elim) (fun e => e)
  have q0 : V0.heap[g]? = some (.cells #[.slice none 0 0, .bool false, .int .i64 0] 89 (0, 0)) := by rw [hV0, hg]; exact heap_alloc_new V _
  have HN := pnumw24 r0 hL
  have HR : Hid (Kp (fun _ => False) V V0 ∧ p < g ∧ V0.heap[g]? = some (.cells #[.slice none 0 0, .bool false, .int .i64 0] 89 (0, 0))) := ⟨k0, by omega, q0⟩
  obtain ⟨W, hW⟩ : ∃ W, W = nbv24 0 1099511627776 L := ⟨_, rfl⟩
  rw [← hW] at HN
  obtain ⟨N, hN⟩ : ∃ N, N = nbv24 0 1 (sw24 (L, x)).1 := ⟨_, rfl⟩
  have HWN : Hid (W = nbv24 0 1099511627776 L ∧ N = nbv24 0 1 (sw24 (L, x)).1) := ⟨hW, hN⟩
  have HL1 : Hid ((sw24 (L, x)).1.length ≤ 140737488351232 ∧ (se24 (L, x)).1.length ≤ 140737488351232) := ⟨Nat.le_trans (nb24_len _ _ _) hL, Nat.le_trans (se24_len _) hL⟩
  have HPG : Hid (pg ≤ 4096) := hpg
  clear hV0 hg hW hN k0 r0 q0 h
  cases hE : (N == 1)
  · go_enter Tryd.func41, Tryd.ntmps41
    go_wp2_with fail
    rw [HV0.out.1, HV0.out.2]
    refine HN.mono ?_
    rintro e V1 ⟨rfl, r1, k1⟩
    obtain ⟨h, hh⟩ : ∃ h, h = V1.heap.size := ⟨_, rfl⟩
    obtain ⟨V3, hV3⟩ : ∃ V3, V3 = V1.alloc (.cells #[.slice none 0 0, .bool false, .int .i64 W] 89) := ⟨_, rfl⟩
    have HV3 : Hid (V1.alloc (.cells #[.slice none 0 0, .bool false, .int .i64 W] 89) = V3 ∧ V1.heap.size = h) := ⟨hV3.symm, hh.symm⟩
    obtain ⟨K0, hpg', Q0⟩ := HR.out
    have hgV0 : g < V0.heap.size := (Array.getElem?_eq_some_iff.1 Q0).1
    have q1 := k1.heap Q0 (by show ¬ g = p; omega)
    have hgh : g < h := by rw [hh]; have := k1.size; omega
    have K1 : Kp (fun k => k = p) V V1 := (K0.mono (S' := fun k => k = p) (fun _ _ e => e.elim)).trans k1 (fun _ _ e => e)
    have q3 : V3.heap[h]? = some (.cells #[.slice none 0 0, .bool false, .int .i64 W] 89 (0, 0)) := by rw [hV3, hh]; exact heap_alloc_new V1 _
    have k3 : Kp (fun k => k = h) V1 V3 := by
      rw [hV3, hh]
      exact Kp.alloc (S := fun k => k = V1.heap.size) V1 _
    have hVg := HV0.out.2
    have hwV : w.heap.size ≤ h := by have := r1.bl.size; omega
    have r3 := r1.kp k3 (fun k e => by show w.heap.size ≤ k; omega) (by show ¬ p = h; omega)
    have q31 : V3.heap[g]? = some (.cells #[.slice none 0 0, .bool false, .int .i64 0] 89 (0, 0)) := k3.heap q1 (by show ¬ g = h; omega)
    have K3 : Kp (fun k => k = p) V V3 := K1.trans k3 (fun i hi e => by have : i = h := e; omega)
    have HN2 := pnumb24 r3 HL1.out.1
    rw [show nbv24 0 1 (nb24 0 1099511627776 (L, x)).1 = N from HWN.out.2.symm] at HN2
    have HK : Hid (Kp (fun k => k = p) V V3 ∧ p < g ∧ g < h ∧ h < V3.heap.size ∧ V3.heap[h]? = some (.cells #[.slice none 0 0, .bool false, .int .i64 W] 89 (0, 0)) ∧ V3.heap[g]? = some (.cells #[.slice none 0 0, .bool false, .int .i64 0] 89 (0, 0)) ∧ w.heap.size ≤ V.heap.size ∧ V.heap.size = g) := ⟨K3, by omega, hgh, (Array.getElem?_eq_some_iff.1 q3).1, q3, q31, by have := r1.bl.size; have := r1.ge; omega, hVg⟩
    clear hV3 hh K0 hpg' Q0 hgV0 q1 hgh K1 q3 k3 hVg hwV r3 q31 K3 r1 k1 HN HR
    go_wp2_with fail
    rw [HV3.out.1, HV3.out.2]
    refine HN2.mono ?_
    rintro e V4 ⟨rfl, r4, k4⟩
    obtain ⟨x1, x2, x3, x4, x5, x6, x7, x8⟩ := HK.out
    have q4 := k4.heap x5 (by show ¬ h = p; omega)
    have q41 := k4.heap x6 (by show ¬ g = p; omega)
    have d40 := three_cell0 q4
    have d41 := three_cell1 q4
    have d42 := three_cell2 q4
    have f40 := three_free q4 0
    have f41 := three_free q4 1
    have f42 := three_free q4 2
    obtain ⟨V5, hV5⟩ : ∃ V5, V5 = V4.setCell ⟨h, 1, none⟩ (.bool false) := ⟨_, rfl⟩
    have HV5 : Hid (V4.setCell ⟨h, 1, none⟩ (.bool false) = V5) := hV5.symm
    have k5 : Kp (fun k => k = h) V4 V5 := by rw [hV5]; exact Kp.set (S := fun k => k = h) rfl _
    have q5 : V5.heap[h]? = some (.cells #[.slice none 0 0, .bool false, .int .i64 W] 89 (0, 0)) := by rw [hV5]; exact three_set1 q4 _
    have q51 : V5.heap[g]? = some (.cells #[.slice none 0 0, .bool false, .int .i64 0] 89 (0, 0)) := k5.heap q41 (by show ¬ g = h; omega)
    have r5 := r4.kp k5 (fun k e => by show w.heap.size ≤ k; have : k = h := e; omega) (by show ¬ p = h; omega)
    have K5 : Kp (fun k => k = p) V V5 := (x1.trans k4 (fun _ _ e => e)).trans k5 (fun i hi e => by have : i = h := e; omega)
    have c50 := three_cell0 q5
    have c51 := three_cell1 q5
    have c52 := three_cell2 q5
    have f50 := three_free q5 0
    have f51 := three_free q5 1
    have f52 := three_free q5 2
    have HT := ptake24 r5 pg HPG.out (by have := HL1.out.2; show (se24 (L, x)).1.length ≤ _; omega)
    have hhV5 : h < V5.heap.size := (Array.getElem?_eq_some_iff.1 q5).1
    have hgV5 : g < V5.heap.size := by omega
    have HK5 : Hid (Kp (fun k => k = p) V V5 ∧ p < g ∧ g < h ∧ h < V5.heap.size ∧ V5.heap[h]? = some (.cells #[.slice none 0 0, .bool false, .int .i64 W] 89 (0, 0)) ∧ V5.heap[g]? = some (.cells #[.slice none 0 0, .bool false, .int .i64 0] 89 (0, 0)) ∧ w.heap.size ≤ V.heap.size ∧ V.heap.size = g) := ⟨K5, x2, x3, hhV5, q5, q51, x7, x8⟩
    clear x1 x2 x3 x4 x5 x6 x7 x8 q4 q41 hV5 k5 q5 q51 r5 K5 hhV5 hgV5 r4 k4 HK HN2
    go_wp2_with fail
    rw [HV5.out]
    go_wp2_with fail
    refine HT.mono ?_
    rintro e V6 ⟨⟨ta, tc, rfl, hts, htc, htz⟩, r6, k6⟩
    obtain ⟨tk, htk⟩ : ∃ tk, tk = tkv24 pg (nb24 0 1 ((nb24 0 1099511627776 (L, x)).1, (nb24 0 1099511627776 (L, x)).2)).1 := ⟨_, rfl⟩
    rw [← htk] at hts htc ⊢
    obtain ⟨tn, htn⟩ : ∃ tn, tk.length = tn := ⟨_, rfl⟩
    have htl : tn ≤ 140737488351232 := by
      rw [← htn, htk]
      have h1 := HL1.out.2
      have h2 : (tkv24 pg (se24 (L, x)).1).length ≤ (se24 (L, x)).1.length := by
        unfold tkv24
        split
        · exact Nat.zero_le _
        · rw [List.length_take]; exact Nat.min_le_right _ _
      exact Nat.le_trans h2 h1
    have HC := pcl21 ta tk tn tc V6 (hts.old r6.bl) htn htz (by omega)
    rw [htn]
    have HTK : Hid (tk = tkv24 pg (se24 (L, x)).1 ∧ tk.length = tn) := ⟨htk, htn⟩
    obtain ⟨y1, y2, y3, y4, y5, y6, y7, y8⟩ := HK5.out
    have q6 := k6.heap y5 (by show ¬ h = p; omega)
    have q61 := k6.heap y6 (by show ¬ g = p; omega)
    have K6 : Kp (fun k => k = p) V V6 := y1.trans k6 (fun _ _ e => e)
    have HK6 : Hid (Kp (fun k => k = p) V V6 ∧ p < g ∧ g < h ∧ h < V6.heap.size ∧ V6.heap[h]? = some (.cells #[.slice none 0 0, .bool false, .int .i64 W] 89 (0, 0)) ∧ V6.heap[g]? = some (.cells #[.slice none 0 0, .bool false, .int .i64 0] 89 (0, 0)) ∧ w.heap.size ≤ V.heap.size ∧ V.heap.size = g ∧ Rm24 w V6 p (st24 pg (L, x)).1 (st24 pg (L, x)).2) := ⟨K6, y2, y3, (Array.getElem?_eq_some_iff.1 q6).1, q6, q61, y7, y8, by
      have hE' : er24 (L, x) = false := by unfold er24; rw [← HWN.out.2]; exact hE
      unfold st24; rw [hE']; exact r6⟩
    clear y1 y2 y3 y4 y5 y6 y7 y8 q6 q61 K6 htk htn hts htc htz r6 k6 HT HK5
    go_wp2_with fail
    refine HC.mono ?_
    rintro e V7 ⟨⟨ra, rc, rfl, hcl⟩, b7⟩
    obtain ⟨y1, y2, y3, y4, y5, y6, y7, y8, y9⟩ := HK6.out
    have q7 : V7.heap[h]? = _ := (b7.block h y4).trans y5
    have q71 : V7.heap[g]? = _ := (b7.block g (by omega)).trans y6
    have d70 := three_cell0 q7
    have f70 := three_free q7 0
    obtain ⟨V8, hV8⟩ : ∃ V8, V8 = V7.setCell ⟨h, 0, none⟩ (.slice ra tn rc) := ⟨_, rfl⟩
    have HV8 : Hid (V7.setCell ⟨h, 0, none⟩ (.slice ra tn rc) = V8) := hV8.symm
    have k8 : Kp (fun k => k = h) V7 V8 := by rw [hV8]; exact Kp.set (S := fun k => k = h) rfl _
    have q8 : V8.heap[h]? = some (.cells #[.slice ra tn rc, .bool false, .int .i64 W] 89 (0, 0)) := by rw [hV8]; exact three_set0 q7 _
    have q81 : V8.heap[g]? = some (.cells #[.slice none 0 0, .bool false, .int .i64 0] 89 (0, 0)) := k8.heap q71 (by show ¬ g = h; omega)
    have d71 := three_cell1 q7
    have d72 := three_cell2 q7
    have f71 := three_free q7 1
    have f72 := three_free q7 2
    have e70 := three_cell0 q71
    have e71 := three_cell1 q71
    have e72 := three_cell2 q71
    have g70 := three_free q71 0
    have g71 := three_free q71 1
    have g72 := three_free q71 2
    have ngh : ¬ g = h := by omega
    have nhg : ¬ h = g := by omega
    have K8 : Kp (fun k => k = p) V V8 := (y1.trans (Kp.of_below (S := fun k => k = p) b7) (fun _ _ e => e)).trans k8 (fun i hi e => by have : i = h := e; omega)
    have HK8 : Hid (Kp (fun k => k = p) V V8 ∧ p < g ∧ g < h ∧ V8.heap[g]? = some (.cells #[.slice none 0 0, .bool false, .int .i64 0] 89 (0, 0)) ∧ w.heap.size ≤ V.heap.size ∧ V.heap.size = g ∧ Rm24 w V8 p (st24 pg (L, x)).1 (st24 pg (L, x)).2 ∧ Cl21 V7 ra tk rc V6.heap.size ∧ Kp (fun k => k = h) V7 V8 ∧ h < V6.heap.size) := ⟨K8, y2, y3, q81, y7, y8, (y9.kp (Kp.of_below (S := fun _ => False) b7) (fun _ e => e.elim) (fun e => e)).kp k8 (fun k e => by show w.heap.size ≤ k; have : k = h := e; omega) (by show ¬ p = h; omega), hcl, k8, y4⟩
    clear y1 y2 y3 y4 y5 y6 y7 y8 y9 q7 q71 hV8 k8 q8 q81 K8 hcl b7 HC HK6
    go_wp2_with fail
    rw [HV8.out]
    obtain ⟨y1, y2, y3, y4, y5, y6, y7, y8, y9, y10⟩ := HK8.out
    have hq := three_set2 (three_set1 (three_set0 y4 (.slice ra tn rc)) (.bool false)) (.int .i64 W)
    refine bodyPost_ret (v := .agg #[.slice ra tn rc, .bool false, .int .i64 W]) (results_cell_row (fn := Tryd.f41) (p := 4) (ty := 89) rfl _ _ g _ _ _ _ rfl hq Tryd.underlying89 rfl (by kernel_rfl)) rfl ?_
    have hE' : er24 (L, x) = false := by unfold er24; rw [← HWN.out.2]; exact hE
    have hst : stv24 pg (L, x) = ⟨tk, false, W⟩ := by unfold stv24 stb24; rw [hE', HTK.out.1, HWN.out.1]; rfl
    rw [hst]
    have kg := kp_set3_21 V8 g (.slice ra tn rc) (.bool false) (.int .i64 W)
    refine ⟨⟨ra, rc, by rw [← HTK.out.2], ?_⟩, y7.kp kg (fun k e => by show w.heap.size ≤ k; have : k = g := e; omega) (by show ¬ p = g; omega), y1.trans kg (fun i hi e => by have : i = g := e; omega)⟩
    obtain ⟨c1, c2, c3, c4⟩ := y8
    refine ⟨?_, ?_, c3, c4⟩
    · refine c1.of_cells fun g' off i v hi ha hc => ?_
      rcases c2 with c2 | ⟨k, c2, c5, c6⟩
      · rw [c2] at ha; cases ha
      · rw [c2] at ha; cases ha
        rw [World.cell?_of_block (a := ⟨g', 0 + i, none⟩) ((kg.block g' (by have := y9.size; omega) (by show ¬ g' = g; omega)).trans (y9.block g' c6 (by show ¬ g' = h; omega)))]
        exact hc
    · rcases c2 with c2 | ⟨k, c2, c5, c6⟩
      · exact .inl c2
      · exact .inr ⟨k, c2, by omega, by have := y9.size; have := kg.size; omega⟩
  · go_enter Tryd.func41, Tryd.ntmps41
    go_wp2_with fail
    rw [HV0.out.1, HV0.out.2]
    refine HN.mono ?_
    rintro e V1 ⟨rfl, r1, k1⟩
    obtain ⟨h, hh⟩ : ∃ h, h = V1.heap.size := ⟨_, rfl⟩
    obtain ⟨V3, hV3⟩ : ∃ V3, V3 = V1.alloc (.cells #[.slice none 0 0, .bool false, .int .i64 W] 89) := ⟨_, rfl⟩
    have HV3 : Hid (V1.alloc (.cells #[.slice none 0 0, .bool false, .int .i64 W] 89) = V3 ∧ V1.heap.size = h) := ⟨hV3.symm, hh.symm⟩
    obtain ⟨K0, hpg', Q0⟩ := HR.out
    have hgV0 : g < V0.heap.size := (Array.getElem?_eq_some_iff.1 Q0).1
    have q1 := k1.heap Q0 (by show ¬ g = p; omega)
    have hgh : g < h := by rw [hh]; have := k1.size; omega
    have K1 : Kp (fun k => k = p) V V1 := (K0.mono (S' := fun k => k = p) (fun _ _ e => e.elim)).trans k1 (fun _ _ e => e)
    have q3 : V3.heap[h]? = some (.cells #[.slice none 0 0, .bool false, .int .i64 W] 89 (0, 0)) := by rw [hV3, hh]; exact heap_alloc_new V1 _
    have k3 : Kp (fun k => k = h) V1 V3 := by
      rw [hV3, hh]
      exact Kp.alloc (S := fun k => k = V1.heap.size) V1 _
    have hVg := HV0.out.2
    have hwV : w.heap.size ≤ h := by have := r1.bl.size; omega
    have r3 := r1.kp k3 (fun k e => by show w.heap.size ≤ k; omega) (by show ¬ p = h; omega)
    have q31 : V3.heap[g]? = some (.cells #[.slice none 0 0, .bool false, .int .i64 0] 89 (0, 0)) := k3.heap q1 (by show ¬ g = h; omega)
    have K3 : Kp (fun k => k = p) V V3 := K1.trans k3 (fun i hi e => by have : i = h := e; omega)
    have HN2 := pnumb24 r3 HL1.out.1
    rw [show nbv24 0 1 (nb24 0 1099511627776 (L, x)).1 = N from HWN.out.2.symm] at HN2
    have HK : Hid (Kp (fun k => k = p) V V3 ∧ p < g ∧ g < h ∧ h < V3.heap.size ∧ V3.heap[h]? = some (.cells #[.slice none 0 0, .bool false, .int .i64 W] 89 (0, 0)) ∧ V3.heap[g]? = some (.cells #[.slice none 0 0, .bool false, .int .i64 0] 89 (0, 0)) ∧ w.heap.size ≤ V.heap.size ∧ V.heap.size = g) := ⟨K3, by omega, hgh, (Array.getElem?_eq_some_iff.1 q3).1, q3, q31, by have := r1.bl.size; have := r1.ge; omega, hVg⟩
    clear hV3 hh K0 hpg' Q0 hgV0 q1 hgh K1 q3 k3 hVg hwV r3 q31 K3 r1 k1 HN HR
    go_wp2_with fail
    rw [HV3.out.1, HV3.out.2]
    refine HN2.mono ?_
    rintro e V4 ⟨rfl, r4, k4⟩
    obtain ⟨x1, x2, x3, x4, x5, x6, x7, x8⟩ := HK.out
    have q4 := k4.heap x5 (by show ¬ h = p; omega)
    have q41 := k4.heap x6 (by show ¬ g = p; omega)
    have d40 := three_cell0 q4
    have d41 := three_cell1 q4
    have d42 := three_cell2 q4
    have f40 := three_free q4 0
    have f41 := three_free q4 1
    have f42 := three_free q4 2
    obtain ⟨V5, hV5⟩ : ∃ V5, V5 = V4.setCell ⟨h, 1, none⟩ (.bool true) := ⟨_, rfl⟩
    have HV5 : Hid (V4.setCell ⟨h, 1, none⟩ (.bool true) = V5) := hV5.symm
    have k5 : Kp (fun k => k = h) V4 V5 := by rw [hV5]; exact Kp.set (S := fun k => k = h) rfl _
    have q5 : V5.heap[h]? = some (.cells #[.slice none 0 0, .bool true, .int .i64 W] 89 (0, 0)) := by rw [hV5]; exact three_set1 q4 _
    have q51 : V5.heap[g]? = some (.cells #[.slice none 0 0, .bool false, .int .i64 0] 89 (0, 0)) := k5.heap q41 (by show ¬ g = h; omega)
    have r5 := r4.kp k5 (fun k e => by show w.heap.size ≤ k; have : k = h := e; omega) (by show ¬ p = h; omega)
    have K5 : Kp (fun k => k = p) V V5 := (x1.trans k4 (fun _ _ e => e)).trans k5 (fun i hi e => by have : i = h := e; omega)
    have c50 := three_cell0 q5
    have c51 := three_cell1 q5
    have c52 := three_cell2 q5
    have f50 := three_free q5 0
    have f51 := three_free q5 1
    have f52 := three_free q5 2
    have e40 := three_cell0 q41
    have e41 := three_cell1 q41
    have e42 := three_cell2 q41
    have g40 := three_free q41 0
    have g41 := three_free q41 1
    have g42 := three_free q41 2
    have ngh : ¬ g = h := by omega
    have nhg : ¬ h = g := by omega
    have HK5 : Hid (Kp (fun k => k = p) V V5 ∧ p < g ∧ V5.heap[g]? = some (.cells #[.slice none 0 0, .bool false, .int .i64 0] 89 (0, 0)) ∧ w.heap.size ≤ V.heap.size ∧ V.heap.size = g ∧ Rm24 w V5 p (st24 pg (L, x)).1 (st24 pg (L, x)).2) := ⟨K5, x2, q51, x7, x8, by
      have hE' : er24 (L, x) = true := by unfold er24; rw [← HWN.out.2]; exact hE
      unfold st24; rw [hE']; exact r5⟩
    clear x1 x2 x3 x4 x5 x6 x7 x8 q4 q41 hV5 k5 q5 q51 r5 K5 r4 k4 HK HN2
    clear c50 c51 c52 f50 f51 f52
    go_wp2_with fail
    rw [HV5.out]
    obtain ⟨y1, y2, y4, y5, y6, y7⟩ := HK5.out
    have hq := three_set2 (three_set1 (three_set0 y4 (.slice none 0 0)) (.bool true)) (.int .i64 W)
    refine bodyPost_ret (v := .agg #[.slice none 0 0, .bool true, .int .i64 W]) (results_cell_row (fn := Tryd.f41) (p := 4) (ty := 89) rfl _ _ g _ _ _ _ rfl hq Tryd.underlying89 rfl (by kernel_rfl)) rfl ?_
    have hE' : er24 (L, x) = true := by unfold er24; rw [← HWN.out.2]; exact hE
    have hst : stv24 pg (L, x) = ⟨[], true, W⟩ := by unfold stv24 stb24; rw [hE', HWN.out.1]; rfl
    rw [hst]
    have kg := kp_set3_21 V5 g (.slice none 0 0) (.bool true) (.int .i64 W)
    exact ⟨⟨none, 0, rfl, SegK.nil (by decide) _ _, .inl rfl, fun _ => rfl, by simp⟩, y7.kp kg (fun k e => by show w.heap.size ≤ k; have : k = g := e; omega) (by show ¬ p = g; omega), y1.trans kg (fun i hi e => by have : i = g := e; omega)⟩
end
end Go.Proofs.YtmjlpfmacblcpaaDoor
