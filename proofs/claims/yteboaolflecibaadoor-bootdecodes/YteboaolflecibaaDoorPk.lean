import Derived.Test.YteboaolflecibaaDoorPi
import Derived.Test.YteboaolflecibaaDoorPj
import Derived.Test.YteboaolflecibaaDoorPg
namespace Go.Proofs.YteboaolflecibaaDoor
open Go.RowKit Go.Shelf
set_option linter.unusedVariables false
set_option linter.unusedSimpArgs false
def fo25 (k : Nat) : Nat := ([4, 12, 13, 17, 21, 25, 26, 30, 34, 38, 39] : List Nat).getD k 0
def fk25 (k : Nat) : IntKind := if fu25 k then .u32 else .i64
def dv25 (zs : List Int) (k : Nat) : Int := (fk25 k).wrap (unfL ((zs.drop (fo25 k)).take (fz25 k).toNat))
def dr25 (zs : List Int) : Rc25 := ⟨dv25 zs 0, ⟨dv25 zs 1, dv25 zs 2, dv25 zs 3, dv25 zs 4⟩, ⟨dv25 zs 5, dv25 zs 6, dv25 zs 7, dv25 zs 8⟩, dv25 zs 9⟩
def rv25 (f : Nat → Value) : Nat → Array Value
  | 0 => #[.int .i64 0, .int .i64 0, .int .i64 0, .int .i64 0, .int .u32 0, .int .i64 0, .int .i64 0, .int .i64 0, .int .u32 0, .int .i64 0]
  | n + 1 => (rv25 f n).setIfInBounds n (f n)
theorem rv25_all (f : Nat → Value) : rv25 f 10 = #[f 0, f 1, f 2, f 3, f 4, f 5, f 6, f 7, f 8, f 9] := by kernel_rfl
theorem rv25_get (f : Nat → Value) (n : Nat) (h : n < 10) : (rv25 f n)[n]? = some (.int (fk25 n) 0) := by
  rcases (by omega : n = 0 ∨ n = 1 ∨ n = 2 ∨ n = 3 ∨ n = 4 ∨ n = 5 ∨ n = 6 ∨ n = 7 ∨ n = 8 ∨ n = 9) with rfl | rfl | rfl | rfl | rfl | rfl | rfl | rfl | rfl | rfl <;> kernel_rfl
def rs25 (zs : List Int) : Nat → Array Value := rv25 (fun k => .int (fk25 k) (dv25 zs k))
theorem rs25_all (zs : List Int) : rs25 zs 10 = (dr25 zs).cs := by
  unfold rs25 dr25 Rc25.cs
  rw [rv25_all]
  generalize dv25 zs = d
  rfl
theorem rs25_get (zs : List Int) (n : Nat) (h : n < 10) : (rs25 zs n)[n]? = some (.int (fk25 n) 0) := rv25_get _ n h
/-- What Decode takes. -/
def tk25 (zs : List Int) : Prop := 43 ≤ zs.length ∧ zs.take 4 = mg25 ∧ unfL ((zs.drop 39).take 4) = wI (sumW (zs.take 39))
instance (zs : List Int) : Decidable (tk25 zs) := by unfold tk25; infer_instance
/-- What Decode answers. -/
def de25 (zs : List Int) : Rc25 × Int := if tk25 zs then (cd25 (dr25 zs), ck25 (dr25 zs)) else (zr25, 250)
theorem fo25_next (k : Nat) (h : k < 10) : fo25 (k + 1) = fo25 k + (fz25 k).toNat ∧ fo25 k + (fz25 k).toNat ≤ 39 ∧ 1 ≤ (fz25 k).toNat ∧ (fz25 k).toNat ≤ 8 ∧ fz25 k = (((fz25 k).toNat : Nat) : Int) := by
  rcases (by omega : k = 0 ∨ k = 1 ∨ k = 2 ∨ k = 3 ∨ k = 4 ∨ k = 5 ∨ k = 6 ∨ k = 7 ∨ k = 8 ∨ k = 9) with rfl | rfl | rfl | rfl | rfl | rfl | rfl | rfl | rfl | rfl <;> decide
theorem slice_lo25 (x : Addr) (n k m : Nat) (hnk : n ≤ k) (hm : m ≤ n) (hmk : m < k) (W : World) : (Instr.slice 28 (.slice (some x) n k) (some (.int .i64 (m : Int))) none none).run Tryd.prog W = .ok (.slice (some (x.add m)) (n - m) (k - m)) W := by
  have h1 : (m : Int) ≤ (n : Int) := by omega
  have h2 : (n : Int) ≤ (k : Int) := by omega
  have h0 : (0 : Int) ≤ (m : Int) := by omega
  have h3 : (0 : Int) ≤ (n : Int) := by omega
  have h4 : (m : Int) ≤ (k : Int) := by omega
  have hkm' : ¬ ((k : Int) = (m : Int)) := by omega
  have hkm : ¬ (k = m) := by omega
  go_simp
theorem add25 (g o m : Nat) : (⟨g, o, none⟩ : Addr).add m = ⟨g, o + m, none⟩ := by unfold Addr.add; split <;> simp_all
set_option maxRecDepth 100000 in
set_option maxHeartbeats 4000000 in
theorem pdec125 {w : World} {ob g o cp d s : Nat} {zs : List Int} {v z : Int} (hs : Seg w (some ⟨g, o, none⟩) zs) (h43 : 43 ≤ zs.length) (hcp : zs.length ≤ cp) (hl : zs.length ≤ 140737488355328) (hq : w.heap[ob]? = some (.cells #[.slice (some ⟨g, o + d, none⟩) (39 - d) (cp - d)] 28 (0, 0))) (hz : z = (s : Int)) (h1 : 1 ≤ s) (h8 : s ≤ 8) (hd : d + s ≤ 39) :
    Calls Tryd.prog 51 #[.int .u64 v, .int .i64 z, .pointer (some ⟨ob, 0, none⟩)] w fun e w' => e = .returned (.int .u64 (unfL ((zs.drop d).take s))) ∧ w'.heap[ob]? = some (.cells #[.slice (some ⟨g, o + (d + s), none⟩) (39 - (d + s)) (cp - (d + s))] 28 (0, 0)) ∧ Kp (fun k => k = ob) w w' := by
  subst hz
  have c0 : w.cell? ⟨ob, 0, none⟩ = some (.slice (some ⟨g, o + d, none⟩) (39 - d) (cp - d)) := cell25 hq rfl
  have f0 : w.frozen? ⟨ob, 0, none⟩ = false := free_row25 hq 0
  have hL : ((zs.take 39).drop d).length = 39 - d := by rw [List.length_drop, List.length_take]; omega
  have UF := unfix_any (some ⟨g, o + d, none⟩) ((zs.take 39).drop d) (cp - d) (s : Int) w ((hs.take 39).drop d) (by omega) (by omega)
  have hE : unfE ((zs.take 39).drop d) (s : Int) = 0 := by unfold unfE; rw [if_pos (by omega), if_neg (by simp only [Int.toNat_natCast]; omega)]
  have hV : unfV ((zs.take 39).drop d) (s : Int) = unfL ((zs.drop d).take s) := by
    unfold unfV
    rw [if_pos hE, Int.toNat_natCast]
    congr 1
    rw [List.drop_take, List.take_take, Nat.min_eq_left (by omega)]
  rw [hE, hV, hL] at UF
  have SL := slice_lo25 ⟨g, o + d, none⟩ (39 - d) (cp - d) s (by omega) (by omega) (by omega)
  rw [add25, show 39 - d - s = 39 - (d + s) by omega, show cp - d - s = cp - (d + s) by omega, show o + d + s = o + (d + s) by omega] at SL
  generalize unfL ((zs.drop d).take s) = y at *
  generalize hn : 39 - d = n at *
  generalize hk : cp - d = k at *
  generalize 39 - (d + s) = n2 at *
  generalize cp - (d + s) = k2 at *
  generalize o + d = o1 at *
  generalize o + (d + s) = o2 at *
  have HQ : Hid (w.heap[ob]? = some (.cells #[.slice (some ⟨g, o1, none⟩) n k] 28 (0, 0))) := hq
  clear hs h43 hcp hl hq h1 h8 hd hL hE hV hn hk
  go_enter Tryd.func51, Tryd.ntmps51
  go_wp2_with fail
  refine UF.mono ?_
  rintro e1 w1 ⟨rfl, hw1⟩
  subst hw1
  clear UF
  go_wp2_with fail
  go_ret
  exact ⟨rfl, by rw [setCell_row25 HQ.out]; exact set_row25 HQ.out, Kp.set (S := fun k => k = ob) rfl _⟩
end Go.Proofs.YteboaolflecibaaDoor

namespace Go.Proofs.YteboaolflecibaaDoor
open Go.RowKit Go.Shelf
set_option linter.unusedVariables false
set_option linter.unusedSimpArgs false
theorem fix_unf25 : ∀ (l : List Int), (∀ z ∈ l, 0 ≤ z ∧ z ≤ 255) → fixL l.length (unfL l) = l
  | [], _ => rfl
  | x :: l, h => by
    have hx := h x (by simp)
    have ih := fix_unf25 l (fun z hz => h z (by simp [hz]))
    show fixL (l.length + 1) (unfL (x :: l)) = x :: l
    have e : unfL (x :: l) = x + 256 * unfL l := rfl
    rw [fixL, e]
    have e1 : (x + 256 * unfL l) % 256 = x := by omega
    have e2 : (x + 256 * unfL l) / 256 = unfL l := by omega
    rw [e1, e2, ih]
theorem seg_len25 (zs : List Int) (k : Nat) (hk : k < 10) (h : 43 ≤ zs.length) : ((zs.drop (fo25 k)).take (fz25 k).toNat).length = (fz25 k).toNat := by
  have := fo25_next k hk
  rw [List.length_take, List.length_drop]
  omega
/-- A number that was read, where the record may be, is what the bytes say. -/
theorem dv_unf25 {zs : List Int} (hb : ∀ z ∈ zs, 0 ≤ z ∧ z ≤ 255) (h : 43 ≤ zs.length) (hm : (dr25 zs).may) (k : Nat) (hk : k < 10) : vs25 (dr25 zs) k = unfL ((zs.drop (fo25 k)).take (fz25 k).toNat) := by
  have hv : vs25 (dr25 zs) k = dv25 zs k := by
    rcases (by omega : k = 0 ∨ k = 1 ∨ k = 2 ∨ k = 3 ∨ k = 4 ∨ k = 5 ∨ k = 6 ∨ k = 7 ∨ k = 8 ∨ k = 9) with rfl | rfl | rfl | rfl | rfl | rfl | rfl | rfl | rfl | rfl <;> rfl
  rw [hv]
  have hu := unfL_pos ((zs.drop (fo25 k)).take (fz25 k).toNat) (fun z hz => hb z (List.mem_of_mem_drop (List.mem_of_mem_take hz)))
  rw [seg_len25 zs k hk h] at hu
  have hq : (1 ≤ dv25 zs 0 ∧ dv25 zs 0 ≤ 1152921504606846976) := hm.1
  unfold dv25 at hq ⊢
  by_cases h0 : k = 0
  · subst h0
    have e : fk25 0 = .i64 := rfl
    have e8 : (fz25 0).toNat = 8 := rfl
    rw [e] at hq ⊢
    generalize unfL ((zs.drop (fo25 0)).take (fz25 0).toNat) = v at *
    rw [e8, show (256 : Int) ^ 8 = 18446744073709551616 from by decide] at hu
    have hu1 : v < 18446744073709551616 := hu.2
    by_cases hlt : v ≤ 9223372036854775807
    · exact IntWalk.i64_in _ (by omega)
    · exfalso
      have : IntKind.i64.wrap v = v - 18446744073709551616 := by rw [IntKind.wrap_i64]; omega
      omega
  · have hs : (fz25 k).toNat ≤ 4 := by
      rcases (by omega : k = 1 ∨ k = 2 ∨ k = 3 ∨ k = 4 ∨ k = 5 ∨ k = 6 ∨ k = 7 ∨ k = 8 ∨ k = 9) with rfl | rfl | rfl | rfl | rfl | rfl | rfl | rfl | rfl <;> decide
    have hp : (256 : Int) ^ (fz25 k).toNat ≤ 4294967296 := by
      rcases (by omega : (fz25 k).toNat = 0 ∨ (fz25 k).toNat = 1 ∨ (fz25 k).toNat = 2 ∨ (fz25 k).toNat = 3 ∨ (fz25 k).toNat = 4) with e | e | e | e | e <;> rw [e] <;> decide
    generalize unfL ((zs.drop (fo25 k)).take (fz25 k).toNat) = v at *
    unfold fk25
    cases fu25 k
    · exact IntWalk.i64_in _ (by omega)
    · exact IntWalk.u32_in _ (by omega)
theorem be_take25 {zs : List Int} (hb : ∀ z ∈ zs, 0 ≤ z ∧ z ≤ 255) (h : 43 ≤ zs.length) (hm : (dr25 zs).may) (hg : zs.take 4 = mg25) : ∀ k, k ≤ 10 → be25 (dr25 zs) k = zs.take (fo25 k)
  | 0, _ => hg.symm
  | k + 1, hk => by
    have ih := be_take25 hb h hm hg k (by omega)
    have nx := fo25_next k (by omega)
    rw [be25, ih, dv_unf25 hb h hm k (by omega)]
    have e := fix_unf25 ((zs.drop (fo25 k)).take (fz25 k).toNat) (fun z hz => hb z (List.mem_of_mem_drop (List.mem_of_mem_take hz)))
    rw [seg_len25 zs k (by omega) h] at e
    rw [e, nx.1, List.take_add]
/-- The document's way to say what Decode answers. -/
def dd25 (zs : List Int) : Rc25 × Int := if 43 ≤ zs.length ∧ zs.take 4 = mg25 ∧ zs.getD 11 0 ≤ 127 ∧ (dr25 zs).may ∧ en25 (dr25 zs) = zs.take 43 then (dr25 zs, 0) else (zr25, 250)
theorem de_dd25 {zs : List Int} (hb : ∀ z ∈ zs, 0 ≤ z ∧ z ≤ 255) : de25 zs = dd25 zs := by
  unfold de25
  by_cases hl : 43 ≤ zs.length
  rotate_left
  · rw [if_neg (fun x => hl x.1), show dd25 zs = (zr25, 250) from if_neg (fun x => hl x.1)]
  by_cases hg : zs.take 4 = mg25
  rotate_left
  · rw [if_neg (fun x => hg x.2.1), show dd25 zs = (zr25, 250) from if_neg (fun x => hg x.2.1)]
  by_cases hm : (dr25 zs).may
  rotate_left
  · rw [show dd25 zs = (zr25, 250) from if_neg (fun x => hm x.2.2.2.1)]
    have e1 : cd25 (dr25 zs) = zr25 := if_neg hm
    have e2 : ck25 (dr25 zs) = 250 := if_neg hm
    rw [e1, e2]
    split <;> rfl
  have hbe := be_take25 hb hl hm hg 10 (by omega)
  have hby : en25 (dr25 zs) = zs.take 39 ++ sm21 (zs.take 39) := by
    have : en25 (dr25 zs) = by25 (dr25 zs) := if_pos hm
    rw [this, by25, hbe]
    rfl
  have h43 : zs.take 43 = zs.take 39 ++ (zs.drop 39).take 4 := by rw [show 43 = 39 + 4 from rfl, List.take_add]
  have hs4 : ((zs.drop 39).take 4).length = 4 := by rw [List.length_take, List.length_drop]; omega
  have hsb : ∀ z ∈ (zs.drop 39).take 4, 0 ≤ z ∧ z ≤ 255 := fun z hz => hb z (List.mem_of_mem_drop (List.mem_of_mem_take hz))
  have hfu := fix_unf25 _ hsb
  rw [hs4] at hfu
  have b0 := wI_bd21 (sumW (zs.take 39))
  have huf := unf_fix 4 (wI (sumW (zs.take 39))) (by show wI (sumW (zs.take 39)) / 4294967296 = 0; omega)
  have hiff : en25 (dr25 zs) = zs.take 43 ↔ unfL ((zs.drop 39).take 4) = wI (sumW (zs.take 39)) := by
    rw [hby, h43]
    constructor
    · intro e
      have e2 := List.append_cancel_left e
      rw [← e2]
      exact huf
    · intro e
      congr 1
      rw [← hfu, e]
      rfl
  have h11 : zs.getD 11 0 ≤ 127 := by
    have hq : 1 ≤ vs25 (dr25 zs) 0 ∧ vs25 (dr25 zs) 0 ≤ 1152921504606846976 := hm.1
    rw [dv_unf25 hb hl hm 0 (by omega)] at hq
    have e : (zs.drop (fo25 0)).take (fz25 0).toNat = [zs.getD 4 0, zs.getD 5 0, zs.getD 6 0, zs.getD 7 0, zs.getD 8 0, zs.getD 9 0, zs.getD 10 0, zs.getD 11 0] := by
      apply List.ext_getElem?
      intro j
      rw [List.getElem?_take, List.getElem?_drop]
      show (if j < 8 then zs[4 + j]? else none) = _
      rcases (by omega : j = 0 ∨ j = 1 ∨ j = 2 ∨ j = 3 ∨ j = 4 ∨ j = 5 ∨ j = 6 ∨ j = 7 ∨ 8 ≤ j) with rfl | rfl | rfl | rfl | rfl | rfl | rfl | rfl | hj
      all_goals first | (simp [List.getD]; rw [List.getElem?_eq_getElem (by omega)]; simp) | simp [show ¬ j < 8 by omega, hj]
    rw [e] at hq
    simp only [unfL] at hq
    have hz : ∀ j, 0 ≤ zs.getD j 0 := fun j => by
      rw [List.getD]
      cases hx : zs[j]? with
      | none => simp
      | some v => simp; exact (hb v (List.mem_of_getElem? hx)).1
    have z4 := hz 4; have z5 := hz 5; have z6 := hz 6; have z7 := hz 7; have z8 := hz 8; have z9 := hz 9; have z10 := hz 10
    omega
  have e1 : cd25 (dr25 zs) = dr25 zs := if_pos hm
  have e2 : ck25 (dr25 zs) = 0 := if_pos hm
  rw [e1, e2]
  by_cases hx : unfL ((zs.drop 39).take 4) = wI (sumW (zs.take 39))
  · rw [if_pos ⟨hl, hg, hx⟩, show dd25 zs = (dr25 zs, 0) from if_pos ⟨hl, hg, h11, hm, hiff.2 hx⟩]
  · rw [if_neg (fun y => hx y.2.2), show dd25 zs = (zr25, 250) from if_neg (fun y => hx (hiff.1 y.2.2.2.2))]
end Go.Proofs.YteboaolflecibaaDoor
