import Derived.Test.YtmjlpfmacblcpaaDoorBoK
import Derived.Test.YtmjlpfmacblcpaaDoorFixN
namespace Go.Proofs.YtmjlpfmacblcpaaDoor
open Go.RowKit Go.Shelf
set_option linter.unusedVariables false
set_option linter.unusedSimpArgs false
def fo25 (k : Nat) : Nat := ([4, 12, 13, 17, 21, 25, 26, 30, 34, 38, 39] : List Nat).getD k 0
def fk25 (k : Nat) : IntKind := if fu25 k then .u32 else .i64
def dv25 (zs : List Int) (k : Nat) : Int := (fk25 k).wrap (unfL ((zs.drop (fo25 k)).take (fz25 k).toNat))
def dr25 (zs : List Int) : Rc25 := ⟨dv25 zs 0, ⟨dv25 zs 1, dv25 zs 2, dv25 zs 3, dv25 zs 4⟩, ⟨dv25 zs 5, dv25 zs 6, dv25 zs 7, dv25 zs 8⟩, dv25 zs 9⟩
def rv25 (f : Nat → Value) : Nat → Array Value
  | 0 => #[.int .i64 0, .int .i64 0, .int .i64 0, .int .i64 0, .int .u32 0, .int .i64 0, .int .i64 0, .int .i64 0, .int .u32 0, .int .i64 0]
  | n + 1 => (rv25 f n).setIfInBounds n (f n)
theorem rv25_all (f : Nat → Value) : rv25 f 10 = #[f 0, f 1, f 2, f 3, f 4, f 5, f 6, f 7, f 8, f 9] := by kernel_rfl
theorem rv25_get (f : Nat → Value) (n : Nat) (h : n < 10) : (rv25 f n)[n]? = some (.int (fk25 n) 0) := by
  rcases (by omega : n = 0 ∨ n = 1 ∨ n = 2 ∨ n = 3 ∨ n = 4 ∨ n = 5 ∨ n = 6 ∨ n = 7 ∨ n = 8 ∨ n = 9) with rfl | rfl | rfl | rfl | rfl | rfl | rfl | rfl | rfl | rfl <;> kernel_rfl
def rs25 (zs : List Int) : Nat → Array Value := rv25 (fun k => .int (fk25 k) (dv25 zs k))
theorem rs25_all (zs : List Int) : rs25 zs 10 = (dr25 zs).cs := by
  unfold rs25 dr25 Rc25.cs
  rw [rv25_all]
  generalize dv25 zs = d
  rfl
theorem rs25_get (zs : List Int) (n : Nat) (h : n < 10) : (rs25 zs n)[n]? = some (.int (fk25 n) 0) := rv25_get _ n h
/-- What Decode takes. -/
def tk25 (zs : List Int) : Prop := 43 ≤ zs.length ∧ zs.take 4 = mg25 ∧ unfL ((zs.drop 39).take 4) = wI (sumW (zs.take 39))
instance (zs : List Int) : Decidable (tk25 zs) := by unfold tk25; infer_instance
/-- What Decode answers. -/
def de25 (zs : List Int) : Rc25 × Int := if tk25 zs then (cd25 (dr25 zs), ck25 (dr25 zs)) else (zr25, 250)
theorem fo25_next (k : Nat) (h : k < 10) : fo25 (k + 1) = fo25 k + (fz25 k).toNat ∧ fo25 k + (fz25 k).toNat ≤ 39 ∧ 1 ≤ (fz25 k).toNat ∧ (fz25 k).toNat ≤ 8 ∧ fz25 k = (((fz25 k).toNat : Nat) : Int) := by
  rcases (by omega : k = 0 ∨ k = 1 ∨ k = 2 ∨ k = 3 ∨ k = 4 ∨ k = 5 ∨ k = 6 ∨ k = 7 ∨ k = 8 ∨ k = 9) with rfl | rfl | rfl | rfl | rfl | rfl | rfl | rfl | rfl | rfl <;> decide
theorem slice_lo25 (x : Addr) (n k m : Nat) (hnk : n ≤ k) (hm : m ≤ n) (hmk : m < k) (W : World) : (Instr.slice 22 (.slice (some x) n k) (some (.int .i64 (m : Int))) none none).run Tryd.prog W = .ok (.slice (some (x.add m)) (n - m) (k - m)) W := by
  have h1 : (m : Int) ≤ (n : Int) := by omega
  have h2 : (n : Int) ≤ (k : Int) := by omega
  have h0 : (0 : Int) ≤ (m : Int) := by omega
  have h3 : (0 : Int) ≤ (n : Int) := by omega
  have h4 : (m : Int) ≤ (k : Int) := by omega
  have hkm' : ¬ ((k : Int) = (m : Int)) := by omega
  have hkm : ¬ (k = m) := by omega
  go_simp
theorem add25 (g o m : Nat) : (⟨g, o, none⟩ : Addr).add m = ⟨g, o + m, none⟩ := by unfold Addr.add; split <;> simp_all
set_option maxRecDepth 100000 in
set_option maxHeartbeats 4000000 in
theorem pdec125 {w : World} {ob g o cp d s : Nat} {zs : List Int} {v z : Int} (hs : Seg w (some ⟨g, o, none⟩) zs) (h43 : 43 ≤ zs.length) (hcp : zs.length ≤ cp) (hl : zs.length ≤ 140737488355328) (hq : w.heap[ob]? = some (.cells #[.slice (some ⟨g, o + d, none⟩) (39 - d) (cp - d)] 22 (0, 0))) (hz : z = (s : Int)) (h1 : 1 ≤ s) (h8 : s ≤ 8) (hd : d + s ≤ 39) :
    Calls Tryd.prog 80 #[.int .u64 v, .int .i64 z, .pointer (some ⟨ob, 0, none⟩)] w fun e w' => e = .returned (.int .u64 (unfL ((zs.drop d).take s))) ∧ w'.heap[ob]? = some (.cells #[.slice (some ⟨g, o + (d + s), none⟩) (39 - (d + s)) (cp - (d + s))] 22 (0, 0)) ∧ Kp (fun k => k = ob) w w' := by
  subst hz
  have c0 : w.cell? ⟨ob, 0, none⟩ = some (.slice (some ⟨g, o + d, none⟩) (39 - d) (cp - d)) := cell25 hq rfl
  have f0 : w.frozen? ⟨ob, 0, none⟩ = false := free_row25 hq 0
  have hL : ((zs.take 39).drop d).length = 39 - d := by rw [List.length_drop, List.length_take]; omega
  have UF := unfix_any (some ⟨g, o + d, none⟩) ((zs.take 39).drop d) (cp - d) (s : Int) w ((hs.take 39).drop d) (by omega) (by omega)
  have hE : unfE ((zs.take 39).drop d) (s : Int) = 0 := by unfold unfE; rw [if_pos (by omega), if_neg (by simp only [Int.toNat_natCast]; omega)]
  have hV : unfV ((zs.take 39).drop d) (s : Int) = unfL ((zs.drop d).take s) := by
    unfold unfV
    rw [if_pos hE, Int.toNat_natCast]
    congr 1
    rw [List.drop_take, List.take_take, Nat.min_eq_left (by omega)]
  rw [hE, hV, hL] at UF
  have SL := slice_lo25 ⟨g, o + d, none⟩ (39 - d) (cp - d) s (by omega) (by omega) (by omega)
  rw [add25, show 39 - d - s = 39 - (d + s) by omega, show cp - d - s = cp - (d + s) by omega, show o + d + s = o + (d + s) by omega] at SL
  generalize unfL ((zs.drop d).take s) = y at *
  generalize hn : 39 - d = n at *
  generalize hk : cp - d = k at *
  generalize 39 - (d + s) = n2 at *
  generalize cp - (d + s) = k2 at *
  generalize o + d = o1 at *
  generalize o + (d + s) = o2 at *
  have HQ : Hid (w.heap[ob]? = some (.cells #[.slice (some ⟨g, o1, none⟩) n k] 22 (0, 0))) := hq
  clear hs h43 hcp hl hq h1 h8 hd hL hE hV hn hk
  go_enter Tryd.func80, Tryd.ntmps80
  go_wp2_with fail
  refine UF.mono ?_
  rintro e1 w1 ⟨rfl, hw1⟩
  subst hw1
  clear UF
  go_wp2_with fail
  go_ret
  exact ⟨rfl, by rw [setCell_row25 HQ.out]; exact set_row25 HQ.out, Kp.set (S := fun k => k = ob) rfl _⟩
end Go.Proofs.YtmjlpfmacblcpaaDoor
