import Derived.Test.YtkolffhebakbaaaPau
namespace Go.Proofs.Ytkolffhebakbaaa
open Go.RowKit
set_option linter.unusedVariables false

/-! The document's Lcp. -/
def Gd13 (w W : World) : Prop := ∃ d, W = w.drewN d
def Sc13 (ga r1 r : Nat) (u v : Int) (W : World) : Prop := W.cell? ⟨ga, r1, none⟩ = some (.int .i64 u) ∧ W.cell? ⟨ga, r, none⟩ = some (.int .i64 v)
set_option maxRecDepth 100000 in
set_option maxHeartbeats 4000000 in
theorem rlcp13 (a : Option Addr) (z : List Int) (n ca : Nat) (A : List Nat) (w : World) (hs : Seg w a z) (hc : n ≤ ca) (hn : Hid (z.length = n)) (hA : Ar12 n (S12 z) A) (hb : n ≤ 16777216) :
    Calls Try.prog 17 #[.slice a n ca] w (LvQ13 w z A n) := by
  have HAR := rarr13 a z n ca A w hs hc hn hA hb
  have HM := fun w' => run_make_i12 n (by omega) w'
  have HSD : Hid (∀ w', Below w.heap.size w w' → Seg w' a z) := fun w' b => hs.old b
  have HA : Hid (Ar12 n (S12 z) A) := hA
  have HZ : Hid (List.replicate n (0 : Int) = lq13 z A 1) := by show _ = _; rw [lq13_one, hn.out]
  rw [HZ.out] at HM
  clear hs hA
  go_enter Try.func17, Try.ntmps17
  go_wp2_with (first
    | (go_at_call 10; refine HAR.mono ?_; rintro e1 w1 ⟨rfl, R1, B1⟩; clear HAR))
  have hal : Below w1.heap.size w1 (w1.alloc (.cells (vi12 (lq13 z A 1)) 3)) := (Below.refl _ _).alloc (Nat.le_refl _) _
  have hr0 := Rz12.new w1 (lq13 z A 1)
  have hlt := R1.lt
  have R2 := R1.old hal
  have B2 : Below w.heap.size w (w1.alloc (.cells (vi12 (lq13 z A 1)) 3)) := B1.trans (hal.mono B1.size)
  have hle := B1.size
  obtain ⟨g, hg⟩ : ∃ g, g = w1.heap.size := ⟨_, rfl⟩
  obtain ⟨ga, hga⟩ : ∃ ga, ga = w.heap.size := ⟨_, rfl⟩
  rw [← hg] at hr0 hlt
  rw [← hga] at R2 hlt
  have HGA : Hid (ga < g ∧ w.heap.size = ga ∧ ga ≤ g) := ⟨hlt, hga.symm, by omega⟩
  have hgl : w1.heap.size = g := hg.symm
  generalize w1.alloc (.cells (vi12 (lq13 z A 1)) 3) = w2 at *
  rw [← hg, ← hga]
  clear hal R1 B1 hle hlt hg hga hgl HM
  go_loopw [5] (fun ti wr => ∃ r : Nat, 1 ≤ r ∧ (r ≤ n ∨ r = 1) ∧ ti = .int .i64 r ∧ Rz12 wr ga (nz12 A) ∧ Rz12 wr g (lq13 z A r) ∧ Below w.heap.size w wr) (fun ti _ => n + 1 - (intOf ti).toNat)
  case atStart => exact ⟨1, by omega, Or.inr rfl, rfl, R2, hr0, B2⟩
  case round =>
    obtain ⟨r, hr1, hr2, rfl, RA, RG, hb2⟩ := hrel
    by_cases h1 : r < n
    · have h1i : (r : Int) < (n : Int) := by omega
      have hpl := HA.out.get (r := r - 1) (by omega)
      have hql := HA.out.get h1
      have c1 := RA.cell (i := r - 1) (by rw [nz12_len13, HA.out.len]; omega)
      have c2 := RA.cell (i := r) (by rw [nz12_len13, HA.out.len]; omega)
      rw [nz12_get13 (by rw [HA.out.len]; omega)] at c1 c2
      have k1 := RG.cell (i := r) (by rw [lq13_len, hn.out]; exact h1)
      have k2 := RG.free r
      have hs := HSD.out wr hb2
      obtain ⟨xb, off, hxa, -⟩ := hs.at_ 0 (by rw [hn.out]; omega)
      subst hxa
      have HLV : Hid (lc13 (z.drop (A.getD (r - 1) 0)) (z.drop (A.getD r 0)) = lv13 z A r) := by
        show _ = _
        unfold lv13
        rw [if_neg (by omega), lc13_comm]
      have HC : Hid (∀ W, Gd13 wr W → Calls Try.prog 39 #[.slice (some ⟨xb, off + A.getD (r - 1) 0, none⟩) (n - A.getD (r - 1) 0) (ca - A.getD (r - 1) 0), .slice (some ⟨xb, off + A.getD r 0, none⟩) (n - A.getD r 0) (ca - A.getD r 0)] W fun e w' => e = .returned (.int .i64 ((lv13 z A r : Nat) : Int)) ∧ Gd13 wr w') := by
        rintro W ⟨d, rfl⟩
        rw [← HLV.out]
        refine (rcom13 _ (z.drop (A.getD (r - 1) 0)) _ _ _ (z.drop (A.getD r 0)) _ _ _ ((hs.drewN d).drop _) ((hs.drewN d).drop _) (by show _ = _; rw [List.length_drop, hn.out]) (by show _ = _; rw [List.length_drop, hn.out]) (by omega) (by omega)).mono ?_
        rintro e w' ⟨he, d2, hd⟩
        exact ⟨he, d + d2, by rw [hd, drewN13]⟩
      have hne : ¬ g = ga := by have := HGA.out; omega
      have HST : Hid (∀ W, Gd13 wr W → Rz12 (W.setCell ⟨g, r, none⟩ (.int .i64 ((lv13 z A r : Nat) : Int))) ga (nz12 A) ∧ Rz12 (W.setCell ⟨g, r, none⟩ (.int .i64 ((lv13 z A r : Nat) : Int))) g (lq13 z A (r + 1)) ∧ Below w.heap.size w (W.setCell ⟨g, r, none⟩ (.int .i64 ((lv13 z A r : Nat) : Int)))) := by
        rintro W ⟨d, rfl⟩
        have h5 := (RG.drewN d).set r ((lv13 z A r : Nat) : Int)
        rw [lq13_set (by rw [hn.out]; exact h1)] at h5
        have hbd : Below w.heap.size w (wr.drewN d) := ⟨hb2.os, hb2.tape, hb2.output, hb2.size, hb2.block⟩
        exact ⟨(RA.drewN d).kp (Kp.set (S := fun q => q = g) rfl _) (fun h => hne h.symm), h5, hbd.trans ((Kp.set (S := fun q => q = g) rfl _).below (fun q h => by have := HGA.out; omega) (by have := hb2.size; show w.heap.size ≤ wr.heap.size; omega))⟩
      have HSC : Hid (∀ W, Gd13 wr W → W.cell? ⟨ga, r - 1, none⟩ = some (.int .i64 ((A.getD (r - 1) 0 : Nat) : Int)) ∧ W.cell? ⟨ga, r, none⟩ = some (.int .i64 ((A.getD r 0 : Nat) : Int))) := by
        rintro W ⟨d, rfl⟩
        exact ⟨c1, c2⟩
      have HSE : Hid (∀ W, Gd13 wr W → (W.setCell ⟨g, r, none⟩ (.int .i64 ((lv13 z A r : Nat) : Int))).cell? ⟨ga, r - 1, none⟩ = some (.int .i64 ((A.getD (r - 1) 0 : Nat) : Int)) ∧ (W.setCell ⟨g, r, none⟩ (.int .i64 ((lv13 z A r : Nat) : Int))).cell? ⟨ga, r, none⟩ = some (.int .i64 ((A.getD r 0 : Nat) : Int))) := by
        intro W hW
        have h6 := (HST.out W hW).1
        have d1 := h6.cell (i := r - 1) (by rw [nz12_len13, HA.out.len]; omega)
        have d2 := h6.cell (i := r) (by rw [nz12_len13, HA.out.len]; omega)
        rw [nz12_get13 (by rw [HA.out.len]; omega)] at d1 d2
        exact ⟨d1, d2⟩
      have HKK : Hid (∀ W, Gd13 wr W → W.cell? ⟨g, r, none⟩ = some (.int .i64 ((lq13 z A r).getD r 0)) ∧ W.frozen? ⟨g, r, none⟩ = false) := by
        rintro W ⟨d, rfl⟩
        exact ⟨k1, k2⟩
      have GD : Gd13 wr wr.drew := ⟨1, rfl⟩
      clear k1 k2 RA RG hs HLV
      generalize (lq13 z A r).getD r 0 = y at *
      generalize lv13 z A r = v at *
      generalize A.getD (r - 1) 0 = p at *
      generalize A.getD r 0 = q at *
      have ir : (r : Int) - 1 < (n : Int) := by omega
      have x1 : (0 : Int) ≤ (r : Int) - 1 := by omega
      have x2 : (0 : Int) ≤ (r : Int) := by omega
      have x4 : (1 : Int) ≤ (r : Int) := by omega
      have x5 : r - 1 < n := by omega
      have x6 : (r : Int) < (n : Int) + 1 := by omega
      have x7 : r ≤ n := by omega
      have x8 : r < n + 1 := by omega
      have x9 : ((r - 1 : Nat) : Int) < (n : Int) := by omega
      have x10 : (r : Int) ≤ (n : Int) := by omega
      have x11 : 0 < r := by omega
      have x12 : (0 : Int) < (r : Int) := by omega
      have x3 : IntKind.i64.wrap ((r : Int) - 1) = (r : Int) - 1 := IntWalk.i64_in _ (by omega)
      have HCC : Hid (wr.cell? ⟨ga, r - 1, none⟩ = some (.int .i64 (p : Int)) ∧ wr.cell? ⟨ga, r, none⟩ = some (.int .i64 (q : Int))) := ⟨c1, c2⟩
      have l1 : p ≤ n := by omega
      have l2 : q ≤ n := by omega
      have l3 : ¬ ca = p := by omega
      have l4 : ¬ ca = q := by omega
      have l5 : (p : Int) ≤ (n : Int) := by omega
      have l6 : (q : Int) ≤ (n : Int) := by omega
      have l7 : (0 : Int) ≤ (p : Int) := by omega
      have l8 : (0 : Int) ≤ (q : Int) := by omega
      clear c1 c2
      go_wp2_with fail
      go_region_held3 (fun W => W.cell? ⟨ga, r - 1, none⟩ = some (.int .i64 (p : Int)) ∧ W.cell? ⟨ga, r, none⟩ = some (.int .i64 (q : Int))) (first | (exact HCC.out) | (exact HSC.out _ (by assumption)) | (exact HSE.out _ (by assumption))) (first
        | (go_at_call 39; refine (HC.out _ (by assumption)).mono ?_; rintro e3 w3 ⟨rfl, G3⟩; obtain ⟨k1, k2⟩ := HKK.out w3 G3))
      go_wp2_with fail
      go_roundw
      case rel => exact ⟨r + 1, by omega, Or.inl (by omega), by go_num, (HST.out w3 G3).1, (HST.out w3 G3).2.1, (HST.out w3 G3).2.2⟩
      case measure => simp [intOf]; omega
    · have h1i : ¬ (r : Int) < (n : Int) := by omega
      rw [lq13_all (by rw [hn.out]; omega)] at RG
      go_wp2_with fail
      go_ret
      exact ⟨g, rfl, RG, by have := HGA.out; omega, hb2⟩
end Go.Proofs.Ytkolffhebakbaaa

namespace Go.Proofs.Ytkolffhebakbaaa
open Go.RowKit
set_option linter.unusedVariables false

/-! Compare: the landed one, the document's. -/
theorem ll_iff13 : ∀ (X p : List Int), ¬ lc13 X p = p.length → (LL12 X p ↔ (lc13 X p = X.length ∨ X.getD (lc13 X p) 0 < p.getD (lc13 X p) 0))
  | [], [], h => by simp [lc13] at h
  | _ :: _, [], h => by simp [lc13] at h
  | [], y :: p, h => ⟨fun _ => Or.inl (by simp [lc13]), fun _ => .nil⟩
  | x :: X, y :: p, h => by
    unfold lc13 at h ⊢
    by_cases e : x = y
    · subst e
      rw [if_pos rfl] at h ⊢
      have ih := ll_iff13 X p (by simpa using h)
      constructor
      · intro k
        rcases k.inv with k | ⟨_, k⟩
        · omega
        · rcases ih.1 k with c | c
          · exact Or.inl (by simp [c])
          · exact Or.inr (by simpa [List.getD] using c)
      · intro k
        refine .eq (ih.2 ?_)
        rcases k with c | c
        · exact Or.inl (by simpa using c)
        · exact Or.inr (by simpa [List.getD] using c)
    · rw [if_neg e]
      constructor
      · intro k
        rcases k.inv with k | ⟨k, _⟩
        · exact Or.inr (by simpa [List.getD] using k)
        · exact absurd k e
      · intro k
        rcases k with c | c
        · simp at c
        · exact .lt (by simpa [List.getD] using c)
open Classical in
noncomputable def cv13 (X p : List Int) : Int := if lc13 X p = p.length then 0 else if LL12 X p then -1 else 1
theorem cv13_zero {X p : List Int} (h : lc13 X p = p.length) : cv13 X p = 0 := by unfold cv13; rw [if_pos h]
theorem cv13_less {X p : List Int} (h : ¬ lc13 X p = p.length) (k : LL12 X p) : cv13 X p = -1 := by unfold cv13; rw [if_neg h, if_pos k]
theorem cv13_more {X p : List Int} (h : ¬ lc13 X p = p.length) (k : ¬ LL12 X p) : cv13 X p = 1 := by unfold cv13; rw [if_neg h, if_neg k]
set_option maxRecDepth 100000 in
set_option maxHeartbeats 2000000 in
theorem rcmp13 (xa : Option Addr) (X : List Int) (m xc : Nat) (ya : Option Addr) (Y : List Int) (q yc : Nat) (w : World) (hx : Seg w xa X) (hy : Seg w ya Y) (hm : Hid (X.length = m)) (hq : Hid (Y.length = q)) (hb : m ≤ 9223372036854775807) (hb2 : q ≤ 9223372036854775807) :
    Calls Try.prog 25 #[.slice xa m xc, .slice ya q yc] w fun e w' => e = .returned (.tuple #[.int .i64 (cv13 X Y), .int .i64 ((lc13 X Y : Nat) : Int)]) ∧ Below w.heap.size w w' := by
  have HC := rcom13 xa X m xc ya Y q yc w hx hy hm hq hb hb2
  have HLL : Hid (lc13 X Y ≤ q) := by show _ ≤ _; rw [← hq.out]; exact lc13_le' X Y
  have HCX : Hid (∀ d, (convert 22 9 (.slice xa m xc)).run Try.prog (w.drewN d) = .ok (.string (strOfNums X)) (w.drewN d)) := by
    intro d
    have h8 := run_conv_segS (P := Try.prog) xc (hx.drewN d) 22 5 9 Try.underlying22 Try.underlying5 Try.underlying9
    rw [hm.out] at h8
    exact h8
  have HCY : Hid (∀ d, (convert 22 9 (.slice ya q yc)).run Try.prog (w.drewN d) = .ok (.string (strOfNums Y)) (w.drewN d)) := by
    intro d
    have h8 := run_conv_segS (P := Try.prog) yc (hy.drewN d) 22 5 9 Try.underlying22 Try.underlying5 Try.underlying9
    rw [hq.out] at h8
    exact h8
  have HBX : Hid (∀ y ∈ X, 0 ≤ y ∧ y ≤ 255) := seg_bd13 hx
  have HBY : Hid (∀ y ∈ Y, 0 ≤ y ∧ y ≤ 255) := seg_bd13 hy
  clear hx hy
  by_cases h1 : lc13 X Y = q
  · have HV : Hid (cv13 X Y = 0) := cv13_zero (by rw [hq.out]; exact h1)
    rw [HV.out]
    rw [h1] at HC ⊢
    clear h1
    go_enter Try.func25, Try.ntmps25
    go_wp2_with (first
      | (go_at_call 39; refine HC.mono ?_; rintro e1 w1 ⟨rfl, d, hd⟩))
    refine bodyPost_ret (results_tmp2 rfl _ _ _) rfl ?_
    exact ⟨rfl, by first | (rw [hd]; exact ⟨rfl, rfl, rfl, Nat.le_refl _, fun _ _ => rfl⟩) | exact ⟨rfl, rfl, rfl, Nat.le_refl _, fun _ _ => rfl⟩⟩
  · have h1i : ¬ ((lc13 X Y : Nat) : Int) = (q : Int) := by omega
    have h1b : (((lc13 X Y : Nat) : Int) == (q : Int)) = false := beq_eq_false_iff_ne.2 h1i
    by_cases h2 : LL12 X Y
    · have HV : Hid (cv13 X Y = -1) := cv13_less (by rw [hq.out]; exact h1) h2
      have hbl := sl13 HBX.out HBY.out h2
      rw [HV.out]
      clear h2 h1
      generalize lc13 X Y = v at *
      generalize strOfNums X = s1 at *
      generalize strOfNums Y = s2 at *
      go_enter Try.func25, Try.ntmps25
      go_wp2_with (first
        | (go_at_call 39; refine HC.mono ?_; rintro e1 w1 ⟨rfl, d, hd⟩; have y1 := HCX.out d; have y2 := HCY.out d; rw [← hd] at y1 y2; have HD : Hid (w1 = w.drewN d) := hd; clear hd))
      refine bodyPost_ret (results_tmp2 rfl _ _ _) rfl ?_
      exact ⟨rfl, by rw [HD.out]; exact ⟨rfl, rfl, rfl, Nat.le_refl _, fun _ _ => rfl⟩⟩
    · have HV : Hid (cv13 X Y = 1) := cv13_more (by rw [hq.out]; exact h1) h2
      have hbl := sln13 HBX.out HBY.out h2
      rw [HV.out]
      clear h2 h1
      generalize lc13 X Y = v at *
      generalize strOfNums X = s1 at *
      generalize strOfNums Y = s2 at *
      go_enter Try.func25, Try.ntmps25
      go_wp2_with (first
        | (go_at_call 39; refine HC.mono ?_; rintro e1 w1 ⟨rfl, d, hd⟩; have y1 := HCX.out d; have y2 := HCY.out d; rw [← hd] at y1 y2; have HD : Hid (w1 = w.drewN d) := hd; clear hd))
      refine bodyPost_ret (results_tmp2 rfl _ _ _) rfl ?_
      exact ⟨rfl, by rw [HD.out]; exact ⟨rfl, rfl, rfl, Nat.le_refl _, fun _ _ => rfl⟩⟩
set_option maxRecDepth 100000 in
set_option maxHeartbeats 4000000 in
theorem pcmp13 (b : Nat) (da : Option Addr) (dc : Nat) (aa : Option Addr) (ac gb gr n : Nat) (z : List Int) (A : List Nat) (i : Nat) (pa : Option Addr) (p : List Int) (m pc : Nat) (w : World) (h : Ix13 w b da dc aa ac gb gr n z A) (hp : Seg w pa p) (hm : Hid (p.length = m)) (hmb : m ≤ 9223372036854775807) (hi : i < n) :
    Calls Try.prog 23 #[.pointer (some ⟨b, 0, none⟩), .int .i64 (i : Int), .slice pa m pc] w fun e w' => e = .returned (.tuple #[.int .i64 (cv13 (z.drop i) p), .int .i64 ((lc13 (z.drop i) p : Nat) : Int), .int .i64 0]) ∧ Below w.heap.size w w' := by
  have hn24 := h.n24
  have B1 : Below w.heap.size w (w.alloc (.cells #[.int .i64 (i : Int)] 3)) := (Below.refl _ _).alloc (Nat.le_refl _) _
  have HR := pref13 b da dc aa ac gb gr n z A (some ⟨w.heap.size, 0, none⟩) [(i : Int)] 1 1 _ (h.old B1) (segZ_lit13 w _ (by omega)) (rfl : _ = _) (by omega)
  rw [er13_one, if_pos (by omega)] at HR
  obtain ⟨xb, off, rfl, c3⟩ := h.dat.at_ i (by rw [h.len]; exact hi)
  have hln : Hid (z.length = n) := h.len
  have HC1 : Hid (∀ W, Below w.heap.size w W → W.cell? ⟨b, 0, none⟩ = some (.slice (some ⟨xb, off, none⟩) n dc) ∧ Seg W (some ⟨xb, off + i, none⟩) (z.drop i) ∧ Seg W pa p) := fun W hW => ⟨(h.old hW).c0, (h.old hW).dat.drop i, hp.old hW⟩
  have HSM : Hid (∀ W, Below w.heap.size w W → Calls Try.prog 38 #[.slice (some ⟨xb, off + i, none⟩) (n - i) (dc - i), .slice pa m pc, .int .i64 0] W fun e w' => e = .returned (.int .i64 ((lc13 (z.drop i) p : Nat) : Int)) ∧ ∃ d, w' = W.drewN d) := fun W hW =>
    psame13 _ (z.drop i) (n - i) _ pa p m pc 0 W (HC1.out W hW).2.1 (HC1.out W hW).2.2 (by show _ = _; rw [List.length_drop, hln.out]) hm (by omega) hmb (Nat.zero_le _)
  have hii : (i : Int) < (n : Int) := by omega
  have hdc := h.dle
  have l1 : i ≤ n := by omega
  have l3 : ¬ dc = i := by omega
  have HDL : Hid ((z.drop i).length = n - i) := by show _ = _; rw [List.length_drop, hln.out]
  have HLX : Hid (lc13 (z.drop i) p ≤ n - i ∧ lc13 (z.drop i) p ≤ m) := ⟨by rw [← HDL.out]; exact lc13_le _ _, by rw [← hm.out]; exact lc13_le' _ _⟩
  clear h hp c3
  generalize hX : z.drop i = X at *
  clear hX
  have HIFF : Hid (¬ lc13 X p = m → (LL12 X p ↔ (lc13 X p = n - i ∨ X.getD (lc13 X p) 0 < p.getD (lc13 X p) 0))) := fun h => by
    have := ll_iff13 X p (by rw [hm.out]; exact h)
    rw [HDL.out] at this
    exact this
  by_cases h1 : lc13 X p = m
  · have HV : Hid (cv13 X p = 0) := cv13_zero (by rw [hm.out]; exact h1)
    rw [HV.out]
    rw [h1] at HSM ⊢
    clear h1 HIFF HLX
    go_enter Try.func23, Try.ntmps23
    go_wp2_with (first
      | (go_at_call 42; refine HR.mono ?_; rintro e1 w2 ⟨rfl, hw1⟩; rw [← hw1] at B1; clear hw1 HR; obtain ⟨c0, -, -⟩ := HC1.out w2 B1)
      | (go_at_call 38; refine (HSM.out w2 B1).mono ?_; rintro e2 w3 ⟨rfl, d, hd⟩; have B3 : Below w.heap.size w w3 := (by rw [hd]; exact B1.trans ⟨rfl, rfl, rfl, Nat.le_refl _, fun _ _ => rfl⟩); clear hd))
    go_ret3
    exact ⟨rfl, B3⟩
  · have h1i : ¬ ((lc13 X p : Nat) : Int) = (m : Int) := by omega
    have h1b : (((lc13 X p : Nat) : Int) == (m : Int)) = false := beq_eq_false_iff_ne.2 h1i
    have hlm : ((lc13 X p : Nat) : Int) < (m : Int) := by have := HLX.out; omega
    have HPC : Hid (∀ W, Below w.heap.size w W → ∃ pb po, pa = some ⟨pb, po, none⟩ ∧ W.cell? ⟨pb, po + lc13 X p, none⟩ = some (.int .u8 (p.getD (lc13 X p) 0)) ∧ 0 ≤ p.getD (lc13 X p) 0 ∧ p.getD (lc13 X p) 0 ≤ 255) := fun W hW => by
      obtain ⟨pb, po, q1, q2⟩ := (HC1.out W hW).2.2.at_ (lc13 X p) (by rw [hm.out]; omega)
      exact ⟨pb, po, q1, q2, (HC1.out W hW).2.2.bd _⟩
    obtain ⟨pb, po, rfl, -, pbd⟩ := HPC.out w (Below.refl _ _)
    have HPD : Hid (∀ W, Below w.heap.size w W → W.cell? ⟨pb, po + lc13 X p, none⟩ = some (.int .u8 (p.getD (lc13 X p) 0))) := fun W hW => by
      obtain ⟨pb', po', q1, q2, -⟩ := HPC.out W hW
      cases q1
      exact q2
    by_cases h3 : lc13 X p = n - i
    · have HV : Hid (cv13 X p = -1) := cv13_less (by rw [hm.out]; exact h1) ((HIFF.out h1).2 (Or.inl h3))
      rw [HV.out]
      have h3b : (((lc13 X p : Nat) : Int) == ((n - i : Nat) : Int)) = true := by rw [h3]; simp
      have h3c : ((lc13 X p : Nat) : Int) = ((n - i : Nat) : Int) := by omega
      clear h1 HIFF HLX HPC HPD
      generalize lc13 X p = v at *
      subst h3
      clear h3b h3c
      go_enter Try.func23, Try.ntmps23
      go_wp2_with (first
        | (go_at_call 42; refine HR.mono ?_; rintro e1 w2 ⟨rfl, hw1⟩; rw [← hw1] at B1; clear hw1 HR; obtain ⟨c0, -, -⟩ := HC1.out w2 B1)
        | (go_at_call 38; refine (HSM.out w2 B1).mono ?_; rintro e2 w3 ⟨rfl, d, hd⟩; have B3 : Below w.heap.size w w3 := (by rw [hd]; exact B1.trans ⟨rfl, rfl, rfl, Nat.le_refl _, fun _ _ => rfl⟩); clear hd))
      go_quiet (fail)
      go_wp2_with fail
      go_ret3
      exact ⟨rfl, B3.trans ⟨rfl, rfl, rfl, Nat.le_refl _, fun _ _ => rfl⟩⟩
    · have h3b : (((lc13 X p : Nat) : Int) == ((n - i : Nat) : Int)) = false := beq_eq_false_iff_ne.2 (by omega)
      have h3l : ((lc13 X p : Nat) : Int) < ((n - i : Nat) : Int) := by have := HLX.out; omega
      have HXD : Hid (∀ W, Below w.heap.size w W → W.cell? ⟨xb, off + i + lc13 X p, none⟩ = some (.int .u8 (X.getD (lc13 X p) 0)) ∧ 0 ≤ X.getD (lc13 X p) 0 ∧ X.getD (lc13 X p) 0 ≤ 255) := fun W hW => by
        obtain ⟨b', o', q1, q2⟩ := (HC1.out W hW).2.1.at_ (lc13 X p) (by rw [HDL.out]; have := HLX.out; omega)
        cases q1
        exact ⟨q2, (HC1.out W hW).2.1.bd _⟩
      have xbd := (HXD.out w (Below.refl _ _)).2
      have HCV : Hid (cv13 X p = if X.getD (lc13 X p) 0 < p.getD (lc13 X p) 0 then -1 else 1) := by
        show _ = _
        by_cases h4 : X.getD (lc13 X p) 0 < p.getD (lc13 X p) 0
        · rw [if_pos h4]; exact cv13_less (by rw [hm.out]; exact h1) ((HIFF.out h1).2 (Or.inr h4))
        · rw [if_neg h4]
          refine cv13_more (by rw [hm.out]; exact h1) fun k => ?_
          rcases (HIFF.out h1).1 k with c | c
          · exact h3 c
          · exact h4 c
      rw [HCV.out]
      clear h1 h3 HIFF HPC HCV
      have hvb : lc13 X p ≤ 16777216 := by have := HLX.out; omega
      clear HLX
      generalize X.getD (lc13 X p) 0 = x1 at *
      generalize p.getD (lc13 X p) 0 = y1 at *
      generalize lc13 X p = v at *
      by_cases h4 : x1 < y1
      · rw [if_pos h4]
        go_enter Try.func23, Try.ntmps23
        go_wp2_with (first
          | (go_at_call 42; refine HR.mono ?_; rintro e1 w2 ⟨rfl, hw1⟩; rw [← hw1] at B1; clear hw1 HR; obtain ⟨c0, -, -⟩ := HC1.out w2 B1)
          | (go_at_call 38; refine (HSM.out w2 B1).mono ?_; rintro e2 w3 ⟨rfl, d, hd⟩; have B3 : Below w.heap.size w w3 := (by rw [hd]; exact B1.trans ⟨rfl, rfl, rfl, Nat.le_refl _, fun _ _ => rfl⟩); clear hd; have c5 := (HXD.out w3 B3).1; have c6 := HPD.out w3 B3))
        go_quiet (fail)
        go_wp2_with fail
        go_ret3
        exact ⟨rfl, B3.trans ⟨rfl, rfl, rfl, Nat.le_refl _, fun _ _ => rfl⟩⟩
      · rw [if_neg h4]
        have h4b : decide (x1 < y1) = false := decide_eq_false h4
        go_enter Try.func23, Try.ntmps23
        go_wp2_with (first
          | (go_at_call 42; refine HR.mono ?_; rintro e1 w2 ⟨rfl, hw1⟩; rw [← hw1] at B1; clear hw1 HR; obtain ⟨c0, -, -⟩ := HC1.out w2 B1)
          | (go_at_call 38; refine (HSM.out w2 B1).mono ?_; rintro e2 w3 ⟨rfl, d, hd⟩; have B3 : Below w.heap.size w w3 := (by rw [hd]; exact B1.trans ⟨rfl, rfl, rfl, Nat.le_refl _, fun _ _ => rfl⟩); clear hd; have c5 := (HXD.out w3 B3).1; have c6 := HPD.out w3 B3))
        have h4c : decide (x1 < y1) = false := decide_eq_false (by omega)
        have h4d : ¬ x1 < y1 := by omega
        go_quiet (fail)
        go_wp2_with fail
        go_ret3
        exact ⟨rfl, B3.trans ⟨rfl, rfl, rfl, Nat.le_refl _, fun _ _ => rfl⟩⟩
end Go.Proofs.Ytkolffhebakbaaa
