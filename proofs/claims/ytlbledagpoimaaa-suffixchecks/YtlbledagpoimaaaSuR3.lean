
import Derived.Test.YtlbledagpoimaaaSuR2
namespace Go.Proofs.Ytlbledagpoimaaa
open Go.RowKit
set_option linter.unusedVariables false

/-! The document's Lcp. -/
def Gd13 (w W : World) : Prop := ∃ d, W = w.drewN d
def Sc13 (ga r1 r : Nat) (u v : Int) (W : World) : Prop := W.cell? ⟨ga, r1, none⟩ = some (.int .i64 u) ∧ W.cell? ⟨ga, r, none⟩ = some (.int .i64 v)
set_option maxRecDepth 100000 in
set_option maxHeartbeats 4000000 in
theorem rlcp13 (a : Option Addr) (z : List Int) (n ca : Nat) (A : List Nat) (w : World) (hs : Seg w a z) (hc : n ≤ ca) (hn : Hid (z.length = n)) (hA : Ar12 n (S12 z) A) (hb : n ≤ 16777216) :
    Calls Try.prog 22 #[.slice a n ca] w (LvQ13 w z A n) := by
  have HAR := rarr13 a z n ca A w hs hc hn hA hb
  have HM := fun w' => run_make_i12 n (by omega) w'
  have HSD : Hid (∀ w', Below w.heap.size w w' → Seg w' a z) := fun w' b => hs.old b
  have HA : Hid (Ar12 n (S12 z) A) := hA
  have HZ : Hid (List.replicate n (0 : Int) = lq13 z A 1) := by show _ = _; rw [lq13_one, hn.out]
  rw [HZ.out] at HM
  clear hs hA
  go_enter Try.func22, Try.ntmps22
  go_wp2_with (first
    | (go_at_call 20; refine HAR.mono ?_; rintro e1 w1 ⟨rfl, R1, B1⟩; clear HAR))
  have hal : Below w1.heap.size w1 (w1.alloc (.cells (vi12 (lq13 z A 1)) 3)) := (Below.refl _ _).alloc (Nat.le_refl _) _
  have hr0 := Rz12.new w1 (lq13 z A 1)
  have hlt := R1.lt
  have R2 := R1.old hal
  have B2 : Below w.heap.size w (w1.alloc (.cells (vi12 (lq13 z A 1)) 3)) := B1.trans (hal.mono B1.size)
  have hle := B1.size
  obtain ⟨g, hg⟩ : ∃ g, g = w1.heap.size := ⟨_, rfl⟩
  obtain ⟨ga, hga⟩ : ∃ ga, ga = w.heap.size := ⟨_, rfl⟩
  rw [← hg] at hr0 hlt
  rw [← hga] at R2 hlt
  have HGA : Hid (ga < g ∧ w.heap.size = ga ∧ ga ≤ g) := ⟨hlt, hga.symm, by omega⟩
  have hgl : w1.heap.size = g := hg.symm
  generalize w1.alloc (.cells (vi12 (lq13 z A 1)) 3) = w2 at *
  rw [← hg, ← hga]
  clear hal R1 B1 hle hlt hg hga hgl HM
  go_loopw [5] (fun ti wr => ∃ r : Nat, 1 ≤ r ∧ (r ≤ n ∨ r = 1) ∧ ti = .int .i64 r ∧ Rz12 wr ga (nz12 A) ∧ Rz12 wr g (lq13 z A r) ∧ Below w.heap.size w wr) (fun ti _ => n + 1 - (intOf ti).toNat)
  case atStart => exact ⟨1, by omega, Or.inr rfl, rfl, R2, hr0, B2⟩
  case round =>
    obtain ⟨r, hr1, hr2, rfl, RA, RG, hb2⟩ := hrel
    by_cases h1 : r < n
    · have h1i : (r : Int) < (n : Int) := by omega
      have hpl := HA.out.get (r := r - 1) (by omega)
      have hql := HA.out.get h1
      have c1 := RA.cell (i := r - 1) (by rw [nz12_len13, HA.out.len]; omega)
      have c2 := RA.cell (i := r) (by rw [nz12_len13, HA.out.len]; omega)
      rw [nz12_get13 (by rw [HA.out.len]; omega)] at c1 c2
      have k1 := RG.cell (i := r) (by rw [lq13_len, hn.out]; exact h1)
      have k2 := RG.free r
      have hs := HSD.out wr hb2
      obtain ⟨xb, off, hxa, -⟩ := hs.at_ 0 (by rw [hn.out]; omega)
      subst hxa
      have HLV : Hid (lc13 (z.drop (A.getD (r - 1) 0)) (z.drop (A.getD r 0)) = lv13 z A r) := by
        show _ = _
        unfold lv13
        rw [if_neg (by omega), lc13_comm]
      have HC : Hid (∀ W, Gd13 wr W → Calls Try.prog 12 #[.slice (some ⟨xb, off + A.getD (r - 1) 0, none⟩) (n - A.getD (r - 1) 0) (ca - A.getD (r - 1) 0), .slice (some ⟨xb, off + A.getD r 0, none⟩) (n - A.getD r 0) (ca - A.getD r 0)] W fun e w' => e = .returned (.int .i64 ((lv13 z A r : Nat) : Int)) ∧ Gd13 wr w') := by
        rintro W ⟨d, rfl⟩
        rw [← HLV.out]
        refine (rcom13 _ (z.drop (A.getD (r - 1) 0)) _ _ _ (z.drop (A.getD r 0)) _ _ _ ((hs.drewN d).drop _) ((hs.drewN d).drop _) (by show _ = _; rw [List.length_drop, hn.out]) (by show _ = _; rw [List.length_drop, hn.out]) (by omega) (by omega)).mono ?_
        rintro e w' ⟨he, d2, hd⟩
        exact ⟨he, d + d2, by rw [hd, drewN13]⟩
      have hne : ¬ g = ga := by have := HGA.out; omega
      have HST : Hid (∀ W, Gd13 wr W → Rz12 (W.setCell ⟨g, r, none⟩ (.int .i64 ((lv13 z A r : Nat) : Int))) ga (nz12 A) ∧ Rz12 (W.setCell ⟨g, r, none⟩ (.int .i64 ((lv13 z A r : Nat) : Int))) g (lq13 z A (r + 1)) ∧ Below w.heap.size w (W.setCell ⟨g, r, none⟩ (.int .i64 ((lv13 z A r : Nat) : Int)))) := by
        rintro W ⟨d, rfl⟩
        have h5 := (RG.drewN d).set r ((lv13 z A r : Nat) : Int)
        rw [lq13_set (by rw [hn.out]; exact h1)] at h5
        have hbd : Below w.heap.size w (wr.drewN d) := ⟨hb2.os, hb2.tape, hb2.output, hb2.size, hb2.block⟩
        exact ⟨(RA.drewN d).kp (Kp.set (S := fun q => q = g) rfl _) (fun h => hne h.symm), h5, hbd.trans ((Kp.set (S := fun q => q = g) rfl _).below (fun q h => by have := HGA.out; omega) (by have := hb2.size; show w.heap.size ≤ wr.heap.size; omega))⟩
      have HSC : Hid (∀ W, Gd13 wr W → W.cell? ⟨ga, r - 1, none⟩ = some (.int .i64 ((A.getD (r - 1) 0 : Nat) : Int)) ∧ W.cell? ⟨ga, r, none⟩ = some (.int .i64 ((A.getD r 0 : Nat) : Int))) := by
        rintro W ⟨d, rfl⟩
        exact ⟨c1, c2⟩
      have HSE : Hid (∀ W, Gd13 wr W → (W.setCell ⟨g, r, none⟩ (.int .i64 ((lv13 z A r : Nat) : Int))).cell? ⟨ga, r - 1, none⟩ = some (.int .i64 ((A.getD (r - 1) 0 : Nat) : Int)) ∧ (W.setCell ⟨g, r, none⟩ (.int .i64 ((lv13 z A r : Nat) : Int))).cell? ⟨ga, r, none⟩ = some (.int .i64 ((A.getD r 0 : Nat) : Int))) := by
        intro W hW
        have h6 := (HST.out W hW).1
        have d1 := h6.cell (i := r - 1) (by rw [nz12_len13, HA.out.len]; omega)
        have d2 := h6.cell (i := r) (by rw [nz12_len13, HA.out.len]; omega)
        rw [nz12_get13 (by rw [HA.out.len]; omega)] at d1 d2
        exact ⟨d1, d2⟩
      have HKK : Hid (∀ W, Gd13 wr W → W.cell? ⟨g, r, none⟩ = some (.int .i64 ((lq13 z A r).getD r 0)) ∧ W.frozen? ⟨g, r, none⟩ = false) := by
        rintro W ⟨d, rfl⟩
        exact ⟨k1, k2⟩
      have GD : Gd13 wr wr.drew := ⟨1, rfl⟩
      clear k1 k2 RA RG hs HLV
      generalize (lq13 z A r).getD r 0 = y at *
      generalize lv13 z A r = v at *
      generalize A.getD (r - 1) 0 = p at *
      generalize A.getD r 0 = q at *
      have ir : (r : Int) - 1 < (n : Int) := by omega
      have x1 : (0 : Int) ≤ (r : Int) - 1 := by omega
      have x2 : (0 : Int) ≤ (r : Int) := by omega
      have x4 : (1 : Int) ≤ (r : Int) := by omega
      have x5 : r - 1 < n := by omega
      have x6 : (r : Int) < (n : Int) + 1 := by omega
      have x7 : r ≤ n := by omega
      have x8 : r < n + 1 := by omega
      have x9 : ((r - 1 : Nat) : Int) < (n : Int) := by omega
      have x10 : (r : Int) ≤ (n : Int) := by omega
      have x11 : 0 < r := by omega
      have x12 : (0 : Int) < (r : Int) := by omega
      have x3 : IntKind.i64.wrap ((r : Int) - 1) = (r : Int) - 1 := IntWalk.i64_in _ (by omega)
      have HCC : Hid (wr.cell? ⟨ga, r - 1, none⟩ = some (.int .i64 (p : Int)) ∧ wr.cell? ⟨ga, r, none⟩ = some (.int .i64 (q : Int))) := ⟨c1, c2⟩
      have l1 : p ≤ n := by omega
      have l2 : q ≤ n := by omega
      have l3 : ¬ ca = p := by omega
      have l4 : ¬ ca = q := by omega
      have l5 : (p : Int) ≤ (n : Int) := by omega
      have l6 : (q : Int) ≤ (n : Int) := by omega
      have l7 : (0 : Int) ≤ (p : Int) := by omega
      have l8 : (0 : Int) ≤ (q : Int) := by omega
      clear c1 c2
      go_wp2_with fail
      go_region_held3 (fun W => W.cell? ⟨ga, r - 1, none⟩ = some (.int .i64 (p : Int)) ∧ W.cell? ⟨ga, r, none⟩ = some (.int .i64 (q : Int))) (first | (exact HCC.out) | (exact HSC.out _ (by assumption)) | (exact HSE.out _ (by assumption))) (first
        | (go_at_call 12; refine (HC.out _ (by assumption)).mono ?_; rintro e3 w3 ⟨rfl, G3⟩; obtain ⟨k1, k2⟩ := HKK.out w3 G3))
      go_wp2_with fail
      go_roundw
      case rel => exact ⟨r + 1, by omega, Or.inl (by omega), by go_num, (HST.out w3 G3).1, (HST.out w3 G3).2.1, (HST.out w3 G3).2.2⟩
      case measure => simp [intOf]; omega
    · have h1i : ¬ (r : Int) < (n : Int) := by omega
      rw [lq13_all (by rw [hn.out]; omega)] at RG
      go_wp2_with fail
      go_ret
      exact ⟨g, rfl, RG, by have := HGA.out; omega, hb2⟩
end Go.Proofs.Ytlbledagpoimaaa
