
import Derived.Test.YtkggfeipcmfghaaSu5
import Derived.Test.YtkggfeipcmfghaaSuM6
namespace Go.Proofs.Ytkggfeipcmfghaa
open Go.RowKit
set_option linter.unusedVariables false

/-! The landed Kth. -/
def KtQ13 (w : World) (z : List Int) (A : List Nat) (k : Nat) (e : Ending) (w' : World) : Prop :=
  (∃ r ra rc, Kr13 z A k r ∧ e = .returned (.tuple #[.slice ra (kt13 z A k r).length rc, .int .i64 0]) ∧ w'.ownsRow w.heap.size 5 1 (.slice ra (kt13 z A k r).length rc) (kt13 z A k r).length ((kt13 z A k r).map (Value.int .u8)) ∧ Below w.heap.size w w') ∨
  (ks13 z A z.length ≤ k ∧ e = .returned (.tuple #[.slice none 0 0, .int .i64 132]) ∧ Below w.heap.size w w')
set_option maxRecDepth 100000 in
set_option maxHeartbeats 4000000 in
theorem pkth13 (b : Nat) (da : Option Addr) (dc : Nat) (aa : Option Addr) (ac gb gr n : Nat) (z : List Int) (A : List Nat) (k : Nat) (hkb : k ≤ 9223372036854775807) (w : World) (h : Ix13 w b da dc aa ac gb gr n z A) :
    Calls Try.prog 18 #[.pointer (some ⟨b, 0, none⟩), .int .i64 (k : Int)] w (KtQ13 w z A k) := by
  have HMD := pmade13 b da dc aa ac gb gr n z A w h
  have HLC := plcp13 b da dc aa ac gb gr n z A w h
  have hn24 := h.n24
  have hdc := h.dle
  have hac := h.ale
  have hn : Hid (z.length = n) := h.len
  have HAR : Hid (Ar12 z.length (S12 z) A) := by show Ar12 _ _ _; rw [h.len]; exact h.ar
  have HIX : Hid (∀ W, Below w.heap.size w W → Ix13 W b da dc aa ac gb gr n z A) := fun W hb => h.old hb
  have hk0 : ¬ (k : Int) < 0 := by omega
  clear h
  go_enter Try.func18, Try.ntmps18
  go_wp2_with (first
    | (go_at_call 44; refine HMD.mono ?_; rintro e1 w1 ⟨rfl, hw1⟩; have hw1' := hw1.symm; subst hw1')
    | (go_at_call 24; refine HLC.mono ?_; rintro e2 w2 ⟨gl, rfl, RL, ql, B2⟩; clear HLC))
  go_loopw [1, 18] (fun tk ti wr => ∃ (r k2 : Nat), r ≤ n ∧ tk = .int .i64 k2 ∧ ti = .int .i64 r ∧ Hid (k = ks13 z A r + k2) ∧ ∃ d, wr = w2.drewN d) (fun _ ti _ => n - (intOf ti).toNat)
  case atStart => exact ⟨0, k, Nat.zero_le _, rfl, rfl, (by show k = 0 + k; omega), 0, rfl⟩
  case round =>
    obtain ⟨r, k2, hr, rfl, rfl, HK, d, hd⟩ := hrel
    have BW : Below w.heap.size w wr := by rw [hd]; exact B2.trans ⟨rfl, rfl, rfl, Nat.le_refl _, fun _ _ => rfl⟩
    have RW : Rz12 wr gl (lp13 z A) := by rw [hd]; exact RL.drewN d
    have hI := HIX.out wr BW
    have HD : Hid (wr = w2.drewN d) := hd
    clear hd
    have hk2 : k2 ≤ 9223372036854775807 := by have := HK.out; omega
    by_cases h1 : r < n
    · have h1i : (r : Int) < (n : Int) := by omega
      have c1 := RW.cell (i := r) (by rw [lp13_len, hn.out]; exact h1)
      rw [lp13_get (by rw [hn.out]; exact h1)] at c1
      have c2 := hI.c0
      have c3 := hI.c1
      obtain ⟨ab, ao, ha, c4⟩ := hI.arr.at_ r (by rw [nz12_len13, hI.ar.len]; exact h1)
      rw [nz12_get13 (by rw [hI.ar.len]; exact h1)] at c4
      have hle := (lv13_le HAR.out (r := r) (by rw [hn.out]; exact h1)).1
      rw [hn.out] at hle
      have hget := hI.ar.get (r := r) h1
      obtain ⟨xb, off, hx, -⟩ := hI.dat.at_ (A.getD r 0) (by rw [hn.out]; exact hget)
      subst ha
      subst hx
      have HSG : Hid (∀ W, Below w.heap.size w W → Seg W (some ⟨xb, off + A.getD r 0, none⟩) (z.drop (A.getD r 0))) := fun W hb => (HIX.out W hb).dat.drop _
      have HFR : Hid (fr13 z A r = n - A.getD r 0 - lv13 z A r) := by show _ = _; unfold fr13; rw [hn.out]
      have HKT : Hid (∀ k2, k = ks13 z A r + k2 → kt13 z A k r = (z.drop (A.getD r 0)).take (lv13 z A r + k2 + 1)) := fun k2 e => by unfold kt13; rw [show k - ks13 z A r = k2 by omega]
      clear hI RW
      generalize hpp : A.getD r 0 = p at *
      generalize hvv : lv13 z A r = v at *
      clear hpp hvv
      obtain ⟨fr, hfr⟩ : ∃ fr, fr = n - p - v := ⟨_, rfl⟩
      have hsub : ((n - p : Nat) : Int) - (v : Int) = (fr : Int) := by omega
      have l1 : p ≤ n := by omega
      have l3 : ¬ dc = p := by omega
      have hvb : v ≤ 16777216 := by omega
      by_cases h2 : k2 < fr
      · have h2i : (k2 : Int) < (fr : Int) := by omega
        have HKR : Hid (Kr13 z A k r) := ⟨by rw [hn.out]; exact h1, by have := HK.out; omega, by rw [HFR.out]; have := HK.out; omega⟩
        have HL2 : Hid (kt13 z A k r = (z.drop p).take (v + k2 + 1)) := HKT.out k2 HK.out
        have HLN : Hid (((z.drop p).take (v + k2 + 1)).length = v + k2 + 1) := by show _ = _; rw [List.length_take, List.length_drop, hn.out]; omega
        have HCL : Hid (∀ W, Below w.heap.size w W → Calls Try.prog 45 #[.slice (some ⟨xb, off + p, none⟩) (v + k2 + 1) (dc - p)] W fun e w' => ∃ ra rc, e = .returned (.slice ra (v + k2 + 1) rc) ∧ (ra = none → rc = 0 ∧ (some ⟨xb, off + p, none⟩ : Option Addr) = none) ∧ w'.ownsRow W.heap.size 5 1 (.slice ra (v + k2 + 1) rc) (v + k2 + 1) (((z.drop p).take (v + k2 + 1)).map (Value.int .u8)) ∧ Below W.heap.size W w') := fun W hb => pclb13 (some ⟨xb, off + p, none⟩) ((z.drop p).take (v + k2 + 1)) (v + k2 + 1) (dc - p) W ((HSG.out W hb).take _) HLN (by intro h; cases h) (by omega)
        have m1 : v + k2 + 1 ≤ dc - p := by omega
        have m1i : (v : Int) + (k2 : Int) + 1 ≤ ((dc - p : Nat) : Int) := by omega
        clear HKT HFR hfr HK
        go_wp2_with fail
        go_quiet (fail)
        have BD : Below w.heap.size w (wr.drewN nq) := BW.trans ⟨rfl, rfl, rfl, Nat.le_refl _, fun _ _ => rfl⟩
        go_wp2_with (first
          | (go_at_call 45; refine (HCL.out _ BD).mono ?_; rintro e9 w9 ⟨ra, rc, rfl, -, o9, B9⟩))
        refine bodyPost_ret (results_tmp2 rfl _ _ _) rfl ?_
        refine Or.inl ⟨r, ra, rc, HKR.out, ?_⟩
        rw [HL2.out, HLN.out]
        exact ⟨rfl, own_base o9 BD.size, BD.trans (B9.mono BD.size)⟩
      · have h2i : ¬ (k2 : Int) < (fr : Int) := by omega
        have HKN : Hid (k = ks13 z A (r + 1) + (k2 - fr)) := by
          show k = ks13 z A r + fr13 z A r + (k2 - fr)
          rw [HFR.out, ← hfr]
          have := HK.out
          omega
        have es : (k2 : Int) - (fr : Int) = ((k2 - fr : Nat) : Int) := by omega
        clear HKT HFR HK hfr
        go_wp2_with fail
        go_quiet (fail)
        go_wp2_with fail
        go_roundw
        case rel => exact ⟨r + 1, k2 - fr, by omega, by first | rfl | (rw [es]) | go_num, by go_num, HKN, d + nq, by rw [HD.out]; simp [World.drewN, Nat.add_assoc]⟩
        case measure => simp [intOf]; omega
    · have h1i : ¬ (r : Int) < (n : Int) := by omega
      obtain rfl : r = n := by omega
      go_wp2_with fail
      refine bodyPost_ret (results_tmp2 rfl _ _ _) rfl ?_
      exact Or.inr ⟨by rw [hn.out]; have := HK.out; omega, rfl, BW⟩
end Go.Proofs.Ytkggfeipcmfghaa
