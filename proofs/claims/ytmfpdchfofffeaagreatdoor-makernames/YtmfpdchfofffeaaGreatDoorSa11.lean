import Derived.Test.YtmfpdchfofffeaaGreatDoorSa10
namespace Go.Proofs.YtmfpdchfofffeaaGreatDoor
open Go.RowKit
set_option linter.unusedVariables false
noncomputable def il12 (s : List Int) (o : List Nat) : List Int := (List.range s.length).map (ind12 s.length (S12 s) (sm12 s) o)
theorem il12_len (s : List Int) (o : List Nat) : (il12 s o).length = s.length := by simp [il12]
theorem Li12.lt {w : World} {b : Nat} {a : Option Addr} {n cap : Nat} {s : List Int} {K gs gf gn : Nat} {nx : List Int} (h : Li12 w b a n cap s K gs gf gn nx) : b < w.heap.size := (Array.getElem?_eq_some_iff.1 h.hp).1
/-- A list, and a new row beside it. -/
theorem Lr12.of {w : World} {b : Nat} {a : Option Addr} {n cap : Nat} {s : List Int} {K gs gf gn : Nat} {nx : List Int} (h : Li12 w b a n cap s K gs gf gn nx) {w1 : World} (hb : Below w.heap.size w w1) {R : List Int} (hr : Rz12 w1 w.heap.size R) (hl : R.length = n) : Lr12 w1 b a n cap s K gs gf gn w.heap.size nx R := by
  have hn : h.nr.lt = h.nr.lt := rfl
  have q1 := h.lt
  have q2 := h.sm.lt
  have q3 := h.fr.lt
  have q4 := h.nr.lt
  refine ⟨⟨(hb.block b q1).trans h.hp, h.seg.old hb, h.sm.old hb, h.fr.old hb, h.nr.old hb, h.nxl, h.d1, h.d2, h.d3, h.d4⟩, hr, hl, by omega, by omega, by omega, by omega, fun x off ha hp => ?_⟩
  have := h.seg.lt x off ha hp
  omega
set_option maxRecDepth 100000 in
set_option maxHeartbeats 4000000 in
theorem pind12 (b : Nat) (a : Option Addr) (n cap : Nat) (s : List Int) (K gs gf gn : Nat) (nx : List Int) (oa : Option Addr) (o : List Nat) (m oc : Nat) (w : World) (h : Li12 w b a n cap s K gs gf gn nx) (hW : Wf12 s n K) (ho : Or12 n (sm12 s) o) (hm : Hid (o.length = m)) (hmb : m ≤ 16777216) (hseg : SegZ w oa (nz12 o)) (hoa : ∀ x off, oa = some ⟨x, off, none⟩ → 0 < (nz12 o).length → x ≠ gn) :
    Calls Tryz.prog 164 #[.pointer (some ⟨b, 0, none⟩), .slice oa m oc] w fun e w' => e = .returned (.slice (some ⟨w.heap.size, 0, none⟩) n n) ∧ Rz12 w' w.heap.size (il12 s o) ∧ (∃ nx', Li12 w' b a n cap s K gs gf gn nx') ∧ Kp (fun k => k = gn) w w' := by
  have n24 := hW.n24
  have hn : Hid (s.length = n) := hW.len
  have HM1 := run_make_i12 n (by omega) w
  have q0 := h.c0
  have hal : Below w.heap.size w (w.alloc (.cells (vi12 (List.replicate n 0)) 3)) := (Below.refl _ _).alloc (Nat.le_refl _) _
  have HL1 : Hid (Lr12 (w.alloc (.cells (vi12 (List.replicate n 0)) 3)) b a n cap s K gs gf gn w.heap.size nx (List.replicate n 0)) := Lr12.of h hal (Rz12.new w _) (by simp)
  have HKA : Hid (Kp (Wr12 gn w.heap.size) w (w.alloc (.cells (vi12 (List.replicate n 0)) 3))) := Kp.of_below hal
  have HSEG : Hid (∀ w', Kp (Wr12 gn w.heap.size) w w' → SegZ w' oa (nz12 o)) := fun w' k => hseg.kp k (fun x off hx hp hw => by
    rcases hw with e | e
    · exact hoa x off hx hp e
    · have := hseg.lt x off hx hp; omega)
  have HOA : Hid (∀ x off, oa = some ⟨x, off, none⟩ → 0 < (nz12 o).length → x ≠ gn ∧ x ≠ w.heap.size) := fun x off hx hp => ⟨hoa x off hx hp, by have := hseg.lt x off hx hp; omega⟩
  have HFIN : Hid (∀ w' nx' R', Lr12 w' b a n cap s K gs gf gn w.heap.size nx' R' → Lm12 n s R' nx' (st3_12 n (S12 s) (sm12 s) o n) → Kp (Wr12 gn w.heap.size) w w' → Rz12 w' w.heap.size (il12 s o) ∧ (∃ nx', Li12 w' b a n cap s K gs gf gn nx') ∧ Kp (fun k => k = gn) w w') := by
    intro w' nx' R' L M k
    refine ⟨?_, ⟨nx', L.li⟩, k.mono (fun i hi e => ?_)⟩
    · have e : R' = il12 s o := by
        refine ext12 (d := 0) (by rw [L.rl, il12_len, hn.out]) fun q hq => ?_
        rw [L.rl] at hq
        have h1 := M.row (n - 1 - q) (by omega)
        rw [show n - 1 - (n - 1 - q) = q by omega] at h1
        rw [h1]
        have hq2 : q < s.length := by rw [hn.out]; exact hq
        have : (il12 s o).getD q 0 = ind12 s.length (S12 s) (sm12 s) o q := by simp [il12, List.getD, hq2]
        rw [this, hn.out]
        rfl
      rw [← e]; exact L.row
    · rcases e with e | e
      · exact e
      · omega
  have hty : Ty12 n (S12 s) (sm12 s) := by have := ty12 s; rw [hn.out] at this; exact this
  have HP1 : Hid (∀ w' R', Lr12 w' b a n cap s K gs gf gn w.heap.size nx R' → (∀ q, q < n → R'.getD q 0 = -1) → Kp (Wr12 gn w.heap.size) w w' → Calls Tryz.prog 193 #[.pointer (some ⟨b, 0, none⟩), .slice (some ⟨w.heap.size, 0, none⟩) n n, .slice oa m oc] w' fun e w2 => e = .returned (.tuple #[]) ∧ ∃ nx2 R2, Lr12 w2 b a n cap s K gs gf gn w.heap.size nx2 R2 ∧ Lm12 n s R2 nx2 (ps12 n (S12 s) o) ∧ Kp (Wr12 gn w.heap.size) w' w2) :=
    fun w' R' L hR k => ppt12 b a n cap s K gs gf gn w.heap.size nx R' oa o m oc w' L hW hR ho hm hmb (HSEG.out w' k) HOA.out
  have HP2 : Hid (∀ w' nx' R', Lr12 w' b a n cap s K gs gf gn w.heap.size nx' R' → Lm12 n s R' nx' (ps12 n (S12 s) o) → Calls Tryz.prog 194 #[.pointer (some ⟨b, 0, none⟩), .slice (some ⟨w.heap.size, 0, none⟩) n n] w' fun e w2 => e = .returned (.tuple #[]) ∧ ∃ nx2 R2, Lr12 w2 b a n cap s K gs gf gn w.heap.size nx2 R2 ∧ Lk12 n s R2 nx2 (st2_12 n (S12 s) (sm12 s) o n) ∧ Kp (Wr12 gn w.heap.size) w' w2) :=
    fun w' nx' R' L M => ppg12 b a n cap s K gs gf gn w.heap.size nx' R' o w' L hW (fun q hq => by
      have h1 := M.row (n - 1 - q) (by omega)
      rw [show n - 1 - (n - 1 - q) = q by omega] at h1
      exact h1) ho
  have HP3 : Hid (∀ w' nx' R', Lr12 w' b a n cap s K gs gf gn w.heap.size nx' R' → Lk12 n s R' nx' (st2_12 n (S12 s) (sm12 s) o n) → Calls Tryz.prog 195 #[.pointer (some ⟨b, 0, none⟩), .slice (some ⟨w.heap.size, 0, none⟩) n n] w' fun e w2 => e = .returned (.tuple #[]) ∧ ∃ R2, Lr12 w2 b a n cap s K gs gf gn w.heap.size nx' R2 ∧ (∀ q, q < n → R2.getD q 0 = tak12 (sm12 s) (st2_12 n (S12 s) (sm12 s) o n).1 q) ∧ Kp (Wr12 gn w.heap.size) w' w2) :=
    fun w' nx' R' L M => ptk12 b a n cap s K gs gf gn w.heap.size nx' R' _ w' L hW M.row (fun q hq => by
      rcases (st2_t hty ho n (Nat.le_refl n)).st.ok q hq with e | ⟨j, hj, e, _⟩
      · exact Or.inl e
      · exact Or.inr ⟨j, hj, e⟩)
  have HP4 : Hid (∀ w' nx' R', Lr12 w' b a n cap s K gs gf gn w.heap.size nx' R' → (∀ q, q < n → R'.getD q 0 = tak12 (sm12 s) (st2_12 n (S12 s) (sm12 s) o n).1 q) → Calls Tryz.prog 196 #[.pointer (some ⟨b, 0, none⟩), .slice (some ⟨w.heap.size, 0, none⟩) n n] w' fun e w2 => e = .returned (.tuple #[]) ∧ ∃ nx2 R2, Lr12 w2 b a n cap s K gs gf gn w.heap.size nx2 R2 ∧ Lm12 n s R2 nx2 (st3_12 n (S12 s) (sm12 s) o n) ∧ Kp (Wr12 gn w.heap.size) w' w2) :=
    fun w' nx' R' L hR => pps12 b a n cap s K gs gf gn w.heap.size nx' R' o w' L hW hR ho
  clear h hseg hoa hal hty hW ho HSEG HOA
  generalize hg : w.heap.size = g at *
  generalize hw1 : w.alloc (.cells (vi12 (List.replicate n 0)) 3) = w1 at *
  clear hg hw1
  go_enter Tryz.func164, Tryz.ntmps164
  go_wp2_with fail
  go_loopw [15] (fun ti wr => ∃ (p : Nat) (R' : List Int), p ≤ n ∧ ti = .int .i64 p ∧ Lr12 wr b a n cap s K gs gf gn g nx R' ∧ Hid (∀ q, q < p → R'.getD q 0 = -1) ∧ Kp (Wr12 gn g) w wr) (fun ti _ => n - (intOf ti).toNat)
  case atStart => exact ⟨0, _, Nat.zero_le _, rfl, HL1.out, (fun q hq => by omega : ∀ q, q < 0 → _), HKA.out⟩
  case round =>
    obtain ⟨p, R', hp, rfl, LR, HQ, KB⟩ := hrel
    by_cases h1 : p < n
    · have h1i : (p : Int) < (n : Int) := by omega
      have c1 := LR.row.cell (i := p) (by rw [LR.rl]; omega)
      have f1 := LR.row.free p
      generalize R'.getD p 0 = y at c1
      have HLR2 : Hid (Lr12 (wr.setCell ⟨g, p, none⟩ (.int .i64 (-1))) b a n cap s K gs gf gn g nx (R'.set p (-1))) := LR.setR p (-1)
      have HKB : Hid (Kp (Wr12 gn g) w (wr.setCell ⟨g, p, none⟩ (.int .i64 (-1)))) := KB.trans (Kp.set (S := Wr12 gn g) (Or.inr rfl) _) (fun _ _ e => e)
      have HQ2 : Hid (∀ q, q < p + 1 → (R'.set p (-1)).getD q 0 = -1) := by
        intro q hq
        rw [getD_set12 _ _ _ _ (by rw [LR.rl]; omega)]
        by_cases e : q = p
        · rw [if_pos e]
        · rw [if_neg e]; exact HQ.out q (by omega)
      clear LR HQ
      go_wp2_with fail
      go_roundw
      case rel => exact ⟨p + 1, _, by omega, by go_num, HLR2.out, HQ2.out, HKB.out⟩
      case measure => simp [intOf]; omega
    · have h1i : ¬ (p : Int) < (n : Int) := by omega
      obtain rfl : p = n := by omega
      go_wp2_with (first
        | (go_at_call 193; refine (HP1.out _ R' LR HQ.out KB).mono ?_; rintro e1 wA ⟨rfl, nA, RA, LA, MA, KA⟩)
        | (go_at_call 194; refine (HP2.out _ nA RA LA MA).mono ?_; rintro e2 wB ⟨rfl, nB, RB, LB, MB, KC⟩)
        | (go_at_call 195; refine (HP3.out _ nB RB LB MB).mono ?_; rintro e3 wC ⟨rfl, RC, LC, MC, KD⟩)
        | (go_at_call 196; refine (HP4.out _ nB RC LC MC).mono ?_; rintro e4 wD ⟨rfl, nD, RD, LD, MD, KE⟩))
      go_ret
      exact ⟨rfl, HFIN.out _ nD RD LD MD ((((KB.trans KA (fun _ _ e => e)).trans KC (fun _ _ e => e)).trans KD (fun _ _ e => e)).trans KE (fun _ _ e => e))⟩
end Go.Proofs.YtmfpdchfofffeaaGreatDoor
