import Derived.Test.YtbjjddoeilhomaaPl
import Derived.Test.YtbjjddoeilhomaaPd
import Derived.Laws.MakeOwn
namespace Go.Proofs.Ytbjjddoeilhomaa
open Go.RowKit
set_option linter.unusedVariables false

/-! The landed induce. -/
noncomputable def il12 (s : List Int) (o : List Nat) : List Int := (List.range s.length).map (ind12 s.length (S12 s) (sm12 s) o)
theorem il12_len (s : List Int) (o : List Nat) : (il12 s o).length = s.length := by simp [il12]
theorem Li12.kp1 {w w' : World} {b : Nat} {a : Option Addr} {n cap : Nat} {s : List Int} {K gs gf gn : Nat} {nx nx' : List Int} (h : Li12 w b a n cap s K gs gf gn nx) (hk : Kp (fun k => k = gn) w w') (h1 : Rz12 w' gn nx') (l1 : nx'.length = K) : Li12 w' b a n cap s K gs gf gn nx' :=
  ⟨hk.heap h.hp h.d1, h.seg.kp hk (fun x off ha hp => h.d4 x off ha hp), h.sm.kp hk h.d2, h.fr.kp hk h.d3, h1, l1, h.d1, h.d2, h.d3, h.d4⟩
theorem Li12.lt {w : World} {b : Nat} {a : Option Addr} {n cap : Nat} {s : List Int} {K gs gf gn : Nat} {nx : List Int} (h : Li12 w b a n cap s K gs gf gn nx) : b < w.heap.size := (Array.getElem?_eq_some_iff.1 h.hp).1
/-- A list, and a new row beside it. -/
theorem Lr12.of {w : World} {b : Nat} {a : Option Addr} {n cap : Nat} {s : List Int} {K gs gf gn : Nat} {nx : List Int} (h : Li12 w b a n cap s K gs gf gn nx) {w1 : World} (hb : Below w.heap.size w w1) {R : List Int} (hr : Rz12 w1 w.heap.size R) (hl : R.length = n) : Lr12 w1 b a n cap s K gs gf gn w.heap.size nx R := by
  have hn : h.nr.lt = h.nr.lt := rfl
  have q1 := h.lt
  have q2 := h.sm.lt
  have q3 := h.fr.lt
  have q4 := h.nr.lt
  refine ⟨⟨(hb.block b q1).trans h.hp, h.seg.old hb, h.sm.old hb, h.fr.old hb, h.nr.old hb, h.nxl, h.d1, h.d2, h.d3, h.d4⟩, hr, hl, by omega, by omega, by omega, by omega, fun x off ha hp => ?_⟩
  have := h.seg.lt x off ha hp
  omega
set_option maxRecDepth 100000 in
set_option maxHeartbeats 4000000 in
theorem pind12 (b : Nat) (a : Option Addr) (n cap : Nat) (s : List Int) (K gs gf gn : Nat) (nx : List Int) (oa : Option Addr) (o : List Nat) (m oc : Nat) (w : World) (h : Li12 w b a n cap s K gs gf gn nx) (hW : Wf12 s n K) (ho : Or12 n (sm12 s) o) (hm : Hid (o.length = m)) (hmb : m ≤ 16777216) (hseg : SegZ w oa (nz12 o)) (hoa : ∀ x off, oa = some ⟨x, off, none⟩ → 0 < (nz12 o).length → x ≠ gn) :
    Calls Try.prog 73 #[.pointer (some ⟨b, 0, none⟩), .slice oa m oc] w fun e w' => e = .returned (.slice (some ⟨w.heap.size, 0, none⟩) n n) ∧ Rz12 w' w.heap.size (il12 s o) ∧ (∃ nx', Li12 w' b a n cap s K gs gf gn nx') ∧ Kp (fun k => k = gn) w w' := by
  have n24 := hW.n24
  have hn : Hid (s.length = n) := hW.len
  have HM1 := run_make_i12 n (by omega) w
  have q0 := h.c0
  have hal : Below w.heap.size w (w.alloc (.cells (vi12 (List.replicate n 0)) 3)) := (Below.refl _ _).alloc (Nat.le_refl _) _
  have HL1 : Hid (Lr12 (w.alloc (.cells (vi12 (List.replicate n 0)) 3)) b a n cap s K gs gf gn w.heap.size nx (List.replicate n 0)) := Lr12.of h hal (Rz12.new w _) (by simp)
  have HKA : Hid (Kp (Wr12 gn w.heap.size) w (w.alloc (.cells (vi12 (List.replicate n 0)) 3))) := Kp.of_below hal
  have HSEG : Hid (∀ w', Kp (Wr12 gn w.heap.size) w w' → SegZ w' oa (nz12 o)) := fun w' k => hseg.kp k (fun x off hx hp hw => by
    rcases hw with e | e
    · exact hoa x off hx hp e
    · have := hseg.lt x off hx hp; omega)
  have HOA : Hid (∀ x off, oa = some ⟨x, off, none⟩ → 0 < (nz12 o).length → x ≠ gn ∧ x ≠ w.heap.size) := fun x off hx hp => ⟨hoa x off hx hp, by have := hseg.lt x off hx hp; omega⟩
  have HFIN : Hid (∀ w' nx' R', Lr12 w' b a n cap s K gs gf gn w.heap.size nx' R' → Lm12 n s R' nx' (st3_12 n (S12 s) (sm12 s) o n) → Kp (Wr12 gn w.heap.size) w w' → Rz12 w' w.heap.size (il12 s o) ∧ (∃ nx', Li12 w' b a n cap s K gs gf gn nx') ∧ Kp (fun k => k = gn) w w') := by
    intro w' nx' R' L M k
    refine ⟨?_, ⟨nx', L.li⟩, k.mono (fun i hi e => ?_)⟩
    · have e : R' = il12 s o := by
        refine ext12 (d := 0) (by rw [L.rl, il12_len, hn.out]) fun q hq => ?_
        rw [L.rl] at hq
        have h1 := M.row (n - 1 - q) (by omega)
        rw [show n - 1 - (n - 1 - q) = q by omega] at h1
        rw [h1]
        have hq2 : q < s.length := by rw [hn.out]; exact hq
        have : (il12 s o).getD q 0 = ind12 s.length (S12 s) (sm12 s) o q := by simp [il12, List.getD, hq2]
        rw [this, hn.out]
        rfl
      rw [← e]; exact L.row
    · rcases e with e | e
      · exact e
      · omega
  have hty : Ty12 n (S12 s) (sm12 s) := by have := ty12 s; rw [hn.out] at this; exact this
  have HP1 : Hid (∀ w' R', Lr12 w' b a n cap s K gs gf gn w.heap.size nx R' → (∀ q, q < n → R'.getD q 0 = -1) → Kp (Wr12 gn w.heap.size) w w' → Calls Try.prog 87 #[.pointer (some ⟨b, 0, none⟩), .slice (some ⟨w.heap.size, 0, none⟩) n n, .slice oa m oc] w' fun e w2 => e = .returned (.tuple #[]) ∧ ∃ nx2 R2, Lr12 w2 b a n cap s K gs gf gn w.heap.size nx2 R2 ∧ Lm12 n s R2 nx2 (ps12 n (S12 s) o) ∧ Kp (Wr12 gn w.heap.size) w' w2) :=
    fun w' R' L hR k => ppt12 b a n cap s K gs gf gn w.heap.size nx R' oa o m oc w' L hW hR ho hm hmb (HSEG.out w' k) HOA.out
  have HP2 : Hid (∀ w' nx' R', Lr12 w' b a n cap s K gs gf gn w.heap.size nx' R' → Lm12 n s R' nx' (ps12 n (S12 s) o) → Calls Try.prog 88 #[.pointer (some ⟨b, 0, none⟩), .slice (some ⟨w.heap.size, 0, none⟩) n n] w' fun e w2 => e = .returned (.tuple #[]) ∧ ∃ nx2 R2, Lr12 w2 b a n cap s K gs gf gn w.heap.size nx2 R2 ∧ Lk12 n s R2 nx2 (st2_12 n (S12 s) (sm12 s) o n) ∧ Kp (Wr12 gn w.heap.size) w' w2) :=
    fun w' nx' R' L M => ppg12 b a n cap s K gs gf gn w.heap.size nx' R' o w' L hW (fun q hq => by
      have h1 := M.row (n - 1 - q) (by omega)
      rw [show n - 1 - (n - 1 - q) = q by omega] at h1
      exact h1) ho
  have HP3 : Hid (∀ w' nx' R', Lr12 w' b a n cap s K gs gf gn w.heap.size nx' R' → Lk12 n s R' nx' (st2_12 n (S12 s) (sm12 s) o n) → Calls Try.prog 89 #[.pointer (some ⟨b, 0, none⟩), .slice (some ⟨w.heap.size, 0, none⟩) n n] w' fun e w2 => e = .returned (.tuple #[]) ∧ ∃ R2, Lr12 w2 b a n cap s K gs gf gn w.heap.size nx' R2 ∧ (∀ q, q < n → R2.getD q 0 = tak12 (sm12 s) (st2_12 n (S12 s) (sm12 s) o n).1 q) ∧ Kp (Wr12 gn w.heap.size) w' w2) :=
    fun w' nx' R' L M => ptk12 b a n cap s K gs gf gn w.heap.size nx' R' _ w' L hW M.row (fun q hq => by
      rcases (st2_t hty ho n (Nat.le_refl n)).st.ok q hq with e | ⟨j, hj, e, _⟩
      · exact Or.inl e
      · exact Or.inr ⟨j, hj, e⟩)
  have HP4 : Hid (∀ w' nx' R', Lr12 w' b a n cap s K gs gf gn w.heap.size nx' R' → (∀ q, q < n → R'.getD q 0 = tak12 (sm12 s) (st2_12 n (S12 s) (sm12 s) o n).1 q) → Calls Try.prog 90 #[.pointer (some ⟨b, 0, none⟩), .slice (some ⟨w.heap.size, 0, none⟩) n n] w' fun e w2 => e = .returned (.tuple #[]) ∧ ∃ nx2 R2, Lr12 w2 b a n cap s K gs gf gn w.heap.size nx2 R2 ∧ Lm12 n s R2 nx2 (st3_12 n (S12 s) (sm12 s) o n) ∧ Kp (Wr12 gn w.heap.size) w' w2) :=
    fun w' nx' R' L hR => pps12 b a n cap s K gs gf gn w.heap.size nx' R' o w' L hW hR ho
  clear h hseg hoa hal hty hW ho HSEG HOA
  generalize hg : w.heap.size = g at *
  generalize hw1 : w.alloc (.cells (vi12 (List.replicate n 0)) 3) = w1 at *
  clear hg hw1
  go_enter Try.func73, Try.ntmps73
  go_wp2_with fail
  go_loopw [15] (fun ti wr => ∃ (p : Nat) (R' : List Int), p ≤ n ∧ ti = .int .i64 p ∧ Lr12 wr b a n cap s K gs gf gn g nx R' ∧ Hid (∀ q, q < p → R'.getD q 0 = -1) ∧ Kp (Wr12 gn g) w wr) (fun ti _ => n - (intOf ti).toNat)
  case atStart => exact ⟨0, _, Nat.zero_le _, rfl, HL1.out, (fun q hq => by omega : ∀ q, q < 0 → _), HKA.out⟩
  case round =>
    obtain ⟨p, R', hp, rfl, LR, HQ, KB⟩ := hrel
    by_cases h1 : p < n
    · have h1i : (p : Int) < (n : Int) := by omega
      have c1 := LR.row.cell (i := p) (by rw [LR.rl]; omega)
      have f1 := LR.row.free p
      generalize R'.getD p 0 = y at c1
      have HLR2 : Hid (Lr12 (wr.setCell ⟨g, p, none⟩ (.int .i64 (-1))) b a n cap s K gs gf gn g nx (R'.set p (-1))) := LR.setR p (-1)
      have HKB : Hid (Kp (Wr12 gn g) w (wr.setCell ⟨g, p, none⟩ (.int .i64 (-1)))) := KB.trans (Kp.set (S := Wr12 gn g) (Or.inr rfl) _) (fun _ _ e => e)
      have HQ2 : Hid (∀ q, q < p + 1 → (R'.set p (-1)).getD q 0 = -1) := by
        intro q hq
        rw [getD_set12 _ _ _ _ (by rw [LR.rl]; omega)]
        by_cases e : q = p
        · rw [if_pos e]
        · rw [if_neg e]; exact HQ.out q (by omega)
      clear LR HQ
      go_wp2_with fail
      go_roundw
      case rel => exact ⟨p + 1, _, by omega, by go_num, HLR2.out, HQ2.out, HKB.out⟩
      case measure => simp [intOf]; omega
    · have h1i : ¬ (p : Int) < (n : Int) := by omega
      obtain rfl : p = n := by omega
      go_wp2_with (first
        | (go_at_call 87; refine (HP1.out _ R' LR HQ.out KB).mono ?_; rintro e1 wA ⟨rfl, nA, RA, LA, MA, KA⟩)
        | (go_at_call 88; refine (HP2.out _ nA RA LA MA).mono ?_; rintro e2 wB ⟨rfl, nB, RB, LB, MB, KC⟩)
        | (go_at_call 89; refine (HP3.out _ nB RB LB MB).mono ?_; rintro e3 wC ⟨rfl, RC, LC, MC, KD⟩)
        | (go_at_call 90; refine (HP4.out _ nB RC LC MC).mono ?_; rintro e4 wD ⟨rfl, nD, RD, LD, MD, KE⟩))
      go_ret
      exact ⟨rfl, HFIN.out _ nD RD LD MD ((((KB.trans KA (fun _ _ e => e)).trans KC (fun _ _ e => e)).trans KD (fun _ _ e => e)).trans KE (fun _ _ e => e))⟩
end Go.Proofs.Ytbjjddoeilhomaa

namespace Go.Proofs.Ytbjjddoeilhomaa
open Go.RowKit
set_option linter.unusedVariables false

/-! The landed alike and turnsOf. -/
def AlQ12 (w : World) (P : Prop) (e : Ending) (w' : World) : Prop := ∃ B : Bool, e = .returned (.bool B) ∧ (B = true ↔ P) ∧ Below w.heap.size w w'
set_option maxRecDepth 100000 in
set_option maxHeartbeats 4000000 in
theorem pal12 (b : Nat) (a : Option Addr) (n cap : Nat) (s : List Int) (K gs gf gn : Nat) (nx : List Int) (x y : Nat) (w : World) (h : Li12 w b a n cap s K gs gf gn nx) (hW : Wf12 s n K) (hx : x < n) (hy : y < n) (hne : x ≠ y) :
    Calls Try.prog 103 #[.pointer (some ⟨b, 0, none⟩), .int .i64 (x : Int), .int .i64 (y : Int)] w (AlQ12 w (key12 n (S12 s) (sm12 s) x = key12 n (S12 s) (sm12 s) y)) := by
  have n24 := hW.n24
  have hn : Hid (s.length = n) := hW.len
  have HC0 : Hid (∀ w', Below w.heap.size w w' → w'.cell? ⟨b, 0, none⟩ = some (.slice a n cap) ∧ w'.cell? ⟨b, 1, none⟩ = some (.slice (some ⟨gs, 0, none⟩) n n)) := fun w' hb => by
    have q := (hb.block b h.lt).trans h.hp
    exact ⟨by simp [World.cell?, q], by simp [World.cell?, q]⟩
  have HSG : Hid (∀ w', Below w.heap.size w w' → SegZ w' a s) := fun w' hb => h.seg.old hb
  have HSM : Hid (∀ w', Below w.heap.size w w' → Rb12 w' gs (typ12 s)) := fun w' hb => h.sm.old hb
  obtain ⟨q0, q1⟩ := HC0.out w (Below.refl _ _)
  have HTI : Hid (∀ w' i, Below w.heap.size w w' → x + i < n → Calls Try.prog 102 #[.slice (some ⟨gs, 0, none⟩) n n, .int .i64 ((x : Int) + (i : Int))] w' fun e w2 => e = .returned (.bool (tb12 (sm12 s) (x + i))) ∧ Below w'.heap.size w' w2) := by
    intro w' i hb hi
    have := pist12 (some ⟨gs, 0, none⟩) (typ12 s) n n (x + i) w' (HSM.out w' hb).seg (by show _ = _; rw [typ12_len, hn.out]) hi (by omega)
    rw [show (((x + i : Nat)) : Int) = (x : Int) + (i : Int) by omega, show gb12 (typ12 s) = sm12 s from funext (typ12_get s)] at this
    exact this
  have hxi : (x : Int) < 16777216 := by omega
  have hyi : (y : Int) < 16777216 := by omega
  clear h hW
  rcases Nat.lt_trichotomy x y with hxy | hxy | hxy
  · have hxyi : (x : Int) < (y : Int) := by omega
    go_enter Try.func103, Try.ntmps103
    go_wp2_with fail
    go_loopw [17] (fun ti wr => ∃ i : Nat, i + y ≤ n ∧ ti = .int .i64 i ∧ Hid (Al12 n (S12 s) (sm12 s) x y i) ∧ Below w.heap.size w wr) (fun ti _ => n - (intOf ti).toNat)
    case atStart => exact ⟨0, by omega, rfl, Al12.zero _ _ _ _ _, Below.refl _ _⟩
    case round =>
      obtain ⟨i, hi, rfl, HA, hb⟩ := hrel
      by_cases h1 : i + y < n
      · have h1i : (i : Int) < (n : Int) - (y : Int) := by omega
        have hxi2 : (x : Int) + (i : Int) < (n : Int) := by omega
        have hyi2 : (y : Int) + (i : Int) < (n : Int) := by omega
        obtain ⟨r0, r1⟩ := HC0.out wr hb
        have hsg := HSG.out wr hb
        have hsm := HSM.out wr hb
        obtain ⟨ab, off, rfl, c1⟩ := hsg.at_ (x + i) (by rw [hn.out]; omega)
        have c2 : wr.cell? ⟨ab, off + (y + i), none⟩ = some (.int .i64 (s.getD (y + i) 0)) := by
          obtain ⟨b', off', ha, c⟩ := hsg.at_ (y + i) (by rw [hn.out]; omega)
          cases ha
          exact c
        have c3 := hsm.cell (i := x + i) (by rw [typ12_len, hn.out]; omega)
        have c4 := hsm.cell (i := y + i) (by rw [typ12_len, hn.out]; omega)
        rw [typ12_get] at c3 c4
        have bd1 := hsg.bd (x + i)
        have bd2 := hsg.bd (y + i)
        have HDF : Hid (¬ (S12 s (x + i) = S12 s (y + i) ∧ sm12 s (x + i) = sm12 s (y + i)) → ¬ key12 n (S12 s) (sm12 s) x = key12 n (S12 s) (sm12 s) y) := HA.out.diff (by omega) (by omega)
        have HEQ : Hid (S12 s (x + i) = s.getD (x + i) 0 ∧ S12 s (y + i) = s.getD (y + i) 0) := ⟨rfl, rfl⟩
        clear hsg hsm
        generalize s.getD (x + i) 0 = v1 at *
        generalize s.getD (y + i) 0 = v2 at *
        by_cases hv : v1 = v2
        · subst hv
          by_cases ht : sm12 s (x + i) = sm12 s (y + i)
          · have HST : Hid ((0 < i → ¬ tn12 (sm12 s) (x + i)) → Al12 n (S12 s) (sm12 s) x y (i + 1)) := HA.out.step (by omega) (by omega) (by rw [HEQ.out.1, HEQ.out.2]) ht
            have HTN : Hid (0 < i → tn12 (sm12 s) (x + i) → key12 n (S12 s) (sm12 s) x = key12 n (S12 s) (sm12 s) y) := fun p q => HA.out.turn p (by omega) (by omega) (by rw [HEQ.out.1, HEQ.out.2]) ht q
            rw [← ht] at c4
            have HT2 := HTI.out wr.drew i hb.drew (by omega)
            clear ht
            have HTB : Hid (tb12 (sm12 s) (x + i) = true ↔ tn12 (sm12 s) (x + i)) := tb12_iff
            generalize sm12 s (x + i) = t1 at c3 c4
            by_cases h0 : i = 0
            · subst h0
              have c1b : wr.cell? ⟨ab, off + x, none⟩ = some (.int .i64 v1) := c1
              have c2b : wr.cell? ⟨ab, off + y, none⟩ = some (.int .i64 v1) := c2
              have c3b : wr.cell? ⟨gs, x, none⟩ = some (.bool t1) := c3
              have c4b : wr.cell? ⟨gs, y, none⟩ = some (.bool t1) := c4
              cases t1 <;>
              · go_wp2_with fail
                go_region
                go_wp2_with fail
                go_roundw
                case rel => exact ⟨1, by omega, by go_num, HST.out (fun q => by omega), hb.drew⟩
                case measure => simp [intOf]; omega
            · have h0i : (0 : Int) < (i : Int) := by omega
              have h0n : 0 < i := by omega
              generalize tb12 (sm12 s) (x + i) = t2 at *
              cases t2
              · cases t1 <;>
                · go_wp2_with fail
                  go_region
                  go_wp2_with fail
                  refine HT2.mono ?_
                  rintro e2 w2 ⟨rfl, B2⟩
                  go_wp2_with fail
                  go_roundw
                  case rel => exact ⟨i + 1, by omega, by go_num, HST.out (fun _ q => by have := HTB.out.2 q; cases this), hb.drew.trans (B2.mono hb.drew.size)⟩
                  case measure => simp [intOf]; omega
              · cases t1 <;>
                · go_wp2_with fail
                  go_region
                  go_wp2_with fail
                  refine HT2.mono ?_
                  rintro e2 w2 ⟨rfl, B2⟩
                  go_wp2_with fail
                  go_ret
                  exact ⟨true, rfl, ⟨fun _ => HTN.out (by omega) (HTB.out.1 (by first | trivial | rfl)), fun _ => rfl⟩, hb.drew.trans (B2.mono hb.drew.size)⟩
          · have HNO : Hid (¬ key12 n (S12 s) (sm12 s) x = key12 n (S12 s) (sm12 s) y) := HDF.out (fun q => ht q.2)
            generalize sm12 s (x + i) = t1 at *
            generalize sm12 s (y + i) = t2 at *
            cases t1 <;> cases t2 <;> first
              | exact absurd rfl ht
              | (go_wp2_with fail
                 go_region
                 go_wp2_with fail
                 go_ret
                 exact ⟨false, rfl, ⟨fun q => (by cases q), fun q => absurd q HNO.out⟩, hb.drew⟩)
        · have HNO : Hid (¬ key12 n (S12 s) (sm12 s) x = key12 n (S12 s) (sm12 s) y) := HDF.out (fun q => hv (by rw [← HEQ.out.1, ← HEQ.out.2]; exact q.1))
          have hv2 : (v1 == v2) = false := by simp [hv]
          have hv3 : decide (v1 = v2) = false := by simp [hv]
          have hv4 : (v1 != v2) = true := by simp [hv]
          have hv5 : decide (¬ v1 = v2) = true := by simp [hv]
          go_wp2_with fail
          go_region
          go_wp2_with fail
          go_ret
          exact ⟨false, rfl, ⟨fun q => (by cases q), fun q => absurd q HNO.out⟩, hb.drew⟩
      · have h1i : ¬ (i : Int) < (n : Int) - (y : Int) := by omega
        have HNO : Hid (¬ key12 n (S12 s) (sm12 s) x = key12 n (S12 s) (sm12 s) y) := HA.out.fin hx hy hne (by omega) (by omega) (by omega)
        go_wp2_with fail
        go_ret
        exact ⟨false, rfl, ⟨fun q => (by cases q), fun q => absurd q HNO.out⟩, hb⟩
  · exact absurd hxy hne
  · have hxyi : (y : Int) < (x : Int) := by omega
    go_enter Try.func103, Try.ntmps103
    go_wp2_with fail
    go_loopw [17] (fun ti wr => ∃ i : Nat, i + x ≤ n ∧ ti = .int .i64 i ∧ Hid (Al12 n (S12 s) (sm12 s) x y i) ∧ Below w.heap.size w wr) (fun ti _ => n - (intOf ti).toNat)
    case atStart => exact ⟨0, by omega, rfl, Al12.zero _ _ _ _ _, Below.refl _ _⟩
    case round =>
      obtain ⟨i, hi, rfl, HA, hb⟩ := hrel
      by_cases h1 : i + x < n
      · have h1i : (i : Int) < (n : Int) - (x : Int) := by omega
        have hxi2 : (x : Int) + (i : Int) < (n : Int) := by omega
        have hyi2 : (y : Int) + (i : Int) < (n : Int) := by omega
        obtain ⟨r0, r1⟩ := HC0.out wr hb
        have hsg := HSG.out wr hb
        have hsm := HSM.out wr hb
        obtain ⟨ab, off, rfl, c1⟩ := hsg.at_ (x + i) (by rw [hn.out]; omega)
        have c2 : wr.cell? ⟨ab, off + (y + i), none⟩ = some (.int .i64 (s.getD (y + i) 0)) := by
          obtain ⟨b', off', ha, c⟩ := hsg.at_ (y + i) (by rw [hn.out]; omega)
          cases ha
          exact c
        have c3 := hsm.cell (i := x + i) (by rw [typ12_len, hn.out]; omega)
        have c4 := hsm.cell (i := y + i) (by rw [typ12_len, hn.out]; omega)
        rw [typ12_get] at c3 c4
        have bd1 := hsg.bd (x + i)
        have bd2 := hsg.bd (y + i)
        have HDF : Hid (¬ (S12 s (x + i) = S12 s (y + i) ∧ sm12 s (x + i) = sm12 s (y + i)) → ¬ key12 n (S12 s) (sm12 s) x = key12 n (S12 s) (sm12 s) y) := HA.out.diff (by omega) (by omega)
        have HEQ : Hid (S12 s (x + i) = s.getD (x + i) 0 ∧ S12 s (y + i) = s.getD (y + i) 0) := ⟨rfl, rfl⟩
        clear hsg hsm
        generalize s.getD (x + i) 0 = v1 at *
        generalize s.getD (y + i) 0 = v2 at *
        by_cases hv : v1 = v2
        · subst hv
          by_cases ht : sm12 s (x + i) = sm12 s (y + i)
          · have HST : Hid ((0 < i → ¬ tn12 (sm12 s) (x + i)) → Al12 n (S12 s) (sm12 s) x y (i + 1)) := HA.out.step (by omega) (by omega) (by rw [HEQ.out.1, HEQ.out.2]) ht
            have HTN : Hid (0 < i → tn12 (sm12 s) (x + i) → key12 n (S12 s) (sm12 s) x = key12 n (S12 s) (sm12 s) y) := fun p q => HA.out.turn p (by omega) (by omega) (by rw [HEQ.out.1, HEQ.out.2]) ht q
            rw [← ht] at c4
            have HT2 := HTI.out wr.drew i hb.drew (by omega)
            clear ht
            have HTB : Hid (tb12 (sm12 s) (x + i) = true ↔ tn12 (sm12 s) (x + i)) := tb12_iff
            generalize sm12 s (x + i) = t1 at c3 c4
            by_cases h0 : i = 0
            · subst h0
              have c1b : wr.cell? ⟨ab, off + x, none⟩ = some (.int .i64 v1) := c1
              have c2b : wr.cell? ⟨ab, off + y, none⟩ = some (.int .i64 v1) := c2
              have c3b : wr.cell? ⟨gs, x, none⟩ = some (.bool t1) := c3
              have c4b : wr.cell? ⟨gs, y, none⟩ = some (.bool t1) := c4
              cases t1 <;>
              · go_wp2_with fail
                go_region
                go_wp2_with fail
                go_roundw
                case rel => exact ⟨1, by omega, by go_num, HST.out (fun q => by omega), hb.drew⟩
                case measure => simp [intOf]; omega
            · have h0i : (0 : Int) < (i : Int) := by omega
              have h0n : 0 < i := by omega
              generalize tb12 (sm12 s) (x + i) = t2 at *
              cases t2
              · cases t1 <;>
                · go_wp2_with fail
                  go_region
                  go_wp2_with fail
                  refine HT2.mono ?_
                  rintro e2 w2 ⟨rfl, B2⟩
                  go_wp2_with fail
                  go_roundw
                  case rel => exact ⟨i + 1, by omega, by go_num, HST.out (fun _ q => by have := HTB.out.2 q; cases this), hb.drew.trans (B2.mono hb.drew.size)⟩
                  case measure => simp [intOf]; omega
              · cases t1 <;>
                · go_wp2_with fail
                  go_region
                  go_wp2_with fail
                  refine HT2.mono ?_
                  rintro e2 w2 ⟨rfl, B2⟩
                  go_wp2_with fail
                  go_ret
                  exact ⟨true, rfl, ⟨fun _ => HTN.out (by omega) (HTB.out.1 (by first | trivial | rfl)), fun _ => rfl⟩, hb.drew.trans (B2.mono hb.drew.size)⟩
          · have HNO : Hid (¬ key12 n (S12 s) (sm12 s) x = key12 n (S12 s) (sm12 s) y) := HDF.out (fun q => ht q.2)
            generalize sm12 s (x + i) = t1 at *
            generalize sm12 s (y + i) = t2 at *
            cases t1 <;> cases t2 <;> first
              | exact absurd rfl ht
              | (go_wp2_with fail
                 go_region
                 go_wp2_with fail
                 go_ret
                 exact ⟨false, rfl, ⟨fun q => (by cases q), fun q => absurd q HNO.out⟩, hb.drew⟩)
        · have HNO : Hid (¬ key12 n (S12 s) (sm12 s) x = key12 n (S12 s) (sm12 s) y) := HDF.out (fun q => hv (by rw [← HEQ.out.1, ← HEQ.out.2]; exact q.1))
          have hv2 : (v1 == v2) = false := by simp [hv]
          have hv3 : decide (v1 = v2) = false := by simp [hv]
          have hv4 : (v1 != v2) = true := by simp [hv]
          have hv5 : decide (¬ v1 = v2) = true := by simp [hv]
          go_wp2_with fail
          go_region
          go_wp2_with fail
          go_ret
          exact ⟨false, rfl, ⟨fun q => (by cases q), fun q => absurd q HNO.out⟩, hb.drew⟩
      · have h1i : ¬ (i : Int) < (n : Int) - (x : Int) := by omega
        have HNO : Hid (¬ key12 n (S12 s) (sm12 s) x = key12 n (S12 s) (sm12 s) y) := HA.out.fin hx hy hne (by omega) (by omega) (by omega)
        go_wp2_with fail
        go_ret
        exact ⟨false, rfl, ⟨fun q => (by cases q), fun q => absurd q HNO.out⟩, hb⟩
end Go.Proofs.Ytbjjddoeilhomaa

namespace Go.Proofs.Ytbjjddoeilhomaa
open Go.RowKit
set_option linter.unusedVariables false

/-! The landed turnsOf. -/
set_option maxRecDepth 100000 in
set_option maxHeartbeats 4000000 in
theorem pto12 (b : Nat) (a : Option Addr) (n cap : Nat) (s : List Int) (K gs gf gn gr : Nat) (nx : List Int) (A : List Nat) (m : Nat) (w : World) (h : Li12 w b a n cap s K gs gf gn nx) (hW : Wf12 s n K) (hr : Rz12 w gr (nz12 A)) (hA : A.length = n) (hAl : ∀ j ∈ A, j < n) (hm : m ≤ 16777216) :
    Calls Try.prog 92 #[.pointer (some ⟨b, 0, none⟩), .slice (some ⟨gr, 0, none⟩) n n, .int .i64 (m : Int)] w (AnsZ12 w (nz12 (by12 (sm12 s) A))) := by
  have n24 := hW.n24
  have hn : Hid (s.length = n) := hW.len
  obtain ⟨i0, hi, hz0, hz1, hz2⟩ := info_parts info_i12
  have HC0 : Hid (∀ w', Below w.heap.size w w' → w'.cell? ⟨b, 1, none⟩ = some (.slice (some ⟨gs, 0, none⟩) n n)) := fun w' hb => by
    have q := (hb.block b h.lt).trans h.hp
    simp [World.cell?, q]
  have HSM : Hid (∀ w', Below w.heap.size w w' → Rb12 w' gs (typ12 s)) := fun w' hb => h.sm.old hb
  have HRO : Hid (∀ w', Below w.heap.size w w' → Rz12 w' gr (nz12 A)) := fun w' hb => hr.old hb
  have HTI : Hid (∀ w' j, Below w.heap.size w w' → j < n → Calls Try.prog 102 #[.slice (some ⟨gs, 0, none⟩) n n, .int .i64 (j : Int)] w' fun e w2 => e = .returned (.bool (tb12 (sm12 s) j)) ∧ Below w'.heap.size w' w2) := by
    intro w' j hb hj
    have := pist12 (some ⟨gs, 0, none⟩) (typ12 s) n n j w' (HSM.out w' hb).seg (by show _ = _; rw [typ12_len, hn.out]) hj (by omega)
    rw [show gb12 (typ12 s) = sm12 s from funext (typ12_get s)] at this
    exact this
  have HLE : Hid (∀ k, ((A.take k).filter (tb12 (sm12 s))).length ≤ k) := fun k => Nat.le_trans (List.length_filter_le _ _) (List.length_take_le k A)
  have HST : Hid (∀ k, k < n → (A.take (k + 1)).filter (tb12 (sm12 s)) = if tb12 (sm12 s) (A.getD k 0) = true then (A.take k).filter (tb12 (sm12 s)) ++ [A.getD k 0] else (A.take k).filter (tb12 (sm12 s))) := by
    intro k hk
    have hk2 : k < A.length := by rw [hA]; exact hk
    have e : A.take (k + 1) = A.take k ++ [A.getD k 0] := by rw [List.take_add_one]; simp [List.getD, hk2]
    rw [e, List.filter_append]
    by_cases ht : tb12 (sm12 s) (A.getD k 0) = true
    · simp only [List.filter_cons, ht, if_true, List.filter_nil]
    · simp only [List.filter_cons, ht, List.filter_nil]; simp
  have HEL : Hid (∀ k, k < n → A.getD k 0 < n ∧ (nz12 A).getD k 0 = ((A.getD k 0 : Nat) : Int)) := fun k hk => ⟨by
    have hk2 : k < A.length := by rw [hA]; exact hk
    have : A.getD k 0 = A[k] := by simp [List.getD, hk2]
    rw [this]; exact hAl _ (List.getElem_mem hk2), nz12_get A k 0 (by rw [hA]; exact hk)⟩
  have HFA : Hid ((A.take n).filter (tb12 (sm12 s)) = by12 (sm12 s) A) := by show _ = _; rw [List.take_of_length_le (by rw [hA]; exact Nat.le_refl n)]; rfl
  obtain ⟨w1, HM1, own1, g1⟩ := run_make_own (P := Try.prog) (w := w) w.heap.size 46 3 i0 (.int .i64 0) 1 Try.underlying46 hi hz0 hz1 .i64 .i64 m (by rw [hz2]; omega) (by unfold maxLen; omega) (Nat.le_refl _)
  have hb1 : Below w.heap.size w w1 := (Below.refl _ _).grown g1 (Nat.le_refl _) (fun k hk => by cases hk)
  have HNL : Hid ((nz12 A).length = n) := by show _ = _; rw [nz12_len, hA]
  clear h hW hr hA hAl g1
  go_enter Try.func92, Try.ntmps92
  go_wp2_with fail
  go_loopw [7, 14] (fun to ti wr => ∃ (k c rc : Nat) (ra : Option Addr), k ≤ n ∧ ti = .int .i64 k ∧ to = .slice ra c rc ∧ Hid (((A.take k).filter (tb12 (sm12 s))).length = c) ∧ wr.ownsRow w.heap.size 3 1 (.slice ra c rc) c ((nz12 ((A.take k).filter (tb12 (sm12 s)))).map (Value.int .i64)) ∧ Below w.heap.size w wr) (fun _ ti _ => n - (intOf ti).toNat)
  case atStart => exact ⟨0, 0, m, _, Nat.zero_le _, rfl, rfl, (by simp : _ = _), own1, hb1⟩
  case round =>
    obtain ⟨k, c, rc, ra, hk, rfl, rfl, HM, hown, hb2⟩ := hrel
    have hsz : w.heap.size ≤ wr.heap.size := hb2.size
    have hck : c ≤ k := by rw [← HM.out]; exact HLE.out k
    by_cases h1 : k < n
    · have h1i : (k : Int) < (n : Int) := by omega
      obtain ⟨hj, ej⟩ := HEL.out k h1
      have c1 := (HRO.out wr hb2).cell (i := k) (by rw [HNL.out]; exact h1)
      rw [ej] at c1
      have q1 := HC0.out wr hb2
      have HC := HTI.out wr (A.getD k 0) hb2 hj
      have HS := HST.out k h1
      have HS2 : Hid _ := HS
      clear HS ej
      generalize A.getD k 0 = j at *
      generalize tb12 (sm12 s) j = t at *
      generalize (A.take k).filter (tb12 (sm12 s)) = T at *
      cases t
      · go_wp2_with (first | (go_at_call 102; refine HC.mono ?_; rintro e1 w2 ⟨rfl, B1⟩))
        go_roundw
        case rel => exact ⟨k + 1, c, rc, ra, by omega, by go_num, rfl, (by rw [HS2.out]; exact HM.out : _ = _), by rw [HS2.out]; exact own_below hown B1, hb2.trans (B1.mono hsz)⟩
        case measure => simp [intOf]; omega
      · have hown2 : ∀ w2, Below wr.heap.size wr w2 → w2.ownsRow w.heap.size 3 1 (.slice ra c rc) c ((nz12 T).map (Value.int .i64)) := fun w2 B1 => own_below hown B1
        go_wp2_with (first
          | (go_at_call 102; refine HC.mono ?_; rintro e1 w2 ⟨rfl, B1⟩; have OX := hown2 w2 B1; have hsz1 : w.heap.size ≤ w2.heap.size := Nat.le_trans hsz B1.size)
          | (at_builtin; refine wpList_ap12 rfl (.tmp 24) (.tmp 26) 46 rfl w.heap.size 3 i0 (.int .i64 0) 8 Try.underlying46 hi hz0 hz1 hz2 rfl w2 _ OX rfl rfl (by omega) (by omega) hsz1 ?_; intro ga gc w3 own3 hk3 hat3))
        have B3 : Below w.heap.size w w3 := (hb2.trans (B1.mono hsz)).trans (hk3.below (fun q e => (OX.lt q e).1) hsz1)
        go_roundw
        case rel => exact ⟨k + 1, c + 1, gc, some ⟨ga, 0, none⟩, by omega, by go_num, rfl, (by rw [HS2.out]; simp [HM.out] : _ = _), by rw [HS2.out]; simpa [nz12] using own3, B3⟩
        case measure => simp [intOf]; omega
    · have h1i : ¬ (k : Int) < (n : Int) := by omega
      obtain rfl : k = n := by omega
      rw [HFA.out] at HM hown
      go_wp2_with fail
      go_ret
      refine ⟨ra, rc, ?_, ?_, hb2⟩
      · (try rw [nz12_len]); rw [HM.out]; rfl
      · (try rw [nz12_len]); rw [HM.out]; exact hown
end Go.Proofs.Ytbjjddoeilhomaa
