import Derived.Test.YtkpfailmmcelcaaPi
import Derived.Test.YtkpfailmmcelcaaPf
import Derived.Laws.MakeOwn
namespace Go.Proofs.Ytkpfailmmcelcaa
open Go.RowKit
set_option linter.unusedVariables false

/-! The landed induce. -/
noncomputable def il12 (s : List Int) (o : List Nat) : List Int := (List.range s.length).map (ind12 s.length (S12 s) (sm12 s) o)
theorem il12_len (s : List Int) (o : List Nat) : (il12 s o).length = s.length := by simp [il12]
theorem Li12.kp1 {w w' : World} {b : Nat} {a : Option Addr} {n cap : Nat} {s : List Int} {K gs gf gn : Nat} {nx nx' : List Int} (h : Li12 w b a n cap s K gs gf gn nx) (hk : Kp (fun k => k = gn) w w') (h1 : Rz12 w' gn nx') (l1 : nx'.length = K) : Li12 w' b a n cap s K gs gf gn nx' :=
  ⟨hk.heap h.hp h.d1, h.seg.kp hk (fun x off ha hp => h.d4 x off ha hp), h.sm.kp hk h.d2, h.fr.kp hk h.d3, h1, l1, h.d1, h.d2, h.d3, h.d4⟩
theorem Li12.lt {w : World} {b : Nat} {a : Option Addr} {n cap : Nat} {s : List Int} {K gs gf gn : Nat} {nx : List Int} (h : Li12 w b a n cap s K gs gf gn nx) : b < w.heap.size := (Array.getElem?_eq_some_iff.1 h.hp).1
/-- A list, and a new row beside it. -/
theorem Lr12.of {w : World} {b : Nat} {a : Option Addr} {n cap : Nat} {s : List Int} {K gs gf gn : Nat} {nx : List Int} (h : Li12 w b a n cap s K gs gf gn nx) {w1 : World} (hb : Below w.heap.size w w1) {R : List Int} (hr : Rz12 w1 w.heap.size R) (hl : R.length = n) : Lr12 w1 b a n cap s K gs gf gn w.heap.size nx R := by
  have hn : h.nr.lt = h.nr.lt := rfl
  have q1 := h.lt
  have q2 := h.sm.lt
  have q3 := h.fr.lt
  have q4 := h.nr.lt
  refine ⟨⟨(hb.block b q1).trans h.hp, h.seg.old hb, h.sm.old hb, h.fr.old hb, h.nr.old hb, h.nxl, h.d1, h.d2, h.d3, h.d4⟩, hr, hl, by omega, by omega, by omega, by omega, fun x off ha hp => ?_⟩
  have := h.seg.lt x off ha hp
  omega
set_option maxRecDepth 100000 in
set_option maxHeartbeats 4000000 in
theorem pind12 (b : Nat) (a : Option Addr) (n cap : Nat) (s : List Int) (K gs gf gn : Nat) (nx : List Int) (oa : Option Addr) (o : List Nat) (m oc : Nat) (w : World) (h : Li12 w b a n cap s K gs gf gn nx) (hW : Wf12 s n K) (ho : Or12 n (sm12 s) o) (hm : Hid (o.length = m)) (hmb : m ≤ 16777216) (hseg : SegZ w oa (nz12 o)) (hoa : ∀ x off, oa = some ⟨x, off, none⟩ → 0 < (nz12 o).length → x ≠ gn) :
    Calls Try.prog 54 #[.pointer (some ⟨b, 0, none⟩), .slice oa m oc] w fun e w' => e = .returned (.slice (some ⟨w.heap.size, 0, none⟩) n n) ∧ Rz12 w' w.heap.size (il12 s o) ∧ (∃ nx', Li12 w' b a n cap s K gs gf gn nx') ∧ Kp (fun k => k = gn) w w' := by
  have n24 := hW.n24
  have hn : Hid (s.length = n) := hW.len
  have HM1 := run_make_i12 n (by omega) w
  have q0 := h.c0
  have hal : Below w.heap.size w (w.alloc (.cells (vi12 (List.replicate n 0)) 3)) := (Below.refl _ _).alloc (Nat.le_refl _) _
  have HL1 : Hid (Lr12 (w.alloc (.cells (vi12 (List.replicate n 0)) 3)) b a n cap s K gs gf gn w.heap.size nx (List.replicate n 0)) := Lr12.of h hal (Rz12.new w _) (by simp)
  have HKA : Hid (Kp (Wr12 gn w.heap.size) w (w.alloc (.cells (vi12 (List.replicate n 0)) 3))) := Kp.of_below hal
  have HSEG : Hid (∀ w', Kp (Wr12 gn w.heap.size) w w' → SegZ w' oa (nz12 o)) := fun w' k => hseg.kp k (fun x off hx hp hw => by
    rcases hw with e | e
    · exact hoa x off hx hp e
    · have := hseg.lt x off hx hp; omega)
  have HOA : Hid (∀ x off, oa = some ⟨x, off, none⟩ → 0 < (nz12 o).length → x ≠ gn ∧ x ≠ w.heap.size) := fun x off hx hp => ⟨hoa x off hx hp, by have := hseg.lt x off hx hp; omega⟩
  have HFIN : Hid (∀ w' nx' R', Lr12 w' b a n cap s K gs gf gn w.heap.size nx' R' → Lm12 n s R' nx' (st3_12 n (S12 s) (sm12 s) o n) → Kp (Wr12 gn w.heap.size) w w' → Rz12 w' w.heap.size (il12 s o) ∧ (∃ nx', Li12 w' b a n cap s K gs gf gn nx') ∧ Kp (fun k => k = gn) w w') := by
    intro w' nx' R' L M k
    refine ⟨?_, ⟨nx', L.li⟩, k.mono (fun i hi e => ?_)⟩
    · have e : R' = il12 s o := by
        refine ext12 (d := 0) (by rw [L.rl, il12_len, hn.out]) fun q hq => ?_
        rw [L.rl] at hq
        have h1 := M.row (n - 1 - q) (by omega)
        rw [show n - 1 - (n - 1 - q) = q by omega] at h1
        rw [h1]
        have hq2 : q < s.length := by rw [hn.out]; exact hq
        have : (il12 s o).getD q 0 = ind12 s.length (S12 s) (sm12 s) o q := by simp [il12, List.getD, hq2]
        rw [this, hn.out]
        rfl
      rw [← e]; exact L.row
    · rcases e with e | e
      · exact e
      · omega
  have hty : Ty12 n (S12 s) (sm12 s) := by have := ty12 s; rw [hn.out] at this; exact this
  have HP1 : Hid (∀ w' R', Lr12 w' b a n cap s K gs gf gn w.heap.size nx R' → (∀ q, q < n → R'.getD q 0 = -1) → Kp (Wr12 gn w.heap.size) w w' → Calls Try.prog 59 #[.pointer (some ⟨b, 0, none⟩), .slice (some ⟨w.heap.size, 0, none⟩) n n, .slice oa m oc] w' fun e w2 => e = .returned (.tuple #[]) ∧ ∃ nx2 R2, Lr12 w2 b a n cap s K gs gf gn w.heap.size nx2 R2 ∧ Lm12 n s R2 nx2 (ps12 n (S12 s) o) ∧ Kp (Wr12 gn w.heap.size) w' w2) :=
    fun w' R' L hR k => ppt12 b a n cap s K gs gf gn w.heap.size nx R' oa o m oc w' L hW hR ho hm hmb (HSEG.out w' k) HOA.out
  have HP2 : Hid (∀ w' nx' R', Lr12 w' b a n cap s K gs gf gn w.heap.size nx' R' → Lm12 n s R' nx' (ps12 n (S12 s) o) → Calls Try.prog 60 #[.pointer (some ⟨b, 0, none⟩), .slice (some ⟨w.heap.size, 0, none⟩) n n] w' fun e w2 => e = .returned (.tuple #[]) ∧ ∃ nx2 R2, Lr12 w2 b a n cap s K gs gf gn w.heap.size nx2 R2 ∧ Lk12 n s R2 nx2 (st2_12 n (S12 s) (sm12 s) o n) ∧ Kp (Wr12 gn w.heap.size) w' w2) :=
    fun w' nx' R' L M => ppg12 b a n cap s K gs gf gn w.heap.size nx' R' o w' L hW (fun q hq => by
      have h1 := M.row (n - 1 - q) (by omega)
      rw [show n - 1 - (n - 1 - q) = q by omega] at h1
      exact h1) ho
  have HP3 : Hid (∀ w' nx' R', Lr12 w' b a n cap s K gs gf gn w.heap.size nx' R' → Lk12 n s R' nx' (st2_12 n (S12 s) (sm12 s) o n) → Calls Try.prog 61 #[.pointer (some ⟨b, 0, none⟩), .slice (some ⟨w.heap.size, 0, none⟩) n n] w' fun e w2 => e = .returned (.tuple #[]) ∧ ∃ R2, Lr12 w2 b a n cap s K gs gf gn w.heap.size nx' R2 ∧ (∀ q, q < n → R2.getD q 0 = tak12 (sm12 s) (st2_12 n (S12 s) (sm12 s) o n).1 q) ∧ Kp (Wr12 gn w.heap.size) w' w2) :=
    fun w' nx' R' L M => ptk12 b a n cap s K gs gf gn w.heap.size nx' R' _ w' L hW M.row (fun q hq => by
      rcases (st2_t hty ho n (Nat.le_refl n)).st.ok q hq with e | ⟨j, hj, e, _⟩
      · exact Or.inl e
      · exact Or.inr ⟨j, hj, e⟩)
  have HP4 : Hid (∀ w' nx' R', Lr12 w' b a n cap s K gs gf gn w.heap.size nx' R' → (∀ q, q < n → R'.getD q 0 = tak12 (sm12 s) (st2_12 n (S12 s) (sm12 s) o n).1 q) → Calls Try.prog 62 #[.pointer (some ⟨b, 0, none⟩), .slice (some ⟨w.heap.size, 0, none⟩) n n] w' fun e w2 => e = .returned (.tuple #[]) ∧ ∃ nx2 R2, Lr12 w2 b a n cap s K gs gf gn w.heap.size nx2 R2 ∧ Lm12 n s R2 nx2 (st3_12 n (S12 s) (sm12 s) o n) ∧ Kp (Wr12 gn w.heap.size) w' w2) :=
    fun w' nx' R' L hR => pps12 b a n cap s K gs gf gn w.heap.size nx' R' o w' L hW hR ho
  clear h hseg hoa hal hty hW ho HSEG HOA
  generalize hg : w.heap.size = g at *
  generalize hw1 : w.alloc (.cells (vi12 (List.replicate n 0)) 3) = w1 at *
  clear hg hw1
  go_enter Try.func54, Try.ntmps54
  go_wp2_with fail
  go_loopw [15] (fun ti wr => ∃ (p : Nat) (R' : List Int), p ≤ n ∧ ti = .int .i64 p ∧ Lr12 wr b a n cap s K gs gf gn g nx R' ∧ Hid (∀ q, q < p → R'.getD q 0 = -1) ∧ Kp (Wr12 gn g) w wr) (fun ti _ => n - (intOf ti).toNat)
  case atStart => exact ⟨0, _, Nat.zero_le _, rfl, HL1.out, (fun q hq => by omega : ∀ q, q < 0 → _), HKA.out⟩
  case round =>
    obtain ⟨p, R', hp, rfl, LR, HQ, KB⟩ := hrel
    by_cases h1 : p < n
    · have h1i : (p : Int) < (n : Int) := by omega
      have c1 := LR.row.cell (i := p) (by rw [LR.rl]; omega)
      have f1 := LR.row.free p
      generalize R'.getD p 0 = y at c1
      have HLR2 : Hid (Lr12 (wr.setCell ⟨g, p, none⟩ (.int .i64 (-1))) b a n cap s K gs gf gn g nx (R'.set p (-1))) := LR.setR p (-1)
      have HKB : Hid (Kp (Wr12 gn g) w (wr.setCell ⟨g, p, none⟩ (.int .i64 (-1)))) := KB.trans (Kp.set (S := Wr12 gn g) (Or.inr rfl) _) (fun _ _ e => e)
      have HQ2 : Hid (∀ q, q < p + 1 → (R'.set p (-1)).getD q 0 = -1) := by
        intro q hq
        rw [getD_set12 _ _ _ _ (by rw [LR.rl]; omega)]
        by_cases e : q = p
        · rw [if_pos e]
        · rw [if_neg e]; exact HQ.out q (by omega)
      clear LR HQ
      go_wp2_with fail
      go_roundw
      case rel => exact ⟨p + 1, _, by omega, by go_num, HLR2.out, HQ2.out, HKB.out⟩
      case measure => simp [intOf]; omega
    · have h1i : ¬ (p : Int) < (n : Int) := by omega
      obtain rfl : p = n := by omega
      go_wp2_with (first
        | (go_at_call 59; refine (HP1.out _ R' LR HQ.out KB).mono ?_; rintro e1 wA ⟨rfl, nA, RA, LA, MA, KA⟩)
        | (go_at_call 60; refine (HP2.out _ nA RA LA MA).mono ?_; rintro e2 wB ⟨rfl, nB, RB, LB, MB, KC⟩)
        | (go_at_call 61; refine (HP3.out _ nB RB LB MB).mono ?_; rintro e3 wC ⟨rfl, RC, LC, MC, KD⟩)
        | (go_at_call 62; refine (HP4.out _ nB RC LC MC).mono ?_; rintro e4 wD ⟨rfl, nD, RD, LD, MD, KE⟩))
      go_ret
      exact ⟨rfl, HFIN.out _ nD RD LD MD ((((KB.trans KA (fun _ _ e => e)).trans KC (fun _ _ e => e)).trans KD (fun _ _ e => e)).trans KE (fun _ _ e => e))⟩
end Go.Proofs.Ytkpfailmmcelcaa

namespace Go.Proofs.Ytkpfailmmcelcaa
set_option linter.unusedVariables false

/-! Are two pieces alike: place by place (layer 12), as mathematics. -/
structure Al12 (n : Nat) (S : Nat → Int) (sm : Nat → Bool) (x y i : Nat) : Prop where
  p : 0 < i → ((key12 n S sm x = key12 n S sm y ↔ tkey12 n S sm (x + i) = tkey12 n S sm (y + i)) ∧ sm (x + i - 1) = sm (y + i - 1))
theorem Al12.zero (n : Nat) (S : Nat → Int) (sm : Nat → Bool) (x y : Nat) : Al12 n S sm x y 0 := ⟨fun h => by omega⟩
theorem Al12.diff {n : Nat} {S : Nat → Int} {sm : Nat → Bool} {x y i : Nat} (h : Al12 n S sm x y i) (hx : x + i < n) (hy : y + i < n) (hd : ¬ (S (x + i) = S (y + i) ∧ sm (x + i) = sm (y + i))) : ¬ key12 n S sm x = key12 n S sm y := by
  have hc : ¬ cd12 S sm (x + i) = cd12 S sm (y + i) := fun e => hd (cd12_eq.1 e)
  by_cases h0 : i = 0
  · subst h0
    intro e
    unfold key12 at e
    exact hc (List.cons.inj e).1
  · rw [(h.p (by omega)).1]
    obtain ⟨a, ha⟩ := tkey12_head (S := S) (sm := sm) hx
    obtain ⟨b, hb⟩ := tkey12_head (S := S) (sm := sm) hy
    rw [ha, hb]
    intro e
    exact hc (List.cons.inj e).1
theorem Al12.turns {n : Nat} {S : Nat → Int} {sm : Nat → Bool} {x y i : Nat} (h : Al12 n S sm x y i) (hi : 0 < i) (he : sm (x + i) = sm (y + i)) : tn12 sm (x + i) ↔ tn12 sm (y + i) := by
  have := (h.p hi).2
  unfold tn12
  rw [he, this]
  constructor
  · rintro ⟨_, b, c⟩; exact ⟨by omega, b, c⟩
  · rintro ⟨_, b, c⟩; exact ⟨by omega, b, c⟩
theorem Al12.turn {n : Nat} {S : Nat → Int} {sm : Nat → Bool} {x y i : Nat} (h : Al12 n S sm x y i) (hi : 0 < i) (hx : x + i < n) (hy : y + i < n) (e1 : S (x + i) = S (y + i)) (e2 : sm (x + i) = sm (y + i)) (ht : tn12 sm (x + i)) : key12 n S sm x = key12 n S sm y := by
  rw [(h.p hi).1, tkey12_turn hx ht, tkey12_turn hy ((h.turns hi e2).1 ht), cd12_eq.2 ⟨e1, e2⟩]
theorem Al12.step {n : Nat} {S : Nat → Int} {sm : Nat → Bool} {x y i : Nat} (h : Al12 n S sm x y i) (hx : x + i < n) (hy : y + i < n) (e1 : S (x + i) = S (y + i)) (e2 : sm (x + i) = sm (y + i)) (ht : 0 < i → ¬ tn12 sm (x + i)) : Al12 n S sm x y (i + 1) := by
  refine ⟨fun _ => ⟨?_, e2⟩⟩
  have hcd := cd12_eq.2 ⟨e1, e2⟩
  by_cases h0 : i = 0
  · subst h0
    unfold key12
    simp only [Nat.add_zero] at hcd
    rw [hcd]
    simp
  · have ht1 := ht (by omega)
    have ht2 : ¬ tn12 sm (y + i) := fun k => ht1 ((h.turns (by omega) e2).2 k)
    rw [(h.p (by omega)).1, tkey12_on hx ht1, tkey12_on hy ht2]
    unfold key12
    rw [hcd]
    simp [Nat.add_assoc]
theorem Al12.fin {n : Nat} {S : Nat → Int} {sm : Nat → Bool} {x y i : Nat} (h : Al12 n S sm x y i) (hx : x < n) (hy : y < n) (hne : x ≠ y) (h1 : x + i ≤ n) (h2 : y + i ≤ n) (h3 : x + i = n ∨ y + i = n) : ¬ key12 n S sm x = key12 n S sm y := by
  rw [(h.p (by omega)).1]
  rcases h3 with h3 | h3
  · rw [tkey12_none (i := x + i) (by omega)]
    obtain ⟨b, hb⟩ := tkey12_head (n := n) (S := S) (sm := sm) (i := y + i) (by omega)
    rw [hb]
    exact fun e => by cases e
  · rw [tkey12_none (i := y + i) (by omega)]
    obtain ⟨b, hb⟩ := tkey12_head (n := n) (S := S) (sm := sm) (i := x + i) (by omega)
    rw [hb]
    exact fun e => by cases e
end Go.Proofs.Ytkpfailmmcelcaa

namespace Go.Proofs.Ytkpfailmmcelcaa
open Go.RowKit
set_option linter.unusedVariables false

/-! The landed alike and turnsOf. -/
def AlQ12 (w : World) (P : Prop) (e : Ending) (w' : World) : Prop := ∃ B : Bool, e = .returned (.bool B) ∧ (B = true ↔ P) ∧ Below w.heap.size w w'
set_option maxRecDepth 100000 in
set_option maxHeartbeats 4000000 in
theorem pal12 (b : Nat) (a : Option Addr) (n cap : Nat) (s : List Int) (K gs gf gn : Nat) (nx : List Int) (x y : Nat) (w : World) (h : Li12 w b a n cap s K gs gf gn nx) (hW : Wf12 s n K) (hx : x < n) (hy : y < n) (hne : x ≠ y) :
    Calls Try.prog 69 #[.pointer (some ⟨b, 0, none⟩), .int .i64 (x : Int), .int .i64 (y : Int)] w (AlQ12 w (key12 n (S12 s) (sm12 s) x = key12 n (S12 s) (sm12 s) y)) := by
  have n24 := hW.n24
  have hn : Hid (s.length = n) := hW.len
  have HC0 : Hid (∀ w', Below w.heap.size w w' → w'.cell? ⟨b, 0, none⟩ = some (.slice a n cap) ∧ w'.cell? ⟨b, 1, none⟩ = some (.slice (some ⟨gs, 0, none⟩) n n)) := fun w' hb => by
    have q := (hb.block b h.lt).trans h.hp
    exact ⟨by simp [World.cell?, q], by simp [World.cell?, q]⟩
  have HSG : Hid (∀ w', Below w.heap.size w w' → SegZ w' a s) := fun w' hb => h.seg.old hb
  have HSM : Hid (∀ w', Below w.heap.size w w' → Rb12 w' gs (typ12 s)) := fun w' hb => h.sm.old hb
  obtain ⟨q0, q1⟩ := HC0.out w (Below.refl _ _)
  have HTI : Hid (∀ w' i, Below w.heap.size w w' → x + i < n → Calls Try.prog 68 #[.slice (some ⟨gs, 0, none⟩) n n, .int .i64 ((x : Int) + (i : Int))] w' fun e w2 => e = .returned (.bool (tb12 (sm12 s) (x + i))) ∧ Below w'.heap.size w' w2) := by
    intro w' i hb hi
    have := pist12 (some ⟨gs, 0, none⟩) (typ12 s) n n (x + i) w' (HSM.out w' hb).seg (by show _ = _; rw [typ12_len, hn.out]) hi (by omega)
    rw [show (((x + i : Nat)) : Int) = (x : Int) + (i : Int) by omega, show gb12 (typ12 s) = sm12 s from funext (typ12_get s)] at this
    exact this
  have hxi : (x : Int) < 16777216 := by omega
  have hyi : (y : Int) < 16777216 := by omega
  clear h hW
  rcases Nat.lt_trichotomy x y with hxy | hxy | hxy
  · have hxyi : (x : Int) < (y : Int) := by omega
    go_enter Try.func69, Try.ntmps69
    go_wp2_with fail
    go_loopw [17] (fun ti wr => ∃ i : Nat, i + y ≤ n ∧ ti = .int .i64 i ∧ Hid (Al12 n (S12 s) (sm12 s) x y i) ∧ Below w.heap.size w wr) (fun ti _ => n - (intOf ti).toNat)
    case atStart => exact ⟨0, by omega, rfl, Al12.zero _ _ _ _ _, Below.refl _ _⟩
    case round =>
      obtain ⟨i, hi, rfl, HA, hb⟩ := hrel
      by_cases h1 : i + y < n
      · have h1i : (i : Int) < (n : Int) - (y : Int) := by omega
        have hxi2 : (x : Int) + (i : Int) < (n : Int) := by omega
        have hyi2 : (y : Int) + (i : Int) < (n : Int) := by omega
        obtain ⟨r0, r1⟩ := HC0.out wr hb
        have hsg := HSG.out wr hb
        have hsm := HSM.out wr hb
        obtain ⟨ab, off, rfl, c1⟩ := hsg.at_ (x + i) (by rw [hn.out]; omega)
        have c2 : wr.cell? ⟨ab, off + (y + i), none⟩ = some (.int .i64 (s.getD (y + i) 0)) := by
          obtain ⟨b', off', ha, c⟩ := hsg.at_ (y + i) (by rw [hn.out]; omega)
          cases ha
          exact c
        have c3 := hsm.cell (i := x + i) (by rw [typ12_len, hn.out]; omega)
        have c4 := hsm.cell (i := y + i) (by rw [typ12_len, hn.out]; omega)
        rw [typ12_get] at c3 c4
        have bd1 := hsg.bd (x + i)
        have bd2 := hsg.bd (y + i)
        have HDF : Hid (¬ (S12 s (x + i) = S12 s (y + i) ∧ sm12 s (x + i) = sm12 s (y + i)) → ¬ key12 n (S12 s) (sm12 s) x = key12 n (S12 s) (sm12 s) y) := HA.out.diff (by omega) (by omega)
        have HEQ : Hid (S12 s (x + i) = s.getD (x + i) 0 ∧ S12 s (y + i) = s.getD (y + i) 0) := ⟨rfl, rfl⟩
        clear hsg hsm
        generalize s.getD (x + i) 0 = v1 at *
        generalize s.getD (y + i) 0 = v2 at *
        by_cases hv : v1 = v2
        · subst hv
          by_cases ht : sm12 s (x + i) = sm12 s (y + i)
          · have HST : Hid ((0 < i → ¬ tn12 (sm12 s) (x + i)) → Al12 n (S12 s) (sm12 s) x y (i + 1)) := HA.out.step (by omega) (by omega) (by rw [HEQ.out.1, HEQ.out.2]) ht
            have HTN : Hid (0 < i → tn12 (sm12 s) (x + i) → key12 n (S12 s) (sm12 s) x = key12 n (S12 s) (sm12 s) y) := fun p q => HA.out.turn p (by omega) (by omega) (by rw [HEQ.out.1, HEQ.out.2]) ht q
            rw [← ht] at c4
            have HT2 := HTI.out wr.drew i hb.drew (by omega)
            clear ht
            have HTB : Hid (tb12 (sm12 s) (x + i) = true ↔ tn12 (sm12 s) (x + i)) := tb12_iff
            generalize sm12 s (x + i) = t1 at c3 c4
            by_cases h0 : i = 0
            · subst h0
              have c1b : wr.cell? ⟨ab, off + x, none⟩ = some (.int .i64 v1) := c1
              have c2b : wr.cell? ⟨ab, off + y, none⟩ = some (.int .i64 v1) := c2
              have c3b : wr.cell? ⟨gs, x, none⟩ = some (.bool t1) := c3
              have c4b : wr.cell? ⟨gs, y, none⟩ = some (.bool t1) := c4
              cases t1 <;>
              · go_wp2_with fail
                go_region
                go_wp2_with fail
                go_roundw
                case rel => exact ⟨1, by omega, by go_num, HST.out (fun q => by omega), hb.drew⟩
                case measure => simp [intOf]; omega
            · have h0i : (0 : Int) < (i : Int) := by omega
              have h0n : 0 < i := by omega
              generalize tb12 (sm12 s) (x + i) = t2 at *
              cases t2
              · cases t1 <;>
                · go_wp2_with fail
                  go_region
                  go_wp2_with fail
                  refine HT2.mono ?_
                  rintro e2 w2 ⟨rfl, B2⟩
                  go_wp2_with fail
                  go_roundw
                  case rel => exact ⟨i + 1, by omega, by go_num, HST.out (fun _ q => by have := HTB.out.2 q; cases this), hb.drew.trans (B2.mono hb.drew.size)⟩
                  case measure => simp [intOf]; omega
              · cases t1 <;>
                · go_wp2_with fail
                  go_region
                  go_wp2_with fail
                  refine HT2.mono ?_
                  rintro e2 w2 ⟨rfl, B2⟩
                  go_wp2_with fail
                  go_ret
                  exact ⟨true, rfl, ⟨fun _ => HTN.out (by omega) (HTB.out.1 (by first | trivial | rfl)), fun _ => rfl⟩, hb.drew.trans (B2.mono hb.drew.size)⟩
          · have HNO : Hid (¬ key12 n (S12 s) (sm12 s) x = key12 n (S12 s) (sm12 s) y) := HDF.out (fun q => ht q.2)
            generalize sm12 s (x + i) = t1 at *
            generalize sm12 s (y + i) = t2 at *
            cases t1 <;> cases t2 <;> first
              | exact absurd rfl ht
              | (go_wp2_with fail
                 go_region
                 go_wp2_with fail
                 go_ret
                 exact ⟨false, rfl, ⟨fun q => (by cases q), fun q => absurd q HNO.out⟩, hb.drew⟩)
        · have HNO : Hid (¬ key12 n (S12 s) (sm12 s) x = key12 n (S12 s) (sm12 s) y) := HDF.out (fun q => hv (by rw [← HEQ.out.1, ← HEQ.out.2]; exact q.1))
          have hv2 : (v1 == v2) = false := by simp [hv]
          have hv3 : decide (v1 = v2) = false := by simp [hv]
          have hv4 : (v1 != v2) = true := by simp [hv]
          have hv5 : decide (¬ v1 = v2) = true := by simp [hv]
          go_wp2_with fail
          go_region
          go_wp2_with fail
          go_ret
          exact ⟨false, rfl, ⟨fun q => (by cases q), fun q => absurd q HNO.out⟩, hb.drew⟩
      · have h1i : ¬ (i : Int) < (n : Int) - (y : Int) := by omega
        have HNO : Hid (¬ key12 n (S12 s) (sm12 s) x = key12 n (S12 s) (sm12 s) y) := HA.out.fin hx hy hne (by omega) (by omega) (by omega)
        go_wp2_with fail
        go_ret
        exact ⟨false, rfl, ⟨fun q => (by cases q), fun q => absurd q HNO.out⟩, hb⟩
  · exact absurd hxy hne
  · have hxyi : (y : Int) < (x : Int) := by omega
    go_enter Try.func69, Try.ntmps69
    go_wp2_with fail
    go_loopw [17] (fun ti wr => ∃ i : Nat, i + x ≤ n ∧ ti = .int .i64 i ∧ Hid (Al12 n (S12 s) (sm12 s) x y i) ∧ Below w.heap.size w wr) (fun ti _ => n - (intOf ti).toNat)
    case atStart => exact ⟨0, by omega, rfl, Al12.zero _ _ _ _ _, Below.refl _ _⟩
    case round =>
      obtain ⟨i, hi, rfl, HA, hb⟩ := hrel
      by_cases h1 : i + x < n
      · have h1i : (i : Int) < (n : Int) - (x : Int) := by omega
        have hxi2 : (x : Int) + (i : Int) < (n : Int) := by omega
        have hyi2 : (y : Int) + (i : Int) < (n : Int) := by omega
        obtain ⟨r0, r1⟩ := HC0.out wr hb
        have hsg := HSG.out wr hb
        have hsm := HSM.out wr hb
        obtain ⟨ab, off, rfl, c1⟩ := hsg.at_ (x + i) (by rw [hn.out]; omega)
        have c2 : wr.cell? ⟨ab, off + (y + i), none⟩ = some (.int .i64 (s.getD (y + i) 0)) := by
          obtain ⟨b', off', ha, c⟩ := hsg.at_ (y + i) (by rw [hn.out]; omega)
          cases ha
          exact c
        have c3 := hsm.cell (i := x + i) (by rw [typ12_len, hn.out]; omega)
        have c4 := hsm.cell (i := y + i) (by rw [typ12_len, hn.out]; omega)
        rw [typ12_get] at c3 c4
        have bd1 := hsg.bd (x + i)
        have bd2 := hsg.bd (y + i)
        have HDF : Hid (¬ (S12 s (x + i) = S12 s (y + i) ∧ sm12 s (x + i) = sm12 s (y + i)) → ¬ key12 n (S12 s) (sm12 s) x = key12 n (S12 s) (sm12 s) y) := HA.out.diff (by omega) (by omega)
        have HEQ : Hid (S12 s (x + i) = s.getD (x + i) 0 ∧ S12 s (y + i) = s.getD (y + i) 0) := ⟨rfl, rfl⟩
        clear hsg hsm
        generalize s.getD (x + i) 0 = v1 at *
        generalize s.getD (y + i) 0 = v2 at *
        by_cases hv : v1 = v2
        · subst hv
          by_cases ht : sm12 s (x + i) = sm12 s (y + i)
          · have HST : Hid ((0 < i → ¬ tn12 (sm12 s) (x + i)) → Al12 n (S12 s) (sm12 s) x y (i + 1)) := HA.out.step (by omega) (by omega) (by rw [HEQ.out.1, HEQ.out.2]) ht
            have HTN : Hid (0 < i → tn12 (sm12 s) (x + i) → key12 n (S12 s) (sm12 s) x = key12 n (S12 s) (sm12 s) y) := fun p q => HA.out.turn p (by omega) (by omega) (by rw [HEQ.out.1, HEQ.out.2]) ht q
            rw [← ht] at c4
            have HT2 := HTI.out wr.drew i hb.drew (by omega)
            clear ht
            have HTB : Hid (tb12 (sm12 s) (x + i) = true ↔ tn12 (sm12 s) (x + i)) := tb12_iff
            generalize sm12 s (x + i) = t1 at c3 c4
            by_cases h0 : i = 0
            · subst h0
              have c1b : wr.cell? ⟨ab, off + x, none⟩ = some (.int .i64 v1) := c1
              have c2b : wr.cell? ⟨ab, off + y, none⟩ = some (.int .i64 v1) := c2
              have c3b : wr.cell? ⟨gs, x, none⟩ = some (.bool t1) := c3
              have c4b : wr.cell? ⟨gs, y, none⟩ = some (.bool t1) := c4
              cases t1 <;>
              · go_wp2_with fail
                go_region
                go_wp2_with fail
                go_roundw
                case rel => exact ⟨1, by omega, by go_num, HST.out (fun q => by omega), hb.drew⟩
                case measure => simp [intOf]; omega
            · have h0i : (0 : Int) < (i : Int) := by omega
              have h0n : 0 < i := by omega
              generalize tb12 (sm12 s) (x + i) = t2 at *
              cases t2
              · cases t1 <;>
                · go_wp2_with fail
                  go_region
                  go_wp2_with fail
                  refine HT2.mono ?_
                  rintro e2 w2 ⟨rfl, B2⟩
                  go_wp2_with fail
                  go_roundw
                  case rel => exact ⟨i + 1, by omega, by go_num, HST.out (fun _ q => by have := HTB.out.2 q; cases this), hb.drew.trans (B2.mono hb.drew.size)⟩
                  case measure => simp [intOf]; omega
              · cases t1 <;>
                · go_wp2_with fail
                  go_region
                  go_wp2_with fail
                  refine HT2.mono ?_
                  rintro e2 w2 ⟨rfl, B2⟩
                  go_wp2_with fail
                  go_ret
                  exact ⟨true, rfl, ⟨fun _ => HTN.out (by omega) (HTB.out.1 (by first | trivial | rfl)), fun _ => rfl⟩, hb.drew.trans (B2.mono hb.drew.size)⟩
          · have HNO : Hid (¬ key12 n (S12 s) (sm12 s) x = key12 n (S12 s) (sm12 s) y) := HDF.out (fun q => ht q.2)
            generalize sm12 s (x + i) = t1 at *
            generalize sm12 s (y + i) = t2 at *
            cases t1 <;> cases t2 <;> first
              | exact absurd rfl ht
              | (go_wp2_with fail
                 go_region
                 go_wp2_with fail
                 go_ret
                 exact ⟨false, rfl, ⟨fun q => (by cases q), fun q => absurd q HNO.out⟩, hb.drew⟩)
        · have HNO : Hid (¬ key12 n (S12 s) (sm12 s) x = key12 n (S12 s) (sm12 s) y) := HDF.out (fun q => hv (by rw [← HEQ.out.1, ← HEQ.out.2]; exact q.1))
          have hv2 : (v1 == v2) = false := by simp [hv]
          have hv3 : decide (v1 = v2) = false := by simp [hv]
          have hv4 : (v1 != v2) = true := by simp [hv]
          have hv5 : decide (¬ v1 = v2) = true := by simp [hv]
          go_wp2_with fail
          go_region
          go_wp2_with fail
          go_ret
          exact ⟨false, rfl, ⟨fun q => (by cases q), fun q => absurd q HNO.out⟩, hb.drew⟩
      · have h1i : ¬ (i : Int) < (n : Int) - (x : Int) := by omega
        have HNO : Hid (¬ key12 n (S12 s) (sm12 s) x = key12 n (S12 s) (sm12 s) y) := HA.out.fin hx hy hne (by omega) (by omega) (by omega)
        go_wp2_with fail
        go_ret
        exact ⟨false, rfl, ⟨fun q => (by cases q), fun q => absurd q HNO.out⟩, hb⟩
end Go.Proofs.Ytkpfailmmcelcaa
