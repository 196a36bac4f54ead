
import Derived.Test.YthplkcdockkiiaaSaR3
import Derived.Test.YthplkcdockkiiaaSaM6
namespace Go.Proofs.Ythplkcdockkiiaa
open Go.RowKit
set_option linter.unusedVariables false

/-! The document's sorted. -/
def SdQ12 (w : World) (s : List Int) (n lo hi : Nat) (e : Ending) (w' : World) : Prop := ∃ ra m rc L, e = .returned (.slice ra m rc) ∧ Hid (m = hi - lo) ∧ w'.ownsRow w.heap.size 3 1 (.slice ra m rc) m ((nz12 L).map (Value.int .i64)) ∧ m ≤ rc ∧ So12 n (S12 s) lo hi L ∧ Below w.heap.size w w'
/-- What is left of a list to be merged. -/
structure Rm12 (w : World) (a : Option Addr) (l c : Nat) (A : List Nat) : Prop where
  seg : SegZ w a (nz12 A)
  len : A.length = l
  cap : l ≤ c
theorem Rm12.tail {w : World} {g off l c x : Nat} {A : List Nat} (h : Rm12 w (some ⟨g, off, none⟩) (l + 1) (c + 1) (x :: A)) : (¬ c = 0 → Rm12 w (some ⟨g, off + 1, none⟩) l c A) ∧ (c = 0 → ∀ b, Rm12 w b l c A) := by
  have hl : A.length = l := by have := h.len; simpa using this
  have hc := h.cap
  refine ⟨fun _ => ⟨?_, hl, by omega⟩, fun h0 b => ⟨?_, hl, by omega⟩⟩
  · have := h.seg.dropZ 1
    simpa [nz12] using this
  · have : A = [] := List.eq_nil_of_length_eq_zero (by omega)
    subst this
    exact SegZ.nil _ _
set_option maxRecDepth 100000 in
set_option maxHeartbeats 4000000 in
theorem rsd12 (a : Option Addr) (s : List Int) (n cap : Nat) (hn : Hid (s.length = n)) (hb : n ≤ 16777216) : ∀ (d lo hi : Nat) (w : World), hi - lo ≤ d → lo ≤ hi → hi ≤ n → SegZ w a s → Calls Try.prog 36 #[.slice a n cap, .int .i64 (lo : Int), .int .i64 (hi : Int)] w (SdQ12 w s n lo hi) := by
  obtain ⟨i0, hi0, hz0, hz1, hz2⟩ := info_parts info_i12
  intro d
  induction d with
  | zero =>
    intro lo hi w hd h1 h2 hs
    have e1 : (hi : Int) - (lo : Int) < 1 := by omega
    go_enter Try.func36, Try.ntmps36
    go_wp2_with fail
    go_ret
    exact ⟨none, 0, 0, [], rfl, (by omega : _ = _), World.ownsRow_nil _ _ _ _, Nat.le_refl _, ⟨by simp; omega, fun j => by simp; omega, List.Pairwise.nil⟩, Below.refl _ _⟩
  | succ d ih =>
    intro lo hi w hd h1 h2 hs
    by_cases e0 : hi - lo < 1
    · have e1 : (hi : Int) - (lo : Int) < 1 := by omega
      go_enter Try.func36, Try.ntmps36
      go_wp2_with fail
      go_ret
      exact ⟨none, 0, 0, [], rfl, (by omega : _ = _), World.ownsRow_nil _ _ _ _, Nat.le_refl _, ⟨by simp; omega, fun j => by simp; omega, List.Pairwise.nil⟩, Below.refl _ _⟩
    have e0i : ¬ (hi : Int) - (lo : Int) < 1 := by omega
    by_cases e1 : hi - lo = 1
    · have e1i : (hi : Int) - (lo : Int) = 1 := by omega
      have hal : Below w.heap.size w (w.alloc (.cells (vi12 [(lo : Int)]) 3)) := (Below.refl _ _).alloc (Nat.le_refl _) _
      have HO : Hid ((w.alloc (.cells (vi12 [(lo : Int)]) 3)).ownsRow w.heap.size 3 1 (.slice (some ⟨w.heap.size, 0, none⟩) 1 1) 1 ((nz12 [lo]).map (Value.int .i64))) := (Rz12.new w [(lo : Int)]).own (Nat.le_refl _) (by simp)
      have HB : Hid _ := hal
      clear hal
      go_enter Try.func36, Try.ntmps36
      go_wp2_with fail
      go_ret
      exact ⟨_, 1, 1, [lo], rfl, (by omega : _ = _), HO.out, Nat.le_refl _, ⟨by simp; omega, fun j => by simp; omega, List.pairwise_singleton _ _⟩, HB.out⟩
    have e1i : ¬ (hi : Int) - (lo : Int) = 1 := by omega
    obtain ⟨mid, hmid⟩ : ∃ mid, mid = (lo + hi) / 2 := ⟨_, rfl⟩
    have em : ((lo : Int) + (hi : Int)).tdiv 2 = (mid : Int) := by rw [Int.tdiv_eq_ediv_of_nonneg (by omega)]; omega
    have em2 : ((lo : Int) + (hi : Int)) / 2 = (mid : Int) := by omega
    have hm1 : lo ≤ mid := by omega
    have hm2 : mid ≤ hi := by omega
    have IA := ih lo mid w (by omega) hm1 (by omega) hs
    have IB : Hid (∀ w1, Below w.heap.size w w1 → Calls Try.prog 36 #[.slice a n cap, .int .i64 (mid : Int), .int .i64 (hi : Int)] w1 (SdQ12 w1 s n mid hi)) := fun w1 b1 => ih mid hi w1 (by omega) hm2 h2 (hs.old b1)
    have HSS : Hid (∀ w1, Below w.heap.size w w1 → SegZ w1 a s) := fun w1 b1 => hs.old b1
    have HBD : Hid (∀ lo' hi' (L : List Nat), hi' ≤ n → So12 n (S12 s) lo' hi' L → ∀ z ∈ nz12 L, -9223372036854775808 ≤ z ∧ z ≤ 9223372036854775807) := fun lo' hi' L h5 hL => nz12_bd (n := n) (fun j hj => by have := (hL.mem j).1 hj; omega) hb
    clear ih hmid
    go_enter Try.func36, Try.ntmps36
    go_wp2_with (first
      | (go_at_call 36; refine IA.mono ?_; rintro e1' w1 ⟨aa, la, ca, LA, rfl, hla, oA, hca, hA, B1⟩; clear IA)
      | (go_at_call 36; refine (IB.out w1 B1).mono ?_; rintro e2' w2 ⟨ba, lb, cb, LB, rfl, hlb, oB, hcb, hB, B2⟩))
    have RA0 : Rm12 w2 aa la ca LA := ⟨(own_segZ oA (HBD.out lo mid LA (by omega) hA)).old B2, by rw [hA.len, hla.out], hca⟩
    have RB0 : Rm12 w2 ba lb cb LB := ⟨own_segZ oB (HBD.out mid hi LB h2 hB), by rw [hB.len, hlb.out], hcb⟩
    have M0 := Mg12.start hm1 hm2 hA hB
    have C2 : Below w.heap.size w w2 := B1.trans (B2.mono B1.size)
    have HS2 : Hid (SegZ w2 a s) := HSS.out w2 C2
    clear oA oB hA hB B1 B2 IB hs
    go_loopw [8, 9, 10] (fun t8 t9 t10 wr => ∃ (A B O : List Nat) (l1 c1 l2 c2 l3 c3 : Nat) (p1 p2 p3 : Option Addr), t8 = .slice p1 l1 c1 ∧ t9 = .slice p2 l2 c2 ∧ t10 = .slice p3 l3 c3 ∧ Hid (O.length = l3) ∧ Rm12 w2 p1 l1 c1 A ∧ Rm12 w2 p2 l2 c2 B ∧ wr.ownsRow w2.heap.size 3 1 (.slice p3 l3 c3) l3 ((nz12 O).map (Value.int .i64)) ∧ Hid (Mg12 n (S12 s) lo hi A B O) ∧ Below w2.heap.size w2 wr) (fun t8 t9 _ _ => (match t8 with | .slice _ l _ => l | _ => 0) + (match t9 with | .slice _ l _ => l | _ => 0))
    case atStart => exact ⟨LA, LB, [], la, ca, lb, cb, 0, 0, aa, ba, none, rfl, rfl, rfl, (rfl : _ = _), RA0, RB0, World.ownsRow_nil _ _ _ _, M0, Below.refl _ _⟩
    case round =>
      obtain ⟨A, B, O, l1, c1, l2, c2, l3, c3, p1, p2, p3, rfl, rfl, rfl, hO, RA, RB, own3, M, hbw⟩ := hrel
      have hsz : w2.heap.size ≤ wr.heap.size := hbw.size
      have HML := M.out.len
      have hl3 : l3 ≤ 16777216 := by have := hO.out; omega
      have HOW : Hid (∀ q, (wr.drewN q).ownsRow w2.heap.size 3 1 (.slice p3 l3 c3) l3 ((nz12 O).map (Value.int .i64))) := fun q => own_below own3 ⟨rfl, rfl, rfl, Nat.le_refl _, fun _ _ => rfl⟩
      have HBW : Hid (∀ q, Below w2.heap.size w2 (wr.drewN q)) := fun q => ⟨hbw.os, hbw.tape, hbw.output, hbw.size, hbw.block⟩
      clear HML
      cases A with
      | nil =>
        obtain rfl : l1 = 0 := by have := RA.len; simpa using this.symm
        cases B with
        | nil =>
          obtain rfl : l2 = 0 := by have := RB.len; simpa using this.symm
          have HD := M.out.done
          have hc3 : l3 ≤ c3 := by
            rcases own3.2 with ⟨h5, h6⟩ | ⟨g, cp, cur, h5, _, _, h6, _⟩
            · omega
            · simp only [Value.slice.injEq] at h5; omega
          have hol : l3 = hi - lo := by rw [← hO.out]; exact HD.len
          have HQ : Hid (l3 = hi - lo) := hol
          clear hol
          go_wp2_with fail
          go_ret
          exact ⟨p3, l3, c3, O, rfl, HQ.out, own_base own3 C2.size, hc3, HD, C2.trans (hbw.mono C2.size)⟩
        | cons y B =>
          obtain ⟨m2, rfl⟩ : ∃ m2, l2 = m2 + 1 := ⟨B.length, by have := RB.len; simp at this; omega⟩
          obtain ⟨d2, rfl⟩ : ∃ d2, c2 = d2 + 1 := ⟨c2 - 1, by have := RB.cap; omega⟩
          obtain ⟨g2, f2, rfl, cB⟩ := (RB.seg.old hbw).at_ 0 (by simp [nz12])
          simp only [nz12, List.map_cons, List.getD_cons_zero, Nat.add_zero] at cB
          have hq1 : ¬ (m2 : Int) + 1 = 0 := by omega
          have hq2 : (((m2 : Int) + 1) == 0) = false := by simp [hq1]
          have hq3 : decide ((m2 : Int) + 1 = 0) = false := by simp [hq1]
          have hq4 : ¬ m2 + 1 = 0 := by omega
          have HMG : Hid (Mg12 n (S12 s) lo hi [] B (O ++ [y])) := M.out.right h2 (fun x r hx => by cases hx)
          have RT := RB.tail
          clear M RB own3
          by_cases hz : d2 = 0
          · subst hz
            go_wp2_with fail
            go_region
            go_wp2_with (first
              | (at_builtin; refine wpList_ap12 rfl (.tmp 67) (.tmp 71) 22 rfl w2.heap.size 3 i0 (.int .i64 0) 8 Try.underlying22 hi0 hz0 hz1 hz2 rfl _ _ (HOW.out _) rfl rfl (by omega) (by omega) hsz ?_; intro ga gc w3 own4 hk4 hat4))
            have B4 : Below w2.heap.size w2 w3 := (HBW.out _).trans (hk4.below (fun q e => ((HOW.out 0).lt q e).1) hsz)
            go_roundw
            case rel => exact ⟨_, _, O ++ [y], _, _, _, _, l3 + 1, gc, _, _, some ⟨ga, 0, none⟩, rfl, rfl, rfl, (by simp [hO.out] : _ = _), RA, (RT.2 (by first | trivial | rfl) _), by simpa [nz12] using own4, HMG.out, B4⟩
            case measure => simp; try omega
          · have hzi : ¬ d2 + 1 = 1 := by omega
            go_wp2_with fail
            go_region
            go_wp2_with (first
              | (at_builtin; refine wpList_ap12 rfl (.tmp 67) (.tmp 71) 22 rfl w2.heap.size 3 i0 (.int .i64 0) 8 Try.underlying22 hi0 hz0 hz1 hz2 rfl _ _ (HOW.out _) rfl rfl (by omega) (by omega) hsz ?_; intro ga gc w3 own4 hk4 hat4))
            have B4 : Below w2.heap.size w2 w3 := (HBW.out _).trans (hk4.below (fun q e => ((HOW.out 0).lt q e).1) hsz)
            go_roundw
            case rel => exact ⟨_, _, O ++ [y], _, _, _, _, l3 + 1, gc, _, _, some ⟨ga, 0, none⟩, rfl, rfl, rfl, (by simp [hO.out] : _ = _), RA, (RT.1 hz), by simpa [nz12] using own4, HMG.out, B4⟩
            case measure => simp; try omega
      | cons x A =>
        obtain ⟨m1, rfl⟩ : ∃ m1, l1 = m1 + 1 := ⟨A.length, by have := RA.len; simp at this; omega⟩
        obtain ⟨d1, rfl⟩ : ∃ d1, c1 = d1 + 1 := ⟨c1 - 1, by have := RA.cap; omega⟩
        obtain ⟨g1, f1, rfl, cA⟩ := (RA.seg.old hbw).at_ 0 (by simp [nz12])
        simp only [nz12, List.map_cons, List.getD_cons_zero, Nat.add_zero] at cA
        cases B with
        | nil =>
          obtain rfl : l2 = 0 := by have := RB.len; simpa using this.symm
          have HMG : Hid (Mg12 n (S12 s) lo hi A [] (O ++ [x])) := M.out.left (fun y r hy => by cases hy)
          have RT := RA.tail
          clear M RA own3
          by_cases hz : d1 = 0
          · subst hz
            go_wp2_with fail
            go_region
            go_wp2_with (first
              | (at_builtin; refine wpList_ap12 rfl (.tmp 59) (.tmp 63) 22 rfl w2.heap.size 3 i0 (.int .i64 0) 8 Try.underlying22 hi0 hz0 hz1 hz2 rfl _ _ (HOW.out _) rfl rfl (by omega) (by omega) hsz ?_; intro ga gc w3 own4 hk4 hat4))
            have B4 : Below w2.heap.size w2 w3 := (HBW.out _).trans (hk4.below (fun q e => ((HOW.out 0).lt q e).1) hsz)
            go_roundw
            case rel => exact ⟨_, _, O ++ [x], _, _, _, _, l3 + 1, gc, _, _, some ⟨ga, 0, none⟩, rfl, rfl, rfl, (by simp [hO.out] : _ = _), (RT.2 (by first | trivial | rfl) _), RB, by simpa [nz12] using own4, HMG.out, B4⟩
            case measure => simp; try omega
          · have hzi : ¬ d1 + 1 = 1 := by omega
            go_wp2_with fail
            go_region
            go_wp2_with (first
              | (at_builtin; refine wpList_ap12 rfl (.tmp 59) (.tmp 63) 22 rfl w2.heap.size 3 i0 (.int .i64 0) 8 Try.underlying22 hi0 hz0 hz1 hz2 rfl _ _ (HOW.out _) rfl rfl (by omega) (by omega) hsz ?_; intro ga gc w3 own4 hk4 hat4))
            have B4 : Below w2.heap.size w2 w3 := (HBW.out _).trans (hk4.below (fun q e => ((HOW.out 0).lt q e).1) hsz)
            go_roundw
            case rel => exact ⟨_, _, O ++ [x], _, _, _, _, l3 + 1, gc, _, _, some ⟨ga, 0, none⟩, rfl, rfl, rfl, (by simp [hO.out] : _ = _), (RT.1 hz), RB, by simpa [nz12] using own4, HMG.out, B4⟩
            case measure => simp; try omega
        | cons y B =>
          obtain ⟨m2, rfl⟩ : ∃ m2, l2 = m2 + 1 := ⟨B.length, by have := RB.len; simp at this; omega⟩
          obtain ⟨d2, rfl⟩ : ∃ d2, c2 = d2 + 1 := ⟨c2 - 1, by have := RB.cap; omega⟩
          obtain ⟨g2, f2, rfl, cB⟩ := (RB.seg.old hbw).at_ 0 (by simp [nz12])
          simp only [nz12, List.map_cons, List.getD_cons_zero, Nat.add_zero] at cB
          have hq1 : ¬ (m2 : Int) + 1 = 0 := by omega
          have hq2 : (((m2 : Int) + 1) == 0) = false := by simp [hq1]
          have hq3 : decide ((m2 : Int) + 1 = 0) = false := by simp [hq1]
          have hq4 : ¬ m2 + 1 = 0 := by omega
          have hxn := (M.out.mem x).1 (Or.inr (Or.inl (by simp)))
          have hyn := (M.out.mem y).1 (Or.inr (Or.inr (by simp)))
          have HLS : Hid (∀ q, Calls Try.prog 43 #[.slice a n cap, .int .i64 (x : Int), .int .i64 (y : Int)] (wr.drewN q) (LrQ12 (wr.drewN q) (Ls12 n (S12 s) x y))) := fun q => rless12 a s n cap x y (wr.drewN q) ((HS2.out.old hbw).drewN q) hn (by omega) (by omega) (by omega)
          by_cases hlt : Ls12 n (S12 s) x y
          · have HL : Hid (∀ q, Calls Try.prog 43 #[.slice a n cap, .int .i64 (x : Int), .int .i64 (y : Int)] (wr.drewN q) fun e w' => e = .returned (.bool true) ∧ ∃ m, w' = (wr.drewN q).drewN m) := fun q => (HLS.out q).mono fun e w' ⟨B', he, hB', d', hd'⟩ => ⟨by rw [he, hB'.2 hlt], d', hd'⟩
            have HMG : Hid (Mg12 n (S12 s) lo hi A (y :: B) (O ++ [x])) := M.out.left (fun y' r hy => by cases hy; exact hlt)
            have RT := RA.tail
            clear M RA own3 HLS
            by_cases hz : d1 = 0
            · subst hz
              go_wp2_with fail
              go_quiet ((go_at_call 43; exact Calls.quiet_of (HL.out _)))
              go_wp2_with (first
                | (at_builtin; refine wpList_ap12 rfl (.tmp 59) (.tmp 63) 22 rfl w2.heap.size 3 i0 (.int .i64 0) 8 Try.underlying22 hi0 hz0 hz1 hz2 rfl _ _ (HOW.out _) rfl rfl (by omega) (by omega) hsz ?_; intro ga gc w3 own4 hk4 hat4))
              have B4 : Below w2.heap.size w2 w3 := (HBW.out _).trans (hk4.below (fun q e => ((HOW.out 0).lt q e).1) hsz)
              go_roundw
              case rel => exact ⟨_, _, O ++ [x], _, _, _, _, l3 + 1, gc, _, _, some ⟨ga, 0, none⟩, rfl, rfl, rfl, (by simp [hO.out] : _ = _), (RT.2 (by first | trivial | rfl) _), RB, by simpa [nz12] using own4, HMG.out, B4⟩
              case measure => simp; try omega
            · have hzi : ¬ d1 + 1 = 1 := by omega
              go_wp2_with fail
              go_quiet ((go_at_call 43; exact Calls.quiet_of (HL.out _)))
              go_wp2_with (first
                | (at_builtin; refine wpList_ap12 rfl (.tmp 59) (.tmp 63) 22 rfl w2.heap.size 3 i0 (.int .i64 0) 8 Try.underlying22 hi0 hz0 hz1 hz2 rfl _ _ (HOW.out _) rfl rfl (by omega) (by omega) hsz ?_; intro ga gc w3 own4 hk4 hat4))
              have B4 : Below w2.heap.size w2 w3 := (HBW.out _).trans (hk4.below (fun q e => ((HOW.out 0).lt q e).1) hsz)
              go_roundw
              case rel => exact ⟨_, _, O ++ [x], _, _, _, _, l3 + 1, gc, _, _, some ⟨ga, 0, none⟩, rfl, rfl, rfl, (by simp [hO.out] : _ = _), (RT.1 hz), RB, by simpa [nz12] using own4, HMG.out, B4⟩
              case measure => simp; try omega
          · have HL : Hid (∀ q, Calls Try.prog 43 #[.slice a n cap, .int .i64 (x : Int), .int .i64 (y : Int)] (wr.drewN q) fun e w' => e = .returned (.bool false) ∧ ∃ m, w' = (wr.drewN q).drewN m) := fun q => (HLS.out q).mono fun e w' ⟨B', he, hB', d', hd'⟩ => ⟨by
                cases B'
                · exact he
                · exact absurd (hB'.1 rfl) hlt, d', hd'⟩
            have HMG : Hid (Mg12 n (S12 s) lo hi (x :: A) B (O ++ [y])) := M.out.right h2 (fun x' r hx => by cases hx; exact hlt)
            have RT := RB.tail
            clear M RB own3 HLS
            by_cases hz : d2 = 0
            · subst hz
              go_wp2_with fail
              go_quiet ((go_at_call 43; exact Calls.quiet_of (HL.out _)))
              go_wp2_with (first
                | (at_builtin; refine wpList_ap12 rfl (.tmp 67) (.tmp 71) 22 rfl w2.heap.size 3 i0 (.int .i64 0) 8 Try.underlying22 hi0 hz0 hz1 hz2 rfl _ _ (HOW.out _) rfl rfl (by omega) (by omega) hsz ?_; intro ga gc w3 own4 hk4 hat4))
              have B4 : Below w2.heap.size w2 w3 := (HBW.out _).trans (hk4.below (fun q e => ((HOW.out 0).lt q e).1) hsz)
              go_roundw
              case rel => exact ⟨_, _, O ++ [y], _, _, _, _, l3 + 1, gc, _, _, some ⟨ga, 0, none⟩, rfl, rfl, rfl, (by simp [hO.out] : _ = _), RA, (RT.2 (by first | trivial | rfl) _), by simpa [nz12] using own4, HMG.out, B4⟩
              case measure => simp; try omega
            · have hzi : ¬ d2 + 1 = 1 := by omega
              go_wp2_with fail
              go_quiet ((go_at_call 43; exact Calls.quiet_of (HL.out _)))
              go_wp2_with (first
                | (at_builtin; refine wpList_ap12 rfl (.tmp 67) (.tmp 71) 22 rfl w2.heap.size 3 i0 (.int .i64 0) 8 Try.underlying22 hi0 hz0 hz1 hz2 rfl _ _ (HOW.out _) rfl rfl (by omega) (by omega) hsz ?_; intro ga gc w3 own4 hk4 hat4))
              have B4 : Below w2.heap.size w2 w3 := (HBW.out _).trans (hk4.below (fun q e => ((HOW.out 0).lt q e).1) hsz)
              go_roundw
              case rel => exact ⟨_, _, O ++ [y], _, _, _, _, l3 + 1, gc, _, _, some ⟨ga, 0, none⟩, rfl, rfl, rfl, (by simp [hO.out] : _ = _), RA, (RT.1 hz), by simpa [nz12] using own4, HMG.out, B4⟩
              case measure => simp; try omega
end Go.Proofs.Ythplkcdockkiiaa
