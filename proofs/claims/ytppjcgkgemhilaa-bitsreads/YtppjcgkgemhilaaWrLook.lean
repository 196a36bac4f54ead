import Derived.Test.YtppjcgkgemhilaaWrWhole
import Derived.Test.YtppjcgkgemhilaaOwnUse
namespace Go.Proofs.Ytppjcgkgemhilaa
open Go.RowKit
set_option linter.unusedVariables false

set_option maxHeartbeats 4000000 in
theorem writes_look (b bx B : Nat) (v u : Value) (L : List Bool) (c : Int) (x : Int) (n : Int) (w : World) (h : Pair w b bx B v u L) (hc : c ≠ 0 ∧ c ≠ 1 ∧ c ≠ 2 ∧ c ≠ 3) (hl : L.length ≤ 1073741824) (ba : Option Addr) (bl bc : Nat) :
    Calls Try.prog 10 #[.pointer (some ⟨b, 0, none⟩), .pointer (some ⟨bx, 0, none⟩), .agg #[.int .i64 c, .int .u64 x, .int .i64 n, .slice ba bl bc]] w fun e w' => e = .returned (.bool true) ∧ Done w w' b bx B v u L := by
  obtain ⟨wA, hwA⟩ : ∃ wA, wA = w.alloc (.cells #[.int .i64 c, .int .u64 x, .int .i64 n, .slice ba bl bc] 34) := ⟨_, rfl⟩
  have bA : Below w.heap.size w wA := by rw [hwA]; exact (Below.refl _ _).alloc (Nat.le_refl _) _
  have HW : Hid (wA = w.alloc (.cells #[.int .i64 c, .int .u64 x, .int .i64 n, .slice ba bl bc] 34)) := hwA
  have pA := h.old bA
  have e0 : (c == 0) = false := by simp [hc.1]
  have e1 : (c == 1) = false := by simp [hc.2.1]
  have e2 : (c == 2) = false := by simp [hc.2.2.1]
  have e3 : (c == 3) = false := by simp [hc.2.2.2]
  have hTbd := toB_bd L
  have hTl : (toB L).length ≤ 1073741824 := by rw [toB_len]; omega
  have C1 := bytes_any b B v L wA pA.g (by omega)
  obtain ⟨T, hT⟩ : ∃ T, T = toB L := ⟨_, rfl⟩
  rw [← hT] at C1 hTbd hTl
  have HT : Hid (T = toB L) := hT
  clear hwA hc hT
  go_enter Try.func10, Try.ntmps10
  go_wp2_with fail
  rw [← HW.out]
  refine C1.mono ?_
  rintro e w1 ⟨a1, c1, rfl, o1, b1⟩
  have p1 := pA.old b1
  have C2 := bytes_any b B v L w1 p1.g (by omega)
  rw [← HT.out] at C2
  clear C1
  go_wp2_with fail
  refine C2.mono ?_
  rintro e w2 ⟨a2, c2, rfl, o2, b2⟩
  have p2 := p1.old b2
  have o1' := own_below o1 b2
  have z1 := b1.size
  have z2 := b2.size
  have r1 : Row 5 w2 wA.heap.size (.slice a1 T.length c1) T := o1'
  have r2 : Row 5 w2 wA.heap.size (.slice a2 T.length c2) T := own_base o2 z1
  have ap12 : Ap (Value.slice a1 T.length c1).ownBlock (Value.slice a2 T.length c2).ownBlock := ap_of (eT := 5) o1 (Nat.le_refl _) o2 (Nat.le_refl _)
  have s1 : Seg w2 a1 T := (row_seg r1 hTbd).1
  have s2 : Seg w2 a2 T := (row_seg r2 hTbd).1
  have HL : Hid (∀ W, Below w2.heap.size w2 W → Calls Try.prog 17 #[.pointer (some ⟨b, 0, none⟩)] W fun e w' => e = .returned (.int .i64 (L.length : Int)) ∧ Below w2.heap.size w2 w') := by
    intro W hW
    refine (len_any b B v L W (p2.old hW).g (by omega)).mono ?_
    rintro e w' ⟨rfl, hb⟩
    exact ⟨rfl, hW.trans (hb.mono hW.size)⟩
  have HB : Hid (∀ W, Below w2.heap.size w2 W → Calls Try.prog 32 #[.pointer (some ⟨bx, 0, none⟩)] W fun e w' => ∃ a c, e = .returned (.slice a T.length c) ∧ Seg w' a T ∧ Below w2.heap.size w2 w') := by
    intro W hW
    have := rbytes_any bx B u L W (p2.old hW).x (by omega)
    rw [← HT.out] at this
    refine this.mono ?_
    rintro e w' ⟨a', c', rfl, ho, hb⟩
    obtain ⟨_, a3, c3, hv, hs, _⟩ := own_seg ho (M := 255) (by decide) hTbd
    cases hv
    exact ⟨a', c', rfl, hs, hW.trans (hb.mono hW.size)⟩
  have HS : Hid (∀ W xa xc ya yc, (xa = a1 ∨ xa = a2) → Below w2.heap.size w2 W → Seg W ya T → Calls Try.prog 25 #[.slice xa T.length xc, .slice ya T.length yc] W fun e w' => e = .returned (.bool true) ∧ w' = W) := by
    intro W xa xc ya yc hx hW hy
    have hxs : Seg W xa T := by
      rcases hx with rfl | rfl
      · exact s1.old hW
      · exact s2.old hW
    have := same_any xa ya T T xc yc W hxs hy
    rw [beq_self_list] at this
    exact this
  obtain ⟨xa, xcap, hu, hRB⟩ := p2.x
  have HC : Hid (∀ W, Below w2.heap.size w2 W → W.cell? ⟨bx, 0, none⟩ = some (.slice xa L.length xcap)) := fun W hW => (hW.cell (p := ⟨bx, 0, none⟩) hRB.b_lt).trans hRB.cell0
  have bt0 : Below w2.heap.size w2 w2.drew := (Below.refl _ _).drew
  have hcd := HC.out _ bt0
  have HU : Hid (u = .slice xa L.length xcap) := hu
  clear C2 o1 o2 o1' s1 s2 hRB hu
  go_wp2_with fail
  go_region_held3 (fun w' => w'.cell? ⟨bx, 0, none⟩ = some (.slice xa L.length xcap))
    (first | go_keep | (exact HC.out _ (by assumption)))
    (first
      | (go_at_call 17; refine (HL.out _ (by assumption)).mono ?_; rintro e wl ⟨rfl, btl⟩)
      | (go_at_call 32; refine (HB.out _ (by assumption)).mono ?_; rintro e wm ⟨am, cm, rfl, sm, btm⟩)
      | (go_at_call 25; refine (HS.out _ _ _ _ _ (by first | exact .inl rfl | exact .inr rfl) (by assumption) (by assumption)).mono ?_; rintro e ws ⟨rfl, hws⟩; subst ws))
  have rw1 : Row 5 wm wA.heap.size (.slice a1 T.length c1) T := row_below r1 btm
  have rw2 : Row 5 wm wA.heap.size (.slice a2 T.length c2) T := row_below r2 btm
  have zm := btm.size
  have CO := own_two wA.heap.size _ _ T T wm rw1 rw2 ap12 (by omega) (by omega) (by omega)
  have bAm : Below wA.heap.size wA wm := b1.trans ((b2.mono z1).trans (btm.mono (by omega)))
  clear HL HB HS HC bt0 hcd r1 r2 rw1 rw2 ap12 sm
  go_wp2_with fail
  refine CO.mono ?_
  rintro e wO ⟨rfl, bO⟩
  have bAO := bAm.trans bO
  have pO := pA.old bAO
  have C5 := bytes_any b B v L wO pO.g (by omega)
  rw [← HT.out] at C5
  clear CO
  go_wp2_with fail
  refine C5.mono ?_
  rintro e w5 ⟨a5, c5, rfl, o5, b5⟩
  have p5 := pO.old b5
  have C6 := rbytes_any bx B u L w5 p5.x (by omega)
  rw [← HT.out] at C6
  clear C5
  go_wp2_with fail
  refine C6.mono ?_
  rintro e w6 ⟨a6, c6, rfl, o6, b6⟩
  have o5' := own_below o5 b6
  obtain ⟨_, x5, y5, hv5, s5, _⟩ := own_seg o5' (M := 255) (by decide) hTbd
  cases hv5
  obtain ⟨_, x6, y6, hv6, s6, _⟩ := own_seg o6 (M := 255) (by decide) hTbd
  cases hv6
  have CS := same_any a5 a6 T T c5 c6 w6 s5 s6
  rw [beq_self_list] at CS
  clear C6 o5 o5' o6 s5 s6
  go_wp2_with fail
  refine CS.mono ?_
  rintro e w7 ⟨rfl, hw7⟩
  subst w7
  go_wp2
  go_ret
  have z5 := b5.size
  have zO := bO.size
  have bfin : Below wA.heap.size wA w6 := bAO.trans ((b5.mono (by omega)).trans (b6.mono (by omega)))
  exact ⟨rfl, Done.after bA ((pA.old bfin).done bfin) h.g.b_lt⟩
end Go.Proofs.Ytppjcgkgemhilaa
