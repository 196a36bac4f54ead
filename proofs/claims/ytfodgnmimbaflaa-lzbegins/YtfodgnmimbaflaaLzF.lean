
import Derived.Test.YtfodgnmimbaflaaLzD
namespace Go.Proofs.Ytfodgnmimbaflaa
open Go.RowKit
set_option linter.unusedVariables false
set_option linter.unusedSimpArgs false

/-- What Parse's tokens are (P7.6, P7.7). -/
theorem parse7_all {D : List Int} {win chain : Int} {lazy : Bool} (h : opt7 win chain = 0) : check7 win (parse7 D win chain lazy) = (0, 0) ∧ xpd7 win (parse7 D win chain lazy) = D ∧ siz7 (parse7 D win chain lazy) = D.length ∧ (chain = 0 → (parse7 D win chain lazy).length = D.length) := by
  obtain ⟨h1, h2, h3, h4⟩ := opt7_ok h
  obtain ⟨W, rfl⟩ := Int.eq_ofNat_of_zero_le (show 0 ≤ win by omega)
  obtain ⟨C, rfl⟩ := Int.eq_ofNat_of_zero_le h3
  have ht := par7_tz D W C lazy
  obtain ⟨a1, a2, a3, a4⟩ := Tz7.all (by omega) _ _ ht
  have e : parse7 D W C lazy = par7 D W C lazy := by unfold parse7; rw [if_pos h]; rfl
  have hc : check7 W (par7 D W C lazy) = (0, 0) := by
    unfold check7
    rw [if_neg (by omega)]
    exact chk7_ok _ _ _ _ a1
  rw [e]
  refine ⟨hc, ?_, by simpa using a3, fun h0 => ?_⟩
  · unfold xpd7
    rw [hc, if_pos rfl]
    simpa using a2
  · obtain rfl : C = 0 := by omega
    exact par7_chain0 D W lazy
set_option maxRecDepth 100000 in
set_option maxHeartbeats 4000000 in
theorem lzBack_in (w : World) (a : Option Addr) (n cap : Nat) (D : List Int) (hn : D.length = n) (hs : Seg w a D) (hcap : n ≤ cap) (hnil : a = none → cap = 0) (hl : n ≤ 1073741824) (win chain : Int) (lazy : Bool) :
    Calls Try.prog 7 #[.slice a n cap, look7 win chain lazy] w fun e w' => e = .returned (.bool true) ∧ Below w.heap.size w w' := by
  obtain ⟨wA, hwA⟩ : ∃ wA, wA = w.alloc (.cells #[.int .i64 win, .int .i64 chain, .bool lazy] 44) := ⟨_, rfl⟩
  have bA : Below w.heap.size w wA := by rw [hwA]; exact below_box _ _
  have lA : LkAt wA w.heap.size win chain lazy := boxL hwA
  have HWA : Hid (wA = w.alloc (.cells #[.int .i64 win, .int .i64 chain, .bool lazy] 44)) := hwA
  obtain ⟨ob, hob⟩ : ∃ ob, ob = w.heap.size := ⟨_, rfl⟩
  have HOB : Hid (ob = w.heap.size) := hob
  rw [← hob] at lA
  have hol := lA.lt
  have HLA : Hid (∀ W, Below wA.heap.size wA W → LkAt W ob win chain lazy) := fun W hW => lA.of_block (hW.block ob hol)
  have HSA : Hid (∀ W, Below wA.heap.size wA W → Seg W a D) := fun W hW => (hs.old bA).old hW
  subst hn
  have hTl := parse7_len (D := D) (win := win) (chain := chain) (lazy := lazy)
  have hTf := parse7_fit (D := D) (win := win) (chain := chain) (lazy := lazy) hs.mem (by omega)
  have hbd := hs.mem
  have CK : Hid (∀ W, Calls Try.prog 22 #[look7 win chain lazy] W fun e w' => e = .returned (look7 win chain lazy) ∧ Below W.heap.size W w') := look7_any win chain lazy
  have HP : Hid (∀ W, Below wA.heap.size wA W → Calls Try.prog 21 #[.slice a D.length cap, look7 win chain lazy] W (ParQ W 56 (parse7 D win chain lazy) (opt7 win chain))) := fun W hW => ppar7 D a D.length cap win chain lazy rfl W (HSA.out W hW) hcap hnil hl
  have HO2 : Hid (∀ W, Calls Try.prog 25 #[look7 win chain lazy] W fun e w' => e = .returned (.int .i64 (opt7 win chain)) ∧ Below W.heap.size W w') := ropt7 win chain lazy
  have HLK : Hid (look7 win chain lazy = .agg #[.int .i64 win, .int .i64 chain, .bool lazy]) := rfl
  have hA := parse7_all (D := D) (win := win) (chain := chain) (lazy := lazy)
  obtain ⟨l0, l1, l2⟩ := lA
  clear hwA hob hs
  by_cases ho : opt7 win chain = 0
  · obtain ⟨e1, e2, e3, e4⟩ := hA ho
    rw [ho] at HP
    generalize parse7 D win chain lazy = T at *
    clear hA HO2 ho
    rw [HLK.out]
    go_enter Try.func7, Try.ntmps7
    go_wp2_with fail
    rw [← HWA.out, ← HOB.out]
    refine (CK.out wA).mono ?_
    rintro e w1 ⟨rfl, b1⟩
    go_wp2_with fail
    refine (HP.out w1 b1).mono ?_
    rintro e w2 ⟨xa, xc, rfl, O2, b2⟩
    have B2 : Below wA.heap.size wA w2 := b1.trans (b2.mono b1.size)
    obtain ⟨fc, fn, _⟩ := own_factsT O2
    have s2 : SegT w2 xa T := own_segT O2 rfl hTf
    obtain ⟨k0, k1, k2⟩ := HLA.out w2 B2
    have HC : Hid (∀ W, Below w2.heap.size w2 W → Calls Try.prog 11 #[.int .i64 win, .slice xa T.length xc] W fun e w' => e = .returned (.tuple #[.int .i64 0, .int .i64 0]) ∧ Below W.heap.size W w') := fun W hW => by
      have := pchk7 win T xa T.length xc rfl W (s2.old hW) fc fn (by omega)
      rw [e1] at this
      exact this
    have HE : Hid (∀ W, Below w2.heap.size w2 W → Calls Try.prog 13 #[.int .i64 win, .slice xa T.length xc] W (ExpQ W D 0)) := fun W hW => by
      have := pexp7 win T xa T.length xc rfl W (s2.old hW) fc fn (by omega)
      rw [e1, e2] at this
      exact this
    have HZ : Hid (∀ W, Below w2.heap.size w2 W → Calls Try.prog 16 #[.slice xa T.length xc] W fun e w' => e = .returned (.int .i64 (D.length : Int)) ∧ Below W.heap.size W w') := fun W hW => by
      have := psiz7 T xa T.length xc rfl W (s2.old hW) fc fn (by omega)
      rw [e3] at this
      exact this
    have hle : (T.length : Int) ≤ (D.length : Int) := by omega
    have HCH : Hid (chain = 0 → T.length = D.length) := e4
    clear O2 s2 e1 e2 e3 e4 CK HP
    generalize T.length = tl at *
    go_wp2_with fail
    refine (HC.out w2 (Below.refl _ _)).mono ?_
    rintro e w3 ⟨rfl, b3⟩
    have B3 := B2.trans (b3.mono B2.size)
    obtain ⟨m0, m1, m2⟩ := HLA.out w3 B3
    clear k0 k1 k2
    go_wp2_with fail
    refine (HE.out w3 b3).mono ?_
    rintro e w4 ⟨ya, yc, rfl, O4, b4⟩
    have B4 := B3.trans (b4.mono B3.size)
    have b24 := b3.trans (b4.mono b3.size)
    obtain ⟨_, _, _, hv, sy, _⟩ := own_seg O4 (M := 255) (by decide) hbd
    cases hv
    have CS := bsame_any ya a D D yc cap w4 sy (HSA.out w4 B4)
    rw [beq_self7] at CS
    obtain ⟨n0, n1, n2⟩ := HLA.out w4 B4
    clear m0 m1 m2 O4 sy
    go_wp2_with fail
    refine CS.mono ?_
    rintro e w5 ⟨rfl, hw5⟩
    subst hw5
    go_wp2_with fail
    refine (HZ.out _ b24).mono ?_
    rintro e w6 ⟨rfl, b6⟩
    have B6 := B4.trans (b6.mono B4.size)
    obtain ⟨q0, q1, q2⟩ := HLA.out w6 B6
    clear n0 n1 n2 CS
    by_cases hc0 : chain = 0
    · have htl := HCH.out hc0
      subst hc0
      rw [htl]
      clear htl HCH
      go_wp2_with fail
      refine (lives7 w6).mono ?_
      rintro e w7 ⟨rfl, b7⟩
      have B7 := B6.trans (b7.mono B6.size)
      go_wp2_with fail
      go_ret
      exact ⟨rfl, bA.trans (B7.mono bA.size)⟩
    · go_wp2_with fail
      refine (lives7 w6).mono ?_
      rintro e w7 ⟨rfl, b7⟩
      have B7 := B6.trans (b7.mono B6.size)
      go_wp2_with fail
      go_ret
      exact ⟨rfl, bA.trans (B7.mono bA.size)⟩
  · have e0 : parse7 D win chain lazy = [] := by unfold parse7; rw [if_neg ho]
    rw [e0, opt7_no ho] at HP
    have HO3 : Hid (∀ W, Calls Try.prog 25 #[.agg #[.int .i64 win, .int .i64 chain, .bool lazy]] W fun e w' => e = .returned (.int .i64 72) ∧ Below W.heap.size W w') := fun W => by
      have := HO2.out W
      rw [opt7_no ho] at this
      exact this
    clear hA HO2 ho hTl hTf e0
    rw [HLK.out]
    go_enter Try.func7, Try.ntmps7
    go_wp2_with fail
    rw [← HWA.out, ← HOB.out]
    refine (CK.out wA).mono ?_
    rintro e w1 ⟨rfl, b1⟩
    go_wp2_with fail
    refine (HP.out w1 b1).mono ?_
    rintro e w2 ⟨xa, xc, rfl, O2, b2⟩
    have B2 : Below wA.heap.size wA w2 := b1.trans (b2.mono b1.size)
    obtain ⟨k0, k1, k2⟩ := HLA.out w2 B2
    clear O2
    go_wp2_with fail
    refine (HO3.out w2).mono ?_
    rintro e w3 ⟨rfl, b3⟩
    have B3 := B2.trans (b3.mono B2.size)
    go_wp2_with fail
    go_ret
    exact ⟨rfl, bA.trans (B3.mono bA.size)⟩
end Go.Proofs.Ytfodgnmimbaflaa
