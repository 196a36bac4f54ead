
import Derived.Test.YtbgnlbgoeogbaaaSaB2
import Derived.Test.YtbgnlbgoeogbaaaSaRf
namespace Go.Proofs.Ytbgnlbgoeogbaaa
open Go.RowKit
set_option linter.unusedVariables false

/-! SaisBuckets. -/
theorem lent12_len5 (s : List Int) (n : Nat) (h : s.length = n) : (lent12 s).length = n + 4 := by simp [lent12, h]
set_option maxRecDepth 100000 in
set_option maxHeartbeats 2000000 in
theorem rbkn12 (k : Int) (a : Option Addr) (s : List Int) (n cap : Nat) (w : World) (hs : SegZ w a s) (hn : Hid (s.length = n)) (hb : n ≤ 9223372036854775807) (hk : -9223372036854775808 ≤ k ∧ k ≤ 9223372036854775807) (hr : ¬ ref12 k s = 0) :
    Calls Try.prog 9 #[.int .i64 k, .slice a n cap] w fun e w' => e = .returned (.tuple #[.slice none 0 0, .slice none 0 0, .int .i64 (ref12 k s)]) ∧ Below w.heap.size w w' := by
  have HR := rwrg12 k a s n cap w hs hn hb hk
  have bd := ref12_bd k s
  generalize ref12 k s = v at *
  go_enter Try.func9, Try.ntmps9
  go_wp2_with (first
    | (go_at_call 32; refine HR.mono ?_; rintro e1 w1 ⟨rfl, B1⟩))
  refine bodyPost_ret (results_tmp3 rfl _ _ _) rfl ?_
  exact ⟨rfl, B1⟩
set_option maxRecDepth 100000 in
set_option maxHeartbeats 8000000 in
theorem saisBuckets_walk (w : World) (k : Int) (hlo : -9223372036854775808 ≤ k) (hhi : k ≤ 9223372036854775807) (a : Option Addr) (s : List Int) (ca : Nat) (hx : SegZ w a s) (hc : s.length ≤ ca) (hna : a = none → ca = 0) (hl : s.length * 8 ≤ 140737488351232) :
    Calls Try.prog 3 #[.int .i64 k, .slice a s.length ca] w fun e w' => e = .returned (.bool true) ∧ Below w.heap.size w w' := by
  generalize hn0 : s.length = n at *
  have hn : Hid (s.length = n) := hn0
  have HLD : Hid (∀ w1, Below w.heap.size w w1 → Calls Try.prog 10 #[.slice a n ca] w1 fun e w' => ∃ g cap', e = .returned (.slice (some ⟨g, 0, none⟩) (n + 4) cap') ∧ SegZ w' (some ⟨g, 0, none⟩) (lent12 s) ∧ n + 4 ≤ cap' ∧ Below w1.heap.size w1 w') := fun w1 b1 => by
    have h5 := lend12 a s ca w1 (hx.old b1) hna (by rw [hn0]; exact hl)
    rw [lent12_len5 s n hn0, hn0] at h5
    refine h5.mono ?_
    rintro e w' ⟨g, cap', rfl, o5, h6, b5⟩
    exact ⟨g, cap', rfl, own_segZ o5 (lent12_bd hx.mem), h6, b5⟩
  have HSA : Hid (∀ w5 g g2 c c2, SegZ w5 (some ⟨g, 0, none⟩) (lent12 s) → SegZ w5 (some ⟨g2, 0, none⟩) (lent12 s) → Calls Try.prog 14 #[.slice (some ⟨g, 0, none⟩) (n + 4) c, .slice (some ⟨g2, 0, none⟩) (n + 4) c2] w5 fun e w' => e = .returned (.bool true) ∧ Below w5.heap.size w5 w') := fun w5 g g2 c c2 s1 s2 => by
    have h5 := same12 (some ⟨g, 0, none⟩) (some ⟨g2, 0, none⟩) (lent12 s) (lent12 s) c c2 w5 s1 s2 (by rw [lent12_len5 s n hn0]; omega) (by rw [lent12_len5 s n hn0]; omega)
    rw [lent12_len5 s n hn0] at h5
    exact h5.mono (fun e w' ⟨he, hB⟩ => ⟨by rw [he]; simp, hB⟩)
  clear hn0 hc hna
  have HLDa := HLD
  by_cases h0 : ref12 k s = 0
  · have n24 := (ref12_ok hn.out h0).n24
    have hk0 : 0 ≤ k := by
      unfold ref12 at h0
      split at h0
      · omega
      · omega
    obtain ⟨K, rfl⟩ := Int.eq_ofNat_of_zero_le hk0
    have hK25 : K ≤ 33554432 := (ref12_ok hn.out h0).K25
    have hsl : s.length ≤ 16777216 := by rw [hn.out]; exact n24
    have HR := rbks12 K a s n ca w hx hn h0
    have HA : Hid (∀ w1 g c, SegZ w1 (some ⟨g, 0, none⟩) (lent12 s) → Calls Try.prog 11 #[.int .i64 (K : Int), .slice (some ⟨g, 0, none⟩) n c] w1 (BkQ12 w1 K s)) := fun w1 g c sg => pbks12 K _ s n c w1 sg.left hn h0
    have HAa := HA
    have HBF : Hid (∀ z ∈ fr12 K s, -9223372036854775808 ≤ z ∧ z ≤ 9223372036854775807) := fr12_bd hsl
    have HBT : Hid (∀ z ∈ to12 K s, -9223372036854775808 ≤ z ∧ z ≤ 9223372036854775807) := to12_bd hsl
    have HBL : Hid ((bnd12 K s).length = K + 1) := bnd12_len K s
    have HTK : Hid ((bnd12 K s).take K = fr12 K s) := bnd12_take K s
    have HBB : Hid (∀ z ∈ bnd12 K s, -9223372036854775808 ≤ z ∧ z ≤ 9223372036854775807) := bnd13_bd hsl
    clear h0 hk0 hsl
    go_enter Try.func3, Try.ntmps3
    go_wp2_with (first
      | (go_at_call 9; refine HR.mono ?_; rintro e1 w1 ⟨gf0, gt0, rfl, RF0, RT0, p1, p2, p3, B1⟩; clear HR)
      | (go_at_call 10; refine (HLDa.out w1 B1).mono ?_; rintro e2 w2 ⟨gL, cL, rfl, sL, hcL, B2⟩; clear HLDa; have hcL2 : n ≤ cL := (by omega); have C2 := B1.trans (B2.mono B1.size))
      | (go_at_call 11; refine (HAa.out w2 gL cL sL).mono ?_; rintro e3 w3 ⟨gf1, gt1, rfl, RF1, RT1, q1, q2, B3⟩; clear HAa; have C3 := C2.trans (B3.mono C2.size))
      | (go_at_call 11; refine (HA.out w3 gL cL (sL.old B3)).mono ?_; rintro e4 w4 ⟨gf2, gt2, rfl, RF2, RT2, r1, r2, B4⟩; have C4 := C3.trans (B4.mono C3.size))
      | (go_at_call 12; refine (pnum12 _ _).mono ?_; rintro e5 w5 ⟨rfl, hw5⟩; subst hw5)
      | (go_at_call 13; fail))
    have S1 := B1.size
    have S2 := B2.size
    have S3 := B3.size
    have S4 := B4.size
    have l0 := RF0.lt
    have l0t := RT0.lt
    have l1 := RF1.lt
    have l1t := RT1.lt
    have RF1' := RF1.old B4
    have RT1' := RT1.old B4
    have RF0' := ((RF0.old B2).old B3).old B4
    have RT0' := ((RT0.old B2).old B3).old B4
    have sL5 : SegZ w5 (some ⟨gL, 0, none⟩) (lent12 s) := (sL.old B3).old B4
    have hgL := sL.lt gL 0 rfl (by rw [lent12_len5 s n hn.out]; omega)
    have oA := RF1'.own_take (n := K) q1 (by rw [HBL.out]; omega) (by rw [HBL.out]; omega)
    rw [HBL.out, HTK.out] at oA
    have s2 : SegZ w5 (some ⟨gf2, 0, none⟩) (fr12 K s) := by
      have := (RF2.seg HBB.out).take K
      rw [HTK.out] at this
      exact this
    have HOWN := pownK12 w2.heap.size (some ⟨gf1, 0, none⟩) (some ⟨gf2, 0, none⟩) (some ⟨gf0, 0, none⟩) (fr12 K s) K (K + 1) (K + 1) K w5 (by omega) (fr12_len K s) (by omega) oA HBF.out s2 (RF0'.seg HBF.out) (fun x off hx' hp he => by
      cases hx'
      have he2 : gf1 = gf2 := by simpa [Value.ownBlock] using he
      omega) (fun x off hx' hp he => by
      cases hx'
      have he2 : gf1 = gf0 := by simpa [Value.ownBlock] using he
      omega)
    refine HOWN.mono ?_
    rintro e6 w6 ⟨rfl, K6⟩
    have K6 : Kp (fun q => q = gf1) w5 w6 := K6.mono (fun i _ h => by have h2 : gf1 = i := by simpa [Value.ownBlock] using h
                                                                      exact h2.symm)
    have B6 : Below w2.heap.size w5 w6 := K6.below (fun i h => by omega) (by omega)
    clear HOWN oA s2 RF1 RF1' RF0 RF0' RF2
    have RT1a := RT1'.kp K6 (by omega)
    have RT2a := RT2.kp K6 (by omega)
    have RT0a := RT0'.kp K6 (by omega)
    have sL6 : SegZ w6 (some ⟨gL, 0, none⟩) (lent12 s) := sL5.kp K6 (fun x off h _ => by cases h; omega)
    have oB := RT1a.own (base := w2.heap.size) (by omega) (by rw [to12_len]; omega)
    rw [to12_len] at oB
    have S6 := K6.size
    have HOWN := pownK12 w2.heap.size (some ⟨gt1, 0, none⟩) (some ⟨gt2, 0, none⟩) (some ⟨gt0, 0, none⟩) (to12 K s) K K K K w6 (by omega) (to12_len K s) (by omega) oB HBT.out (RT2a.seg HBT.out) (RT0a.seg HBT.out) (fun x off hx' hp he => by
      cases hx'
      have he2 : gt1 = gt2 := by simpa [Value.ownBlock] using he
      omega) (fun x off hx' hp he => by
      cases hx'
      have he2 : gt1 = gt0 := by simpa [Value.ownBlock] using he
      omega)
    go_wp2_with fail
    refine HOWN.mono ?_
    rintro e7 w7 ⟨rfl, K7⟩
    have K7 : Kp (fun q => q = gt1) w6 w7 := K7.mono (fun i _ h => by have h2 : gt1 = i := by simpa [Value.ownBlock] using h
                                                                      exact h2.symm)
    have B7 : Below w2.heap.size w6 w7 := K7.below (fun i h => by omega) (by omega)
    have RT2b := RT2a.kp K7 (by omega)
    have RT0b := RT0a.kp K7 (by omega)
    have sL7 : SegZ w7 (some ⟨gL, 0, none⟩) (lent12 s) := sL6.kp K7 (fun x off h _ => by cases h; omega)
    have D7 : Below w.heap.size w w7 := (C4.trans (B6.mono C2.size)).trans (B7.mono C2.size)
    have HSM := same12 (some ⟨gt2, 0, none⟩) (some ⟨gt0, 0, none⟩) (to12 K s) (to12 K s) K K w7 (RT2b.seg HBT.out) (RT0b.seg HBT.out) (by rw [to12_len]; omega) (by rw [to12_len]; omega)
    rw [to12_len] at HSM
    clear HOWN oB RT1 RT1' RT1a RT2 RT2a RT2b RT0 RT0' RT0a RT0b
    go_wp2_with fail
    refine HSM.mono ?_
    rintro e8 w8 ⟨rfl, B8⟩
    have D8 := D7.trans (B8.mono D7.size)
    have sL8 := sL7.old B8
    clear HSM
    have ebb : (to12 K s == to12 K s) = true := by simp
    rw [ebb]
    go_wp2_with (first
      | (go_at_call 10; refine (HLD.out w8 D8).mono ?_; rintro e9 w9 ⟨gM, cM, rfl, sM, hcM, B9⟩; have D9 := D8.trans (B9.mono D8.size); have sL9 := sL8.old B9)
      | (go_at_call 14; refine (HSA.out w9 gL gM cL cM sL9 sM).mono ?_; rintro e10 w10 ⟨rfl, B10⟩; have D10 := D9.trans (B10.mono D9.size))
      | (go_at_call 15; refine (pawk12 w10).mono ?_; rintro e11 w11 ⟨rfl, B11⟩))
    go_ret
    exact ⟨rfl, D10.trans (B11.mono D10.size)⟩
  · have HR := rbkn12 k a s n ca w hx hn (by omega) ⟨hlo, hhi⟩ h0
    have HA : Hid (∀ w1 g c, SegZ w1 (some ⟨g, 0, none⟩) (lent12 s) → Calls Try.prog 11 #[.int .i64 k, .slice (some ⟨g, 0, none⟩) n c] w1 fun e w' => e = .returned (.tuple #[.slice none 0 0, .slice none 0 0, .int .i64 (ref12 k s)]) ∧ Below w1.heap.size w1 w') := fun w1 g c sg => pbkn12 k _ s n c w1 sg.left hn (by omega) ⟨hlo, hhi⟩ h0
    have HAa := HA
    have bd := ref12_bd k s
    have HON : Hid (∀ W, Calls Try.prog 13 #[.slice none 0 0, .slice none 0 0, .slice none 0 0] W fun e w' => e = .returned (.bool true) ∧ Below W.heap.size W w') := fun W => pown12 W.heap.size none none none [] 0 0 0 0 W (Nat.le_refl _) (rfl : _ = _) (by omega) (World.ownsRow_nil _ _ _ _) (fun z hz => by simp at hz) (SegZ.nil _ _) (SegZ.nil _ _) (fun x off hx' hp => by simp at hp) (fun x off hx' hp => by simp at hp)
    have HON2 := HON
    have HSN : Hid (∀ W, Calls Try.prog 14 #[.slice none 0 0, .slice none 0 0] W fun e w' => e = .returned (.bool true) ∧ Below W.heap.size W w') := fun W => same12 none none [] [] 0 0 W (SegZ.nil _ _) (SegZ.nil _ _) (by simp) (by simp)
    generalize ref12 k s = v at *
    go_enter Try.func3, Try.ntmps3
    go_wp2_with (first
      | (go_at_call 9; refine HR.mono ?_; rintro e1 w1 ⟨rfl, B1⟩; clear HR)
      | (go_at_call 10; refine (HLDa.out w1 B1).mono ?_; rintro e2 w2 ⟨gL, cL, rfl, sL, hcL, B2⟩; clear HLDa; have hcL2 : n ≤ cL := (by omega); have C2 := B1.trans (B2.mono B1.size))
      | (go_at_call 11; refine (HAa.out w2 gL cL sL).mono ?_; rintro e3 w3 ⟨rfl, B3⟩; clear HAa; have C3 := C2.trans (B3.mono C2.size))
      | (go_at_call 11; refine (HA.out w3 gL cL (sL.old B3)).mono ?_; rintro e4 w4 ⟨rfl, B4⟩; have C4 := C3.trans (B4.mono C3.size))
      | (go_at_call 12; refine (pnum12 _ _).mono ?_; rintro e5 w5 ⟨rfl, hw5⟩; subst hw5)
      | (go_at_call 13; refine (HON.out w5).mono ?_; rintro e6 w6 ⟨rfl, B6⟩; clear HON)
      | (go_at_call 13; refine (HON2.out w6).mono ?_; rintro e7 w7 ⟨rfl, B7⟩)
      | (go_at_call 14; refine (HSN.out w7).mono ?_; rintro e8 w8 ⟨rfl, B8⟩; clear HSN; have D8 := ((C4.trans (B6.mono C4.size)).trans (B7.mono (by have := C4.size; have := B6.size; omega))).trans (B8.mono (by have := C4.size; have := B6.size; have := B7.size; omega)); have sL8 := ((((sL.old B3).old B4).old B6).old B7).old B8)
      | (go_at_call 10; refine (HLD.out w8 D8).mono ?_; rintro e9 w9 ⟨gM, cM, rfl, sM, hcM, B9⟩; have D9 := D8.trans (B9.mono D8.size); have sL9 := sL8.old B9)
      | (go_at_call 14; refine (HSA.out w9 gL gM cL cM sL9 sM).mono ?_; rintro e10 w10 ⟨rfl, B10⟩; have D10 := D9.trans (B10.mono D9.size))
      | (go_at_call 15; refine (pawk12 w10).mono ?_; rintro e11 w11 ⟨rfl, B11⟩))
    go_ret
    exact ⟨rfl, D10.trans (B11.mono D10.size)⟩
end Go.Proofs.Ytbgnlbgoeogbaaa
