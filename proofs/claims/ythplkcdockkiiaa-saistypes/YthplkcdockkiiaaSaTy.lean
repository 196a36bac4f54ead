
import Derived.Test.YthplkcdockkiiaaSaL2
import Derived.Test.YthplkcdockkiiaaSaR1
namespace Go.Proofs.Ythplkcdockkiiaa
open Go.RowKit
set_option linter.unusedVariables false

/-! SaisTypes. -/
theorem lent12_take (s : List Int) (n : Nat) (h : s.length = n) : (lent12 s).length = n + 4 := by simp [lent12, h]
set_option maxRecDepth 100000 in
set_option maxHeartbeats 4000000 in
theorem saisTypes_walk (w : World) (a : Option Addr) (s : List Int) (ca : Nat) (hx : SegZ w a s) (hc : s.length ≤ ca) (hna : a = none → ca = 0) (hl : s.length * 8 ≤ 140737488351232) :
    Calls Try.prog 4 #[.slice a s.length ca] w fun e w' => e = .returned (.bool true) ∧ Below w.heap.size w w' := by
  generalize hn0 : s.length = n at *
  have hn : Hid (s.length = n) := hn0
  obtain ⟨b0, hbi, hbz0, hbz1, hbz2⟩ := info_parts info_b12
  have HT1 := rtyp12 a s n ca w hx hn (by omega)
  have HT2 : Hid (∀ w1, Below w.heap.size w w1 → Calls Try.prog 14 #[.slice a n ca] w1 (AnsZ12 w1 (nz12 (tns12 s)))) := fun w1 b1 => rlms12 a s n ca w1 (hx.old b1) hn (by omega)
  have HLD : Hid (∀ w1, Below w.heap.size w w1 → Calls Try.prog 15 #[.slice a n ca] w1 fun e w' => ∃ g cap', e = .returned (.slice (some ⟨g, 0, none⟩) (n + 4) cap') ∧ SegZ w' (some ⟨g, 0, none⟩) (lent12 s) ∧ n + 4 ≤ cap' ∧ Below w1.heap.size w1 w') := fun w1 b1 => by
    have h5 := lend12 a s ca w1 (hx.old b1) hna (by rw [hn0]; exact hl)
    rw [lent12_take s n hn0, hn0] at h5
    refine h5.mono ?_
    rintro e w' ⟨g, cap', rfl, o5, h6, b5⟩
    exact ⟨g, cap', rfl, own_segZ o5 (lent12_bd hx.mem), h6, b5⟩
  have HTY : Hid (∀ w4 g c, SegZ w4 (some ⟨g, 0, none⟩) (lent12 s) → Calls Try.prog 16 #[.slice (some ⟨g, 0, none⟩) n c] w4 fun e w' => e = .returned (.slice (some ⟨w4.heap.size, 0, none⟩) n n) ∧ Rb12 w' w4.heap.size (typ12 s) ∧ Below w4.heap.size w4 w') := fun w4 g c sg => ptyp12 _ s n c w4 sg.left hn (by omega)
  have HLM : Hid (∀ w4 g c, SegZ w4 (some ⟨g, 0, none⟩) (lent12 s) → Calls Try.prog 18 #[.slice (some ⟨g, 0, none⟩) n c] w4 (AnsZ12 w4 (nz12 (tns12 s)))) := fun w4 g c sg => plms12 _ s n c w4 sg.left hn (by omega)
  have HSA : Hid (∀ w5 g g2 c c2, SegZ w5 (some ⟨g, 0, none⟩) (lent12 s) → SegZ w5 (some ⟨g2, 0, none⟩) (lent12 s) → Calls Try.prog 12 #[.slice (some ⟨g, 0, none⟩) (n + 4) c, .slice (some ⟨g2, 0, none⟩) (n + 4) c2] w5 fun e w' => e = .returned (.bool true) ∧ Below w5.heap.size w5 w') := fun w5 g g2 c c2 s1 s2 => by
    have h5 := same12 (some ⟨g, 0, none⟩) (some ⟨g2, 0, none⟩) (lent12 s) (lent12 s) c c2 w5 s1 s2 (by rw [lent12_take s n hn0]; omega) (by rw [lent12_take s n hn0]; omega)
    rw [lent12_take s n hn0] at h5
    exact h5.mono (fun e w' ⟨he, hB⟩ => ⟨by rw [he]; simp, hB⟩)
  have HTB : Hid (∀ z ∈ nz12 (tns12 s), -9223372036854775808 ≤ z ∧ z ≤ 9223372036854775807) := by
    intro z hz
    unfold nz12 at hz
    rw [List.mem_map] at hz
    obtain ⟨j, hj, rfl⟩ := hz
    have := ((tns12_or s).small j hj).1
    omega
  have HTL : Hid ((nz12 (tns12 s)).length ≤ n) := by
    show _ ≤ _
    rw [nz12_len, ← tu12_tns s hn0]
    exact tu12_le _ _
  have HTYL : Hid ((typ12 s).length = n ∧ ∀ i, (typ12 s).getD i false = sm12 s i) := ⟨by rw [typ12_len, hn0], typ12_get s⟩
  clear hn0 hc hna
  have HTYa := HTY
  have HLDa := HLD
  have HLMa := HLM
  generalize hT : nz12 (tns12 s) = T at *
  generalize hm : T.length = m at *
  have HTm : Hid (T.length = m) := hm
  generalize typ12 s = Y at *
  go_enter Try.func4, Try.ntmps4
  go_wp2_with (first
    | (go_at_call 13; refine HT1.mono ?_; rintro e1 w1 ⟨rfl, R1, B1⟩)
    | (go_at_call 14; refine (HT2.out w1 B1).mono ?_; rintro e2 w2 ⟨ta, tc, rfl, o2, B2⟩; have C2 := B1.trans (B2.mono B1.size))
    | (go_at_call 15; refine (HLDa.out w2 C2).mono ?_; rintro e3 w4 ⟨gL, cL, rfl, sL, hcL, B3⟩; have C4 := C2.trans (B3.mono C2.size); have hcL2 : n ≤ cL := (by omega); clear HLDa)
    | (go_at_call 16; refine (HTYa.out w4 gL cL sL).mono ?_; rintro e5 w5 ⟨rfl, R5, B5⟩; clear HTYa)
    | (go_at_call 16; refine (HTY.out w5 gL cL (sL.old B5)).mono ?_; rintro e6 w6 ⟨rfl, R6, B6⟩))
  have HT4 : Hid (SegZ w4 ta T ∧ ∀ x off, ta = some ⟨x, off, none⟩ → 0 < T.length → x < w4.heap.size) := by
    have h5 : SegZ w4 ta T := (own_segZ o2 HTB.out).old B3
    exact ⟨h5, h5.lt⟩
  have R4 : Rb12 w4 w.heap.size Y := (R1.old B2).old B3
  have X4 := C4
  have hg7 : w4.heap.size ≠ w5.heap.size := by have := R5.lt; omega
  have H6 : Hid (Rb12 w6 w4.heap.size Y ∧ Rb12 w6 w5.heap.size Y ∧ Below w4.heap.size w4 w6) := ⟨R5.old B6, R6, B5.trans (B6.mono B5.size)⟩
  have HLE : Hid (w4.heap.size ≤ w5.heap.size) := B5.size
  clear R1 B1 B2 B3 B5 B6 R5 R6 o2 C2
  generalize hg7e : w4.heap.size = g7 at *
  generalize w5.heap.size = g8 at *
  have HG7 : Hid (w4.heap.size = g7) := hg7e
  clear hg7e
  go_loopw [9] (fun ti wr => ∃ (k : Nat) (L : List Bool), k ≤ n ∧ ti = .int .i64 k ∧ L.length = n ∧ Hid (∀ j, k ≤ j → L.getD j false = sm12 s j) ∧ Rb12 wr g7 L ∧ Rb12 wr g8 Y ∧ Below g7 w4 wr) (fun ti _ => n - (intOf ti).toNat)
  case atStart => exact ⟨0, Y, Nat.zero_le _, rfl, HTYL.out.1, (fun j _ => HTYL.out.2 j : ∀ j, _ → _), H6.out.1, H6.out.2.1, H6.out.2.2⟩
  case round =>
    obtain ⟨k, L, hk, rfl, hL, HLV, R7, R8, hb⟩ := hrel
    by_cases h1 : k < n
    · have h1i : (k : Int) < (n : Int) := by omega
      have c1 := (R4.old (by rw [HG7.out]; exact hb)).cell (i := k) (by rw [HTYL.out.1]; exact h1)
      rw [HTYL.out.2] at c1
      have c2 := R7.cell (i := k) (by rw [hL]; exact h1)
      rw [HLV.out k (Nat.le_refl k)] at c2
      have f2 := R7.free k
      have HS : Hid (∀ x, Rb12 (wr.drew.setCell ⟨g7, k, none⟩ (.bool x)) g7 (L.set k x) ∧ Rb12 (wr.drew.setCell ⟨g7, k, none⟩ (.bool x)) g8 Y ∧ Below g7 w4 (wr.drew.setCell ⟨g7, k, none⟩ (.bool x)) ∧ (L.set k x).length = n ∧ ∀ j, k + 1 ≤ j → (L.set k x).getD j false = sm12 s j) := by
        intro x
        refine ⟨R7.drew.set k x, R8.drew.kp (Kp.set (S := fun j => j = g7) rfl _) (fun e => hg7 e.symm), hb.drew.trans ((Kp.set (S := fun j => j = g7) rfl _).below (fun j h => by omega) (by have := R7.lt; show g7 ≤ wr.heap.size; omega)), by rw [List.length_set]; exact hL, fun j hj => ?_⟩
        rw [getD_set12 _ _ _ _ (by omega), if_neg (by omega)]
        exact HLV.out j (by omega)
      clear R7 R8 HLV
      generalize sm12 s k = t at c1 c2
      cases t <;>
      · go_wp2_with fail
        go_region
        go_wp2_with fail
        go_roundw
        case rel => exact ⟨k + 1, _, by omega, by go_num, (HS.out _).2.2.2.1, (HS.out _).2.2.2.2, (HS.out _).1, (HS.out _).2.1, (HS.out _).2.2.1⟩
        case measure => simp [intOf]; omega
    · have h1i : ¬ (k : Int) < (n : Int) := by omega
      have o7 : wr.ownsRow g7 4 1 (.slice (some ⟨g7, 0, none⟩) n n) n (L.map Value.bool) := by
        have h5 := R7.own (base := g7) (Nat.le_refl _) (by omega)
        rw [hL] at h5
        exact h5
      have HNE0 : Hid ((Value.slice (some ⟨g7, 0, none⟩) n n).ownBlock ≠ some g8) := fun e => hg7 (by simpa [Value.ownBlock] using e)
      clear R7 HLV
      go_wp2_with fail
      go_loopw [7, 10] (fun ta2 ti wr => ∃ (q m2 c : Nat) (r : Option Addr) (L2 : List Bool), q ≤ 40 ∧ ti = .int .i64 q ∧ ta2 = .slice r m2 c ∧ Hid (m2 = n + q) ∧ wr.ownsRow g7 4 1 (.slice r m2 c) m2 (L2.map Value.bool) ∧ Hid ((Value.slice r m2 c).ownBlock ≠ some g8) ∧ Rb12 wr g8 Y ∧ Below g7 w4 wr) (fun _ ti _ => 40 - (intOf ti).toNat)
      case atStart => exact ⟨0, n, n, _, L, by omega, rfl, rfl, (rfl : _ = _), o7, HNE0.out, R8, hb⟩
      case round =>
        obtain ⟨q, m2, c, r, L2, hq, rfl, rfl, hm2, o3, HNE, R9, hb3⟩ := hrel
        have hsz : g7 ≤ wr.heap.size := by have := hb3.size; have := HG7.out; omega
        by_cases h2 : q < 40
        · have h2i : (q : Int) < 40 := by omega
          have hmb : m2 ≤ 17592186044500 := by have := hm2.out; omega
          go_wp2_with (first
            | (at_builtin; refine wpList_app1 rfl (.tmp 65) (.tmp 66) 29 rfl g7 4 b0 (.bool false) 1 Try.underlying29 hbi hbz0 hbz1 hbz2 rfl wr (.bool true) rfl o3 rfl rfl (by omega) (by omega) hsz ?_; intro ga gc w3 own3 hg3 hf3))
          have hk3 : Kp (fun k => (Value.slice r m2 c).ownBlock = some k) wr w3 := Kp.grown hg3 (fun i e => e)
          have R10 : Rb12 w3 g8 Y := R9.kp hk3 HNE.out
          have HN3 : Hid ((Value.slice (some ⟨ga, 0, none⟩) (m2 + 1) gc).ownBlock ≠ some g8) := fun e => by
            rcases hf3 g8 e with h5 | h5
            · exact HNE.out h5
            · have := R9.lt; omega
          have hb4 : Below g7 w4 w3 := hb3.trans (hk3.below (fun i e => (o3.lt i e).1) hsz)
          have HO : Hid (w3.ownsRow g7 4 1 (.slice (some ⟨ga, 0, none⟩) (m2 + 1) gc) (m2 + 1) ((L2 ++ [true]).map Value.bool)) := by
            rw [List.map_append]; exact own3
          clear hk3 hf3 hg3 own3 o3 R9 HNE
          go_roundw
          case rel => exact ⟨q + 1, m2 + 1, gc, some ⟨ga, 0, none⟩, L2 ++ [true], by omega, by go_num, rfl, (by have := hm2.out; omega : _ = _), HO.out, HN3.out, R10, hb4⟩
          case measure => simp [intOf]; omega
        · have h2i : ¬ (q : Int) < 40 := by omega
          clear o3 HNE
          go_wp2_with fail
          go_loopw [11] (fun ti wr => ∃ (k : Nat), k ≤ n ∧ ti = .int .i64 k ∧ Rb12 wr g8 Y ∧ Below g7 w4 wr) (fun ti _ => n - (intOf ti).toNat)
          case atStart => exact ⟨0, Nat.zero_le _, rfl, R9, hb3⟩
          case round =>
            obtain ⟨k3, hk3, rfl, R11, hb5⟩ := hrel
            by_cases h3 : k3 < n
            · have h3i : (k3 : Int) < (n : Int) := by omega
              have c1 := (R4.old (by rw [HG7.out]; exact hb5)).cell (i := k3) (by rw [HTYL.out.1]; exact h3)
              have c2 := R11.cell (i := k3) (by rw [HTYL.out.1]; exact h3)
              generalize Y.getD k3 false = t at c1 c2
              have HR11 : Hid (Rb12 wr g8 Y) := R11
              clear R11
              cases t <;>
              · go_wp2_with fail
                go_region
                go_wp2_with fail
                go_roundw
                case rel => exact ⟨k3 + 1, by omega, by go_num, HR11.out.drew, hb5.drew⟩
                case measure => simp [intOf]; omega
            · have h3i : ¬ (k3 : Int) < (n : Int) := by omega
              have hsz5 : g7 ≤ wr.heap.size := by have := hb5.size; have := HG7.out; omega
              have B5 : Below w4.heap.size w4 wr := by rw [HG7.out]; exact hb5
              have CW : Below w.heap.size w wr := X4.trans (B5.mono X4.size)
              have HOWN : Hid (∀ w7 w8 pa pb pc pc2, w7.ownsRow wr.heap.size 3 1 (.slice pa m pc) m (T.map (Value.int .i64)) → Below wr.heap.size wr w7 → w8.ownsRow w7.heap.size 3 1 (.slice pb m pc2) m (T.map (Value.int .i64)) → Below w7.heap.size w7 w8 → Calls Try.prog 17 #[.slice pa m pc, .slice pb m pc2, .slice ta m tc] w8 fun e w' => e = .returned (.bool true) ∧ Below wr.heap.size w8 w') := by
                intro w7 w8 pa pb pc pc2 p7 q7 p8 q8
                refine pown12 wr.heap.size pa pb ta T m pc pc2 tc w8 (Nat.le_trans q7.size q8.size) HTm.out (by have := HTL.out; omega) (own_below p7 q8) HTB.out (own_segZ p8 HTB.out) (((HT4.out.1.old B5).old q7).old q8) (fun x off hx hp he => ?_) (fun x off hx hp he => ?_)
                · have h6 := (p7.lt x he).2
                  subst hx
                  have h7 := (p8.lt x rfl).1
                  omega
                · have h6 := (p7.lt x he).1
                  have h7 := HT4.out.2 x off hx hp
                  have h8 := B5.size
                  omega
              go_wp2_with (first
                | (go_at_call 18; refine (HLMa.out wr gL cL (sL.old B5)).mono ?_; rintro e7 w7 ⟨pa, pc, rfl, o7, B7⟩; clear HLMa; rw [hm] at o7)
                | (go_at_call 18; refine (HLM.out w7 gL cL ((sL.old B5).old B7)).mono ?_; rintro e8 w8 ⟨pb, pc2, rfl, o8, B8⟩; rw [hm] at o8; have C8 := B7.trans (B8.mono B7.size))
                | (go_at_call 17; refine (HOWN.out w7 w8 pa pb pc pc2 o7 B7 o8 B8).mono ?_; rintro e9 w9 ⟨rfl, B9⟩; have C9 := C8.trans B9; have D9 := CW.trans (C9.mono CW.size))
                | (go_at_call 15; refine (HLD.out w9 D9).mono ?_; rintro e10 w10 ⟨gM, cM, rfl, sM, hcM, B10⟩; have D10 := D9.trans (B10.mono D9.size); have sL10 := ((sL.old B5).old C9).old B10)
                | (go_at_call 12; refine (HSA.out w10 gL gM cL cM sL10 sM).mono ?_; rintro e11 w11 ⟨rfl, B11⟩; have D11 := D10.trans (B11.mono D10.size))
                | (go_at_call 11; refine (pawk12 w11).mono ?_; rintro e12 w12 ⟨rfl, B12⟩))
              go_ret
              exact ⟨rfl, D11.trans (B12.mono D11.size)⟩
end Go.Proofs.Ythplkcdockkiiaa
