
import Derived.Test.YthplkcdockkiiabSaOr
import Derived.Test.YthplkcdockkiiabSa17
namespace Go.Proofs.Ythplkcdockkiiab
open Go.RowKit
set_option linter.unusedVariables false

/-! SaisInducing. -/
theorem Ar12.or {n : Nat} {S : Nat → Int} {sm : Nat → Bool} {A : List Nat} (hA : Ar12 n S A) : Or12 n sm (by12 sm A) ∧ (by12 sm A).Pairwise (Ls12 n S) := by
  have hp : (by12 sm A).Pairwise (Ls12 n S) := List.Pairwise.filter _ hA.so
  refine ⟨⟨hp.imp (fun {a b} h e => by subst e; exact h.irrefl), fun j => ?_⟩, hp⟩
  unfold by12
  rw [List.mem_filter, tb12_iff]
  exact ⟨fun h => ⟨hA.lt j h.1, h.2⟩, fun h => ⟨hA.all j h.1, h.2⟩⟩
theorem il12_ar {n : Nat} {s : List Int} {A : List Nat} (hn : s.length = n) (hA : Ar12 n (S12 s) A) : il12 s (by12 (sm12 s) A) = nz12 A := by
  have hty : Ty12 n (S12 s) (sm12 s) := by have := ty12 s; rw [hn] at this; exact this
  obtain ⟨h1, h2⟩ := hA.or (sm := sm12 s)
  have hpm := ind12_pm (S := S12 s) hty h1
  have e := hA.unique (ar12_ind hty h1 h2)
  have h3 : il12 s (by12 (sm12 s) A) = nz12 (row12 n (ind12 n (S12 s) (sm12 s) (by12 (sm12 s) A))) := by
    unfold il12 nz12
    rw [hn, row12_ints hpm]
  rw [h3, ← e]
set_option maxRecDepth 100000 in
set_option maxHeartbeats 4000000 in
theorem saisInducing_walk (w : World) (a : Option Addr) (z : List Int) (ca : Nat) (hs : Seg w a z) (hc : z.length ≤ ca) (hnil : a = none → ca = 0) (hl : z.length ≤ 1073741824) :
    Calls Try.prog 3 #[.slice a z.length ca] w fun e w' => e = .returned (.bool true) ∧ Below w.heap.size w w' := by
  generalize hn0 : z.length = n at *
  have hn : Hid (z.length = n) := hn0
  clear hn0 hc hnil
  obtain ⟨i0, hi, hz0, hz1, hz2⟩ := info_parts info_i12
  have hvz : ∀ y ∈ z, 0 ≤ y ∧ y ≤ 255 := fun y hy => by
    obtain ⟨q, hq, rfl⟩ := List.mem_iff_getElem.1 hy
    have := hs.bd q
    have e : z.getD q 0 = z[q] := by simp [List.getD, hq]
    rw [e] at this
    exact this
  have hzb : ∀ y ∈ z, -9223372036854775808 ≤ y ∧ y ≤ 9223372036854775807 := fun y hy => by have := hvz y hy; omega
  have HW := pwds12 a z n ca w hs hn (by omega)
  have HRF := ref12_words hn.out hvz
  have HKB : mx12 z ≤ 256 := mx12_le (fun y hy => by have := hvz y hy; omega)
  have HAW := pawk12
  by_cases h24 : 16777216 < n
  · have h24i : (16777216 : Int) < (n : Int) := by omega
    clear HRF hvz hzb hs
    generalize mx12 z = K at *
    go_enter Try.func3, Try.ntmps3
    go_wp2_with (first
      | (go_at_call 7; refine HW.mono ?_; rintro e1 w1 ⟨rfl, R1, B1⟩)
      | (go_at_call 8; refine (HAW w1).mono ?_; rintro e2 w2 ⟨rfl, B2⟩; clear HAW)
      | (go_at_call 8; refine (pawk12 w2).mono ?_; rintro e3 w3 ⟨rfl, B3⟩))
    go_ret
    have S1 := B1.size
    have S2 := B2.size
    exact ⟨rfl, (B1.trans (B2.mono (by omega))).trans (B3.mono (by omega))⟩
  · rw [if_neg h24] at HRF
    have h24i : ¬ (16777216 : Int) < (n : Int) := by omega
    have HA : Hid (∀ w1 g, Rz12 w1 g z → Calls Try.prog 9 #[.int .i64 ((mx12 z : Nat) : Int), .slice (some ⟨g, 0, none⟩) n n] w1 (ArrQ12 w1 z n)) := fun w1 g R => parr12 ((mx12 z : Nat) : Int) (some ⟨g, 0, none⟩) z n n w1 (R.seg hzb) hn (by omega) HRF
    have HT : Hid (∀ w1 g, Rz12 w1 g z → Calls Try.prog 10 #[.slice (some ⟨g, 0, none⟩) n n] w1 fun e w' => e = .returned (.slice (some ⟨w1.heap.size, 0, none⟩) n n) ∧ Rb12 w' w1.heap.size (typ12 z) ∧ Below w1.heap.size w1 w') := fun w1 g R => ptyp12 _ z n n w1 (R.seg hzb) hn (by omega)
    have HLM : Hid (∀ w1 g, Rz12 w1 g z → Calls Try.prog 11 #[.slice (some ⟨g, 0, none⟩) n n] w1 fun e w' => ∃ ra rc, e = .returned (.slice ra (tns12 z).length rc) ∧ Below w1.heap.size w1 w') := fun w1 g R => by
      refine (plms12 _ z n n w1 (R.seg hzb) hn (by omega)).mono ?_
      rintro e w' ⟨ra, rc, he, _, b⟩
      rw [nz12_len] at he
      exact ⟨ra, rc, he, b⟩
    have HOR : Or12 n (sm12 z) (tns12 z) := by have := tns12_or z; rw [hn.out] at this; exact this
    have HID : Hid (∀ w1 g oa oc (A : List Nat) m, Rz12 w1 g z → Ar12 n (S12 z) A → Hid ((by12 (sm12 z) A).length = m) → SegZ w1 oa (nz12 (by12 (sm12 z) A)) → Calls Try.prog 12 #[.int .i64 ((mx12 z : Nat) : Int), .slice (some ⟨g, 0, none⟩) n n, .slice oa m oc] w1 fun e w' => ∃ g2, e = .returned (.tuple #[.slice (some ⟨g2, 0, none⟩) n n, .int .i64 0]) ∧ Rz12 w' g2 (nz12 A) ∧ Below w1.heap.size w1 w') := fun w1 g oa oc A m R hA hm sg => by
      refine (pidu12 ((mx12 z : Nat) : Int) (some ⟨g, 0, none⟩) oa z _ n n m oc w1 (R.seg hzb) hn (by omega) HRF (hA.or).1 hm sg).mono ?_
      rintro e w' ⟨g2, he, R2, _, b⟩
      rw [il12_ar hn.out hA] at R2
      exact ⟨g2, he, R2, b⟩
    have HTM : Hid (∀ A, Ar12 n (S12 z) A → (by12 (sm12 z) A).length = (tns12 z).length) := fun A hA => (hA.or).1.len HOR
    have HTL : Hid (∀ k, ((typ12 z).getD k false) = sm12 z k) := typ12_get z
    have HTY : Hid ((typ12 z).length = n) := by show _ = _; rw [typ12_len, hn.out]
    clear HRF hvz hzb hs HOR
    generalize mx12 z = K at *
    generalize (tns12 z).length = mt at *
    generalize typ12 z = Y at *
    go_enter Try.func3, Try.ntmps3
    go_wp2_with (first
      | (go_at_call 7; refine HW.mono ?_; rintro e1 w1 ⟨rfl, R1, B1⟩)
      | (go_at_call 8; refine (HAW w1).mono ?_; rintro e2 w2 ⟨rfl, B2⟩; clear HAW HW; have R2 := R1.old B2; have C2 := B1.trans (B2.mono B1.size))
      | (go_at_call 9; refine (HA.out w2 _ R2).mono ?_; rintro e3 w3 ⟨gA, A, rfl, RA, hgA, hA, B3⟩; have R3 := R2.old B3; have C3 := C2.trans (B3.mono C2.size))
      | (go_at_call 10; refine (HT.out w3 _ R3).mono ?_; rintro e4 w4 ⟨rfl, RT, B4⟩; have R4 := R3.old B4; have RA4 := RA.old B4; have C4 := C3.trans (B4.mono C3.size))
      | (go_at_call 11; refine (HLM.out w4 _ R4).mono ?_; rintro e5 w5 ⟨la, lc, rfl, B5⟩))
    have R5 := R4.old B5
    have RA5 := RA4.old B5
    have RT5 := RT.old B5
    have C5 := C4.trans (B5.mono C4.size)
    have HLE : Hid (∀ k, ((A.take k).filter (tb12 (sm12 z))).length ≤ k) := fun k => Nat.le_trans (List.length_filter_le _ _) (List.length_take_le k A)
    have HST : Hid (∀ k, k < n → (A.take (k + 1)).filter (tb12 (sm12 z)) = if tb12 (sm12 z) (A.getD k 0) = true then (A.take k).filter (tb12 (sm12 z)) ++ [A.getD k 0] else (A.take k).filter (tb12 (sm12 z))) := by
      intro k hk
      have hk2 : k < A.length := by rw [hA.len]; exact hk
      have e : A.take (k + 1) = A.take k ++ [A.getD k 0] := by rw [List.take_add_one]; simp [List.getD, hk2]
      rw [e, List.filter_append]
      by_cases ht : tb12 (sm12 z) (A.getD k 0) = true
      · simp only [List.filter_cons, ht, if_true, List.filter_nil]
      · simp only [List.filter_cons, ht, List.filter_nil]; simp
    have HEL : Hid (∀ k, k < n → A.getD k 0 < n ∧ (nz12 A).getD k 0 = ((A.getD k 0 : Nat) : Int)) := fun k hk => ⟨hA.lt _ (getD_mem12 (by rw [hA.len]; exact hk)), nz12_get A k 0 (by rw [hA.len]; exact hk)⟩
    have HFA : Hid ((A.take n).filter (tb12 (sm12 z)) = by12 (sm12 z) A) := by show _ = _; rw [List.take_of_length_le (by rw [hA.len]; exact Nat.le_refl n)]; rfl
    have HNA : Hid ((nz12 A).length = n) := by show _ = _; rw [nz12_len, hA.len]
    have HBD : Hid (∀ y ∈ nz12 (by12 (sm12 z) A), -9223372036854775808 ≤ y ∧ y ≤ 9223372036854775807) := nz12_bd (n := n) (fun j hj => hA.lt j (List.mem_filter.1 (show j ∈ List.filter _ A from hj)).1) (by omega)
    have HBA : Hid (∀ y ∈ nz12 A, -9223372036854775808 ≤ y ∧ y ≤ 9223372036854775807) := nz12_bd (n := n) hA.lt (by omega)
    have HAA : Hid (Ar12 n (S12 z) A) := hA
    clear R1 R2 R3 R4 RA RA4 RT B1 B2 B3 B4 B5 hA C2 C3 C4 HA HT HLM
    generalize w3.heap.size = gT at *
    generalize hg0 : w.heap.size = g0 at *
    have HG0 : Hid (w.heap.size = g0) := hg0
    clear hg0
    go_loopw [9, 10] (fun to ti wr => ∃ (k c rc : Nat) (ra : Option Addr), k ≤ n ∧ ti = .int .i64 k ∧ to = .slice ra c rc ∧ Hid (((A.take k).filter (tb12 (sm12 z))).length = c) ∧ wr.ownsRow w5.heap.size 3 1 (.slice ra c rc) c ((nz12 ((A.take k).filter (tb12 (sm12 z)))).map (Value.int .i64)) ∧ Below w5.heap.size w5 wr) (fun _ ti _ => n - (intOf ti).toNat)
    case atStart => exact ⟨0, 0, 0, none, Nat.zero_le _, rfl, rfl, (by simp : _ = _), World.ownsRow_nil _ _ _ _, Below.refl _ _⟩
    case round =>
      obtain ⟨k, c, rc, ra, hk, rfl, rfl, HM, hown, hb2⟩ := hrel
      have hsz : w5.heap.size ≤ wr.heap.size := hb2.size
      have hck : c ≤ k := by rw [← HM.out]; exact HLE.out k
      by_cases h1 : k < n
      · have h1i : (k : Int) < (n : Int) := by omega
        obtain ⟨hj, ej⟩ := HEL.out k h1
        have c1 := (RA5.old hb2).cell (i := k) (by rw [HNA.out]; exact h1)
        rw [ej] at c1
        have hRT := RT5.old hb2
        have HS2 : Hid _ := HST.out k h1
        have c2 := hRT.cell (i := A.getD k 0) (by rw [HTY.out]; exact hj)
        have c3 := hRT.cell (i := A.getD k 0 - 1) (by rw [HTY.out]; omega)
        rw [HTL.out] at c2 c3
        have HTB : Hid (tb12 (sm12 z) (A.getD k 0) = (decide (0 < A.getD k 0) && sm12 z (A.getD k 0) && !sm12 z (A.getD k 0 - 1))) := rfl
        have hji : ((A.getD k 0 : Nat) : Int) < (n : Int) := by omega
        clear ej hRT
        generalize A.getD k 0 = j at *
        generalize (A.take k).filter (tb12 (sm12 z)) = T at *
        by_cases hj0 : j = 0
        · subst hj0
          have HF : Hid ((A.take (k + 1)).filter (tb12 (sm12 z)) = T) := by show _ = _; rw [HS2.out, HTB.out]; simp
          go_wp2_with fail
          go_roundw
          case rel => exact ⟨k + 1, c, rc, ra, by omega, by go_num, rfl, (by rw [HF.out]; exact HM.out : _ = _), by rw [HF.out]; exact hown, hb2⟩
          case measure => simp [intOf]; omega
        · have hji0 : (0 : Int) < (j : Int) := by omega
          have hjn0 : 0 < j := by omega
          have er : (j : Int) - 1 = ((j - 1 : Nat) : Int) := by omega
          have ir : ((j - 1 : Nat) : Int) < (n : Int) := by omega
          generalize sm12 z (j - 1) = y at *
          generalize sm12 z j = x at *
          generalize j - 1 = j1 at *
          cases x
          · have HF : Hid ((A.take (k + 1)).filter (tb12 (sm12 z)) = T) := by show _ = _; rw [HS2.out, HTB.out]; simp
            go_wp2_with fail
            go_roundw
            case rel => exact ⟨k + 1, c, rc, ra, by omega, by go_num, rfl, (by rw [HF.out]; exact HM.out : _ = _), by rw [HF.out]; exact hown, hb2⟩
            case measure => simp [intOf]; omega
          · cases y
            · have HF : Hid ((A.take (k + 1)).filter (tb12 (sm12 z)) = T ++ [j]) := by show _ = _; rw [HS2.out, HTB.out]; simp [hjn0]
              go_wp2_with (first
                | (at_builtin; refine wpList_ap12 rfl (.tmp 85) (.tmp 87) 23 rfl w5.heap.size 3 i0 (.int .i64 0) 8 Try.underlying23 hi hz0 hz1 hz2 rfl wr _ hown rfl rfl (by omega) (by omega) hsz ?_; intro ga gc w6 own6 hk6 hat6))
              have B6 : Below w5.heap.size w5 w6 := hb2.trans (hk6.below (fun q e => (hown.lt q e).1) hsz)
              go_roundw
              case rel => exact ⟨k + 1, c + 1, gc, some ⟨ga, 0, none⟩, by omega, by go_num, rfl, (by rw [HF.out]; simp [HM.out] : _ = _), by rw [HF.out]; simpa [nz12] using own6, B6⟩
              case measure => simp [intOf]; omega
            · have HF : Hid ((A.take (k + 1)).filter (tb12 (sm12 z)) = T) := by show _ = _; rw [HS2.out, HTB.out]; simp
              go_wp2_with fail
              go_roundw
              case rel => exact ⟨k + 1, c, rc, ra, by omega, by go_num, rfl, (by rw [HF.out]; exact HM.out : _ = _), by rw [HF.out]; exact hown, hb2⟩
              case measure => simp [intOf]; omega
      · have h1i : ¬ (k : Int) < (n : Int) := by omega
        obtain rfl : k = n := by omega
        rw [HFA.out] at HM hown
        have hcm : c = mt := by rw [← HM.out]; exact HTM.out A HAA.out
        subst hcm
        have hown' : wr.ownsRow w5.heap.size 3 1 (.slice ra c rc) c ((nz12 (by12 (sm12 z) A)).map (Value.int .i64)) := hown
        have HIX := HID.out wr g0 ra rc A c (R5.old hb2) HAA.out HM (own_segZ hown' HBD.out)
        have HSA : Hid (∀ w6 g2, Rz12 w6 g2 (nz12 A) → Rz12 w6 gA (nz12 A) → Calls Try.prog 13 #[.slice (some ⟨g2, 0, none⟩) k k, .slice (some ⟨gA, 0, none⟩) k k] w6 fun e w' => e = .returned (.bool true) ∧ Below w6.heap.size w6 w') := fun w6 g2 r1 r2 => by
          have h5 := same12 (some ⟨g2, 0, none⟩) (some ⟨gA, 0, none⟩) (nz12 A) (nz12 A) k k w6 (r1.seg HBA.out) (r2.seg HBA.out) (by rw [HNA.out]; omega) (by rw [HNA.out]; omega)
          rw [HNA.out] at h5
          exact h5.mono (fun e w' ⟨he, hB⟩ => ⟨by rw [he]; simp, hB⟩)
        clear hown hown' HID
        go_wp2_with (first
          | (go_at_call 12; refine HIX.mono ?_; rintro e6 w6 ⟨g2, rfl, R6, B6⟩)
          | (go_at_call 13; refine (HSA.out w6 g2 R6 ((RA5.old hb2).old B6)).mono ?_; rintro e7 w7 ⟨rfl, B7⟩))
        go_ret
        have D1 := C5.trans (hb2.mono (by have := C5.size; have := HG0.out; omega))
        have D2 := D1.trans (B6.mono (by have := D1.size; have := HG0.out; omega))
        exact ⟨rfl, by rw [HG0.out]; exact D2.trans (B7.mono (by have := D2.size; have := HG0.out; omega))⟩
end Go.Proofs.Ythplkcdockkiiab
