import Derived.Test.YtkolffhebakbaaaPaw
import Derived.WalkKit
import Derived.WalkSpells
import Derived.Test.YtkolffhebakbaaaPaa
namespace Go.Proofs.Ytkolffhebakbaaa
open Go.RowKit
set_option linter.unusedVariables false

/-! Repeat: the landed one, the document's. -/
/-- What Repeat answers. -/
structure Rp13 (z : List Int) (A : List Nat) (i m r : Nat) : Prop where
  mx : Mk13 z A z.length m r
  no : m = 0 → i = 0
  at_ : 0 < m → Lp13 z (A.getD r 0) m i
theorem Rp13.unique {z : List Int} {A : List Nat} {i m r i' m' r' : Nat} (h : Rp13 z A i m r) (h' : Rp13 z A i' m' r') : i = i' ∧ m = m' := by
  obtain ⟨rfl, rfl⟩ := h.mx.unique h'.mx
  refine ⟨?_, rfl⟩
  by_cases c : m = 0
  · rw [h.no c, h'.no c]
  · exact (h.at_ (by omega)).unique (h'.at_ (by omega))
def RpQ13 (w : World) (z : List Int) (A : List Nat) (e : Ending) (w' : World) : Prop := ∃ i m r : Nat, e = .returned (.tuple #[.int .i64 (i : Int), .int .i64 (m : Int)]) ∧ Rp13 z A i m r ∧ Below w.heap.size w w'
theorem nz_slice13 {A : List Nat} {n lo hi : Nat} (hA : A.length = n) (h1 : lo ≤ hi) (h2 : hi ≤ n) (v : Int) : v ∈ ((nz12 A).drop lo).take (hi - lo) ↔ ∃ q, lo ≤ q ∧ q < hi ∧ v = ((A.getD q 0 : Nat) : Int) := by
  have hl : (nz12 A).length = n := by rw [nz12_len13, hA]
  constructor
  · intro h
    obtain ⟨k, hk, e⟩ := List.mem_iff_getElem.1 h
    rw [List.length_take, List.length_drop, hl] at hk
    rw [List.getElem_take, List.getElem_drop] at e
    have hk2 : lo + k < A.length := by omega
    refine ⟨lo + k, by omega, by omega, ?_⟩
    rw [← e]
    simp [nz12, List.getD, hk2]
  · rintro ⟨q, q1, q2, rfl⟩
    rw [List.mem_iff_getElem]
    refine ⟨q - lo, by rw [List.length_take, List.length_drop, hl]; omega, ?_⟩
    rw [List.getElem_take, List.getElem_drop]
    have hq : q < A.length := by omega
    simp [nz12, List.getD, hq, show lo + (q - lo) = q by omega]
set_option maxRecDepth 100000 in
set_option maxHeartbeats 4000000 in
theorem prep13 (b : Nat) (da : Option Addr) (dc : Nat) (aa : Option Addr) (ac gb gr n : Nat) (z : List Int) (A : List Nat) (w : World) (h : Ix13 w b da dc aa ac gb gr n z A) :
    Calls Try.prog 19 #[.pointer (some ⟨b, 0, none⟩)] w (RpQ13 w z A) := by
  have HL := plcp13 b da dc aa ac gb gr n z A w h
  have hn24 := h.n24
  have hn : Hid (z.length = n) := h.len
  have HAZ : Hid (Ar12 z.length (S12 z) A) := by show Ar12 _ _ _; rw [hn.out]; exact h.ar
  have HAL : Hid (A.length = n) := h.ar.len
  have HIX : Hid (∀ W, Below w.heap.size w W → W.cell? ⟨b, 1, none⟩ = some (.slice aa n ac) ∧ SegZ W aa (nz12 A)) := fun W hW => ⟨(h.old hW).c1, (h.old hW).arr⟩
  have hale := h.ale
  clear h
  go_enter Try.func19, Try.ntmps19
  go_wp2_with (first
    | (go_at_call 16; refine HL.mono ?_; rintro e1 w1 ⟨g, rfl, R1, -, B1⟩; clear HL))
  have HC : Hid (∀ q, q < n → w1.cell? ⟨g, q, none⟩ = some (.int .i64 ((lv13 z A q : Nat) : Int))) := fun q hq => by
    have := R1.cell (i := q) (by rw [lp13_len, hn.out]; exact hq)
    rw [lp13_get (by rw [hn.out]; exact hq)] at this
    exact this
  have HLB : Hid (∀ q, q < n → lv13 z A q ≤ 16777216) := fun q hq => by
    have h7 := (lv13_le HAZ.out (r := q) (by rw [hn.out]; exact hq)).1
    rw [hn.out] at h7
    omega
  have HMB : Hid (∀ m r, Mk13 z A n m r → m ≤ 16777216) := fun m r hM => by
    rcases Nat.eq_zero_or_pos m with c | c
    · omega
    · have h5 := hM.at_ c
      have h6 := HLB.out r h5.1
      omega
  have HR1 : Hid (Rz12 w1 g (lp13 z A)) := R1
  clear R1
  go_loopw [5, 6, 15] (fun tm tr tk wr => ∃ k m r : Nat, k ≤ n ∧ tm = .int .i64 m ∧ tr = .int .i64 r ∧ tk = .int .i64 k ∧ Hid (Mk13 z A k m r) ∧ m ≤ 16777216 ∧ wr = w1) (fun _ _ tk _ => n - (intOf tk).toNat)
  case atStart => exact ⟨0, 0, 0, Nat.zero_le _, rfl, rfl, rfl, Mk13.zero z A, by omega, by first | trivial | rfl⟩
  case round =>
    obtain ⟨k, m, r, hk, rfl, rfl, rfl, HM, hm24, hw⟩ := hrel
    subst hw
    rename World => w1
    by_cases h1 : k < n
    · have h1i : (k : Int) < (n : Int) := by omega
      have c1 := HC.out k h1
      have lb := HLB.out k h1
      have H1 : Hid (m < lv13 z A k → Mk13 z A (k + 1) (lv13 z A k) k) := fun h => HM.out.more h
      have H2 : Hid (¬ m < lv13 z A k → Mk13 z A (k + 1) m r) := fun h => HM.out.same h
      by_cases h2 : m < lv13 z A k
      · have H3 : Hid (Mk13 z A (k + 1) (lv13 z A k) k) := H1.out h2
        clear H1 H2
        generalize lv13 z A k = v at *
        have h2i : (m : Int) < (v : Int) := by omega
        go_wp2_with fail
        go_roundw
        case rel => exact ⟨k + 1, v, k, by omega, by go_num, by go_num, by go_num, H3, lb, by first | trivial | rfl⟩
        case measure => simp [intOf]; omega
      · have H3 : Hid (Mk13 z A (k + 1) m r) := H2.out h2
        clear H1 H2
        generalize lv13 z A k = v at *
        have h2i : ¬ (m : Int) < (v : Int) := by omega
        go_wp2_with fail
        go_roundw
        case rel => exact ⟨k + 1, m, r, by omega, by go_num, by go_num, by go_num, H3, hm24, by first | trivial | rfl⟩
        case measure => simp [intOf]; omega
    · have h1i : ¬ (k : Int) < (n : Int) := by omega
      obtain rfl : k = n := by omega
      have HMZ : Hid (Mk13 z A z.length m r) := by show Mk13 _ _ _ _ _; rw [hn.out]; exact HM.out
      by_cases h0 : m = 0
      · subst h0
        go_wp2_with fail
        refine bodyPost_ret (results_tmp2 rfl _ _ _) rfl ?_
        exact ⟨0, 0, r, rfl, ⟨HMZ.out, fun _ => rfl, fun h => by omega⟩, B1⟩
      · have h0i : ¬ (m : Int) = 0 := by omega
        obtain ⟨hr, hlv, -⟩ := HM.out.at_ (by omega)
        have HLV : Hid (lv13 z A r = m) := hlv
        have HSP := pspan13 g k z A m r w1 HR1.out hn HAZ.out hn24 (by omega) hm24 hr
        clear hlv HM
        go_wp2_with fail
        refine HSP.mono ?_
        rintro e2 w2 ⟨lo, hi, rfl, hS, hw2⟩
        subst hw2
        have s1 := hS.lo1
        have s2 := hS.hi1
        have s3 : hi ≤ k := by have := hS.hi2; rw [hn.out] at this; exact this
        have HS : Hid (Sp13 z A m r lo hi) := hS
        obtain ⟨c1, sg⟩ := HIX.out w2 B1
        obtain ⟨ab, ao, rfl, -⟩ := sg.at_ lo (by rw [nz12_len13, HAL.out]; omega)
        have sg2 : SegZ w2 (some ⟨ab, ao + lo, none⟩) (((nz12 A).drop lo).take (hi - lo)) := by
          refine SegZ.take (zs := (nz12 A).drop lo) ?_ _
          refine ⟨fun i hi' => ?_, getD_bdz fun y hy => sg.mem y (List.mem_of_mem_drop hy)⟩
          rw [List.length_drop] at hi'
          obtain ⟨b', o', q1, q2⟩ := sg.at_ (lo + i) (by omega)
          cases q1
          refine ⟨ab, ao + lo, rfl, ?_⟩
          rw [Nat.add_assoc, q2]
          simp [List.getD]
        have HMN := pmin13 (some ⟨ab, ao + lo, none⟩) _ (hi - lo) (ac - lo) w2 sg2 (by show _ = _; rw [List.length_take, List.length_drop, nz12_len13, HAL.out]; omega) (by omega) (by omega)
        have HAI : Hid (∀ v : Int, v ∈ ((nz12 A).drop lo).take (hi - lo) ↔ ∃ q, lo ≤ q ∧ q < hi ∧ v = ((A.getD q 0 : Nat) : Int)) := nz_slice13 HAL.out (by omega) s3
        have l1 : ¬ ac = lo := by omega
        have l2 : (lo : Int) ≤ (hi : Int) := by omega
        have l3 : (hi : Int) ≤ (ac : Int) := by omega
        clear hS sg sg2 HSP
        go_wp2_with fail
        refine HMN.mono ?_
        rintro e3 w3 ⟨v, rfl, hv1, hv2, hw3⟩
        subst hw3
        obtain ⟨q, q1, q2, hvq⟩ := (HAI.out v).1 hv1
        have HLP : Hid (Lp13 z (A.getD r 0) m (A.getD q 0)) := HS.out.place HAZ.out HLV.out ⟨q, q1, q2, rfl⟩ (fun p p1 p2 => by
          have h5 := hv2 _ ((HAI.out _).2 ⟨p, p1, p2, rfl⟩)
          omega)
        have hql : A.getD q 0 ≤ 16777216 := by have := HLP.out.lt; rw [hn.out] at this; omega
        subst hvq
        clear hv1 hv2 HMN
        generalize A.getD q 0 = i at *
        go_wp2_with fail
        refine bodyPost_ret (results_tmp2 rfl _ _ _) rfl ?_
        exact ⟨i, m, r, rfl, ⟨HMZ.out, fun h => absurd h h0, fun _ => HLP.out⟩, B1⟩
set_option maxRecDepth 100000 in
set_option maxHeartbeats 4000000 in
theorem rrep13 (a : Option Addr) (z : List Int) (n ca : Nat) (A : List Nat) (w : World) (hs : Seg w a z) (hc : n ≤ ca) (hn : Hid (z.length = n)) (hA : Ar12 n (S12 z) A) (hb : n ≤ 16777216) :
    Calls Try.prog 20 #[.slice a n ca] w (RpQ13 w z A) := by
  have HAR := rarr13 a z n ca A w hs hc hn hA hb
  have HLC : Hid (∀ W, Below w.heap.size w W → Calls Try.prog 17 #[.slice a n ca] W (LvQ13 W z A n)) := fun W b => rlcp13 a z n ca A W (hs.old b) hc hn hA hb
  have HSD : Hid (∀ w', Below w.heap.size w w' → Seg w' a z) := fun w' b => hs.old b
  have HAZ : Hid (Ar12 z.length (S12 z) A) := by show Ar12 _ _ _; rw [hn.out]; exact hA
  have HA : Hid (Ar12 n (S12 z) A) := hA
  clear hs hA
  go_enter Try.func20, Try.ntmps20
  go_wp2_with (first
    | (go_at_call 10; refine HAR.mono ?_; rintro e1 w1 ⟨rfl, R1, B1⟩; clear HAR)
    | (go_at_call 17; refine (HLC.out w1 B1).mono ?_; rintro e2 w2 ⟨g, rfl, R2, -, B2⟩; clear HLC))
  have RA := R1.old B2
  have C2 := B1.trans (B2.mono B1.size)
  obtain ⟨ga, hga⟩ : ∃ ga, ga = w.heap.size := ⟨_, rfl⟩
  rw [← hga] at RA
  rw [← hga]
  have HGA : Hid (ga = w.heap.size) := hga
  have HC : Hid (∀ d q, q < n → (w2.drewN d).cell? ⟨g, q, none⟩ = some (.int .i64 ((lv13 z A q : Nat) : Int)) ∧ (w2.drewN d).cell? ⟨ga, q, none⟩ = some (.int .i64 ((A.getD q 0 : Nat) : Int))) := fun d q hq => by
    have h1 := R2.cell (i := q) (by rw [lp13_len, hn.out]; exact hq)
    rw [lp13_get (by rw [hn.out]; exact hq)] at h1
    have h2 := RA.cell (i := q) (by rw [nz12_len13, HA.out.len]; exact hq)
    rw [nz12_get13 (by rw [HA.out.len]; exact hq)] at h2
    exact ⟨h1, h2⟩
  have HLB : Hid (∀ q, q < n → lv13 z A q ≤ 16777216) := fun q hq => by
    have h7 := (lv13_le HAZ.out (r := q) (by rw [hn.out]; exact hq)).1
    rw [hn.out] at h7
    omega
  have HSW := HSD.out w2 C2
  clear R1 R2 RA B1 B2 hga
  go_loopw [5, 6, 15] (fun tm ta tk wr => ∃ k m r at0 : Nat, k ≤ n ∧ tm = .int .i64 m ∧ ta = .int .i64 at0 ∧ tk = .int .i64 k ∧ Hid (Mk13 z A k m r ∧ (0 < m → at0 = A.getD r 0)) ∧ m ≤ 16777216 ∧ ∃ d, wr = w2.drewN d) (fun _ _ tk _ => n - (intOf tk).toNat)
  case atStart => exact ⟨0, 0, 0, 0, Nat.zero_le _, rfl, rfl, rfl, ⟨Mk13.zero z A, fun h => by omega⟩, by omega, 0, rfl⟩
  case round =>
    obtain ⟨k, m, r, at0, hk, rfl, rfl, rfl, HM, hm24, d, hd⟩ := hrel
    by_cases h1 : k < n
    · have h1i : (k : Int) < (n : Int) := by omega
      obtain ⟨c1, c2⟩ := HC.out d k h1
      rw [← hd] at c1 c2
      have HD : Hid (wr = w2.drewN d) := hd
      clear hd
      have lb := HLB.out k h1
      have hal := HA.out.get h1
      have H1 : Hid (m < lv13 z A k → Mk13 z A (k + 1) (lv13 z A k) k) := fun h => HM.out.1.more h
      have H2 : Hid (¬ m < lv13 z A k → Mk13 z A (k + 1) m r ∧ (0 < m → at0 = A.getD r 0)) := fun h => ⟨HM.out.1.same h, HM.out.2⟩
      have HDD : Hid (∀ j, ∃ d2, wr.drewN j = w2.drewN d2) := fun j => ⟨d + j, by rw [HD.out]; exact World.drewN_drewN w2 d j⟩
      by_cases h2 : m < lv13 z A k
      · have H3 : Hid (Mk13 z A (k + 1) (lv13 z A k) k ∧ (0 < lv13 z A k → A.getD k 0 = A.getD k 0)) := ⟨H1.out h2, fun _ => rfl⟩
        clear H1 H2 HM
        have H4 : Hid (∀ p, p = A.getD k 0 → Mk13 z A (k + 1) (lv13 z A k) k ∧ (0 < lv13 z A k → p = A.getD k 0)) := fun p hp => ⟨H3.out.1, fun _ => hp⟩
        obtain ⟨p, hp⟩ : ∃ p, p = A.getD k 0 := ⟨_, rfl⟩
        have H5 : Hid (Mk13 z A (k + 1) (lv13 z A k) k ∧ (0 < lv13 z A k → p = A.getD k 0)) := H4.out p hp
        rw [← hp] at c2 hal
        clear H3 H4 hp
        generalize lv13 z A k = v at *
        have h2i : (m : Int) < (v : Int) := by omega
        go_wp2_with fail
        go_quiet (fail)
        go_wp2_with fail
        go_roundw
        case rel => exact ⟨k + 1, v, k, p, by omega, by go_num, by go_num, by go_num, H5, lb, HDD.out _⟩
        case measure => simp [intOf]; omega
      · have H3 : Hid (Mk13 z A (k + 1) m r ∧ (0 < m → at0 = A.getD r 0)) := H2.out h2
        clear H1 H2 HM
        generalize lv13 z A k = v at *
        have h2i : ¬ (m : Int) < (v : Int) := by omega
        go_wp2_with fail
        go_roundw
        case rel => exact ⟨k + 1, m, r, at0, by omega, by go_num, by go_num, by go_num, H3, hm24, d, HD.out⟩
        case measure => simp [intOf]; omega
    · have h1i : ¬ (k : Int) < (n : Int) := by omega
      obtain rfl : k = n := by omega
      have HMZ : Hid (Mk13 z A z.length m r) := by show Mk13 _ _ _ _ _; rw [hn.out]; exact HM.out.1
      have HD : Hid (wr = w2.drewN d) := hd
      have Cd : Below w.heap.size w (w2.drewN d) := C2.trans ⟨rfl, rfl, rfl, Nat.le_refl _, fun _ _ => rfl⟩
      rw [← hd] at Cd
      clear hd
      by_cases h0 : m = 0
      · subst h0
        go_wp2_with fail
        refine bodyPost_ret (results_tmp2 rfl _ _ _) rfl ?_
        exact ⟨0, 0, r, rfl, ⟨HMZ.out, fun _ => rfl, fun h => by omega⟩, Cd⟩
      · have h0i : ¬ (m : Int) = 0 := by omega
        obtain ⟨hr, hlv, -⟩ := HM.out.1.at_ (by omega)
        have hat : at0 = A.getD r 0 := HM.out.2 (by omega)
        have hatl : at0 < k := by rw [hat]; exact HA.out.get hr
        have HGE : Hid (m ≤ lc13 (z.drop at0) (z.drop at0)) := by
          show _ ≤ _
          have h5 := (lv13_le HAZ.out (r := r) (by rw [hn.out]; exact hr)).1
          rw [lc13_self, List.length_drop, hat]
          omega
        have HAT : Hid (at0 = A.getD r 0) := hat
        clear hlv HM hat
        go_wp2_with fail
        rename World => w3
        go_loopw [33] (fun ti wr => ∃ i : Nat, i ≤ at0 ∧ ti = .int .i64 i ∧ Hid (∀ j, j < i → lc13 (z.drop j) (z.drop at0) < m) ∧ ∃ d2, wr = w2.drewN d2) (fun ti _ => k - (intOf ti).toNat)
        case atStart => exact ⟨0, Nat.zero_le _, rfl, (fun j h => by omega : ∀ j, j < 0 → lc13 (z.drop j) (z.drop at0) < m), d, HD.out⟩
        case round =>
          obtain ⟨i, hi, rfl, HI, d2, hd2⟩ := hrel
          have hii : (i : Int) < (k : Int) := by omega
          have hati : (at0 : Int) < (k : Int) := by omega
          have sw := HSW.drewN d2
          rw [← hd2] at sw
          have HD2 : Hid (wr = w2.drewN d2) := hd2
          have Ce : Below w.heap.size w (w2.drewN d2) := C2.trans ⟨rfl, rfl, rfl, Nat.le_refl _, fun _ _ => rfl⟩
          rw [← hd2] at Ce
          clear hd2
          obtain ⟨xb, off, rfl, -⟩ := sw.at_ i (by rw [hn.out]; omega)
          have HCM : Hid (∀ j, Calls Try.prog 39 #[.slice (some ⟨xb, off + i, none⟩) (k - i) (ca - i), .slice (some ⟨xb, off + at0, none⟩) (k - at0) (ca - at0)] (wr.drewN j) fun e w' => e = .returned (.int .i64 ((lc13 (z.drop i) (z.drop at0) : Nat) : Int)) ∧ ∃ m, w' = (wr.drewN j).drewN m) := fun j => rcom13 _ (z.drop i) _ _ _ (z.drop at0) _ _ _ ((sw.drewN j).drop i) ((sw.drewN j).drop at0) (by show _ = _; rw [List.length_drop, hn.out]) (by show _ = _; rw [List.length_drop, hn.out]) (by omega) (by omega)
          have l1 : i ≤ k := by omega
          have l2 : at0 ≤ k := by omega
          have l3 : ¬ ca = i := by omega
          have l4 : ¬ ca = at0 := by omega
          have HDD : Hid (∀ j, ∃ d3, wr.drewN j = w2.drewN d3) := fun j => ⟨d2 + j, by rw [HD2.out]; exact World.drewN_drewN w2 d2 j⟩
          have HNX : Hid (lc13 (z.drop i) (z.drop at0) < m → i < at0 ∧ ∀ j, j < i + 1 → lc13 (z.drop j) (z.drop at0) < m) := fun h => by
            refine ⟨?_, fun j hj => ?_⟩
            · rcases Nat.lt_or_ge i at0 with c | c
              · exact c
              · have : i = at0 := by omega
                rw [this] at h
                have := HGE.out
                omega
            · by_cases c : j = i
              · rw [c]; exact h
              · exact HI.out j (by omega)
          have HFD : Hid (m ≤ lc13 (z.drop i) (z.drop at0) → Lp13 z (A.getD r 0) m i) := fun h => by
            rw [← HAT.out]
            exact ⟨by rw [hn.out]; omega, h, HI.out⟩
          by_cases h3 : m ≤ lc13 (z.drop i) (z.drop at0)
          · have HLP : Hid (Lp13 z (A.getD r 0) m i) := HFD.out h3
            clear HNX HFD sw
            generalize lc13 (z.drop i) (z.drop at0) = v at *
            have h3i : (m : Int) ≤ (v : Int) := by omega
            go_wp2_with fail
            go_quiet ((go_at_call 39; exact Calls.quiet_of (HCM.out _)))
            go_wp2_with fail
            refine bodyPost_ret (results_tmp2 rfl _ _ _) rfl ?_
            exact ⟨i, m, r, rfl, ⟨HMZ.out, fun h => absurd h h0, fun _ => HLP.out⟩, Ce.trans ⟨rfl, rfl, rfl, Nat.le_refl _, fun _ _ => rfl⟩⟩
          · obtain ⟨g1, g2⟩ := HNX.out (by omega)
            have HG2 : Hid (∀ j, j < i + 1 → lc13 (z.drop j) (z.drop at0) < m) := g2
            clear HNX HFD sw g2
            generalize lc13 (z.drop i) (z.drop at0) = v at HCM h3
            have h3i : ¬ (m : Int) ≤ (v : Int) := by omega
            have h3b : decide ((m : Int) ≤ (v : Int)) = false := decide_eq_false h3i
            go_wp2_with fail
            have h3c : decide ((m : Int) ≤ (v : Int)) = false := decide_eq_false (by omega)
            go_quiet ((go_at_call 39; exact Calls.quiet_of (HCM.out _)))
            go_wp2_with fail
            go_roundw
            case rel => exact ⟨i + 1, by omega, by go_num, HG2, HDD.out _⟩
            case measure => simp [intOf]; omega
end Go.Proofs.Ytkolffhebakbaaa

namespace Go.Proofs.Ytkolffhebakbaaa
open Go.RowKit
set_option linter.unusedVariables false

theorem own_less {w : World} {base n g cap : Nat} {e : TypeId} {xs : List Value} {y : Value} (h : w.ownsRow base e 1 (.slice (some ⟨g, 0, none⟩) (n + 1) cap) (n + 1) (xs ++ [y])) : w.ownsRow base e 1 (.slice (some ⟨g, 0, none⟩) n cap) n xs := by
  have hl : xs.length = n := by have := h.1; simp at this; omega
  refine ⟨by omega, ?_⟩
  rcases h.2 with ⟨h0, _⟩ | ⟨g', cap', cur, hv, hb, hg, hc, hm, hs, ht⟩
  · cases h0
  · simp only [Value.slice.injEq, Option.some.injEq, Addr.mk.injEq, and_true, true_and] at hv
    obtain ⟨rfl, rfl⟩ := hv
    refine .inr ⟨g, cap, cur, rfl, hb, hg, by omega, hm, hs, ?_⟩
    have h2 := congrArg (List.take n) ht
    rw [List.take_take, List.take_append_of_le_length (by omega), List.take_of_length_le (by omega : xs.length ≤ n)] at h2
    rw [Nat.mul_one] at h2 ⊢
    rw [Nat.min_eq_left (by omega)] at h2
    exact h2

theorem own_take {w : World} {base m l g cap : Nat} {e : TypeId} {xs : List Value} (h : w.ownsRow base e 1 (.slice (some ⟨g, 0, none⟩) m cap) m xs) (hl : l ≤ m) : w.ownsRow base e 1 (.slice (some ⟨g, 0, none⟩) l cap) l (xs.take l) := by
  have hx : xs.length = m := by have := h.1; simp at this; omega
  refine ⟨by simp; omega, ?_⟩
  rcases h.2 with ⟨h0, _⟩ | ⟨g', cap', cur, hv, hb, hg, hc, hm, hs, ht⟩
  · cases h0
  · simp only [Value.slice.injEq, Option.some.injEq, Addr.mk.injEq, and_true, true_and] at hv
    obtain ⟨rfl, rfl⟩ := hv
    refine .inr ⟨g, cap, cur, rfl, hb, hg, by omega, hm, hs, ?_⟩
    rw [← ht, List.take_take, Nat.mul_one, Nat.mul_one, Nat.min_eq_left hl]

/-- An append of one cell onto a row of the call's own: the row itself stays; the new one is at its place, or in a new block. -/
theorem run_push_st {P : Program} (t ty : TypeId) (base : Nat) (e : TypeId) (i : TypeInfo) (z : Value) (bytes : Nat) (ht : P.underlying t = some (.slice e)) (hi : P.info? e = some i) (hz : i.zero = some z)
    (hsize : i.size = 1) (hby : i.bytes = bytes) (hzs : z.cells.size = 1)
    (w0 : World) (y : Value) (hy : y.oneCell' = true) {v : Value} {n : Nat} {xs : List Value} (hown : w0.ownsRow base e 1 v n xs)
    (h63 : n + 1 ≤ 140737488355328) (hbytes : (n + 1) * bytes ≤ 140737488355328) (hbase : base ≤ w0.heap.size) :
    ∃ v' w', (Builtin.append_ #[t, t] ty #[v, .slice (some ⟨w0.heap.size, 0, none⟩) 1 1]).run P (w0.alloc (.cells #[y] e)) = .ok v' w' ∧ w'.ownsRow base e 1 v' (n + 1) (xs ++ [y]) ∧ w0.grownBy w' v.ownBlock ∧
      w'.ownsRow base e 1 v n xs ∧ ((∃ g c, v = .slice (some ⟨g, 0, none⟩) n c ∧ v' = .slice (some ⟨g, 0, none⟩) (n + 1) c) ∨ ∃ g, v'.ownBlock = some g ∧ w0.heap.size ≤ g) := by
  have hown1 := hown.alloc (.cells #[y] e)
  have hcell := cell_one_new w0 y e
  have h1c : ∀ u ∈ [y], u.oneCell' = true := by intro u hu; simp at hu; subst hu; exact hy
  obtain ⟨v', w', hr, h1, h2, _⟩ := run_append_own (P := P) (w0.alloc (.cells #[y] e)) base t ty e i z 1 bytes ht hi hz hsize hby hzs (by decide) v n xs hown1 ⟨w0.heap.size, 0, none⟩ 1 1 [y] rfl hcell h1c (by unfold maxLen; omega) hbytes (by simp; omega)
  refine ⟨v', w', hr, h1, grownBy_trans (World.grownBy_alloc w0 _ _) h2, ?_⟩
  subst hby
  rcases hown.2 with ⟨rfl, rfl⟩ | ⟨g, cap, cur, rfl, hbg, hg, hnc, hcm, hcs, htake⟩
  · have hx : xs = [] := List.eq_nil_of_length_eq_zero (by simpa using hown.1)
    subst hx
    have hr2 := run_append_nil (P := P) (w0.alloc (.cells #[y] e)) t ty e i z ht hi hz ⟨w0.heap.size, 0, none⟩ 1 1 [y] (by rw [hsize]; rfl) hcell (by decide) (by decide) (by simp only [Nat.zero_add] at hbytes; omega)
    rw [hr] at hr2
    simp only [Result.ok.injEq] at hr2
    obtain ⟨rfl, rfl⟩ := hr2
    exact ⟨World.ownsRow_nil _ _ _ _, .inr ⟨_, rfl, by simp⟩⟩
  · by_cases hroom : n + 1 ≤ cap
    · have hg1 : (w0.alloc (.cells #[y] e)).heap[g]? = some (.cells cur e (0, 0)) := by
        rw [Below.heap_alloc _ _ _ (Array.getElem?_eq_some_iff.1 hg).1]; exact hg
      have hr2 := run_append_room (P := P) (w0.alloc (.cells #[y] e)) t ty e i ht hi g n cap cur hg1 ⟨w0.heap.size, 0, none⟩ 1 1 [y] (by rw [hsize]; rfl) hcell h1c hroom (by rw [hsize]; simp; omega)
      rw [hr] at hr2
      simp only [Result.ok.injEq] at hr2
      obtain ⟨rfl, rfl⟩ := hr2
      exact ⟨own_less h1, .inl ⟨g, cap, rfl, rfl⟩⟩
    · have hr2 := run_append_grow (P := P) (w0.alloc (.cells #[y] e)) t ty e i z ht hi hz ⟨g, 0, none⟩ n cap xs (by rw [hsize]; exact hown.1) (hown1.cells (g := g) rfl) ⟨w0.heap.size, 0, none⟩ 1 1 [y] (by rw [hsize]; rfl) hcell (by omega) (by omega) (growslice_fits (by omega) hbytes)
      rw [hr] at hr2
      simp only [Result.ok.injEq] at hr2
      obtain ⟨rfl, rfl⟩ := hr2
      refine ⟨?_, .inr ⟨_, rfl, by simp⟩⟩
      exact World.ownsRow.alloc (w := (w0.alloc (.cells #[y] e)).drew) hown1 _

theorem wpList_push_st {P : Program} {ops : Array Oper} {rest : List Oper} {o : Oper} {a : Act} {Q : Exit → Act → World → Prop} (hgd : o.guard = none) (s x : Operand) (t : TypeId)
    (ho : o.op = .call { callee := .builtin .append, args := #[s, x], argTypes := #[t, t] })
    (base : Nat) (e : TypeId) (i : TypeInfo) (z : Value) (bytes : Nat) (ht : P.underlying t = some (.slice e)) (hi : P.info? e = some i) (hz : i.zero = some z)
    (hsize : i.size = 1) (hby : i.bytes = bytes) (hzs : z.cells.size = 1)
    (w0 : World) (y : Value) (hy : y.oneCell' = true) {v : Value} {n : Nat} {xs : List Value} (hown : w0.ownsRow base e 1 v n xs) (hs : a.eval s = v) (hx : a.eval x = .slice (some ⟨w0.heap.size, 0, none⟩) 1 1)
    (h63 : n + 1 ≤ 140737488355328) (hbytes : (n + 1) * bytes ≤ 140737488355328) (hbase : base ≤ w0.heap.size)
    (h : ∀ (g c : Nat) (w' : World), w'.ownsRow base e 1 (.slice (some ⟨g, 0, none⟩) (n + 1) c) (n + 1) (xs ++ [y]) → w0.grownBy w' v.ownBlock → w'.ownsRow base e 1 v n xs → (v = .slice (some ⟨g, 0, none⟩) n c ∨ w0.heap.size ≤ g) → wpList P ops Q rest (a.put o.dst (.slice (some ⟨g, 0, none⟩) (n + 1) c)) w') : wpList P ops Q (o :: rest) a (w0.alloc (.cells #[y] e)) := by
  obtain ⟨v', w', hr, h2, h3, h4, h5⟩ := run_push_st (P := P) t o.type base e i z bytes ht hi hz hsize hby hzs w0 y hy hown h63 hbytes hbase
  obtain ⟨g, c, rfl, _⟩ := own_shape h2 (by omega)
  refine wpList_plain hgd fun K hK => ?_
  unfold Oper.wp execOp
  simp only [ho, resolve, invoke, builtin, Sem.run_bind, Sem.run_pure, Result.andThen_ok, List.map_toArray, List.map_cons, List.map_nil, hs, hx, hr]
  refine hK _ _ (h g c w' h2 h3 h4 ?_)
  rcases h5 with ⟨g', c', e1, e2⟩ | ⟨g', e1, e2⟩
  · cases e2; exact .inl e1
  · cases e1; exact .inr e2
end Go.Proofs.Ytkolffhebakbaaa
