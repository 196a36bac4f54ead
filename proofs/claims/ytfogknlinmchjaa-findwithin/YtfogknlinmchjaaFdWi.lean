
import Derived.Test.YtfogknlinmchjaaFd4
import Derived.Test.YtfogknlinmchjaaFdM3
namespace Go.Proofs.Ytfogknlinmchjaa
open Go.RowKit
set_option linter.unusedVariables false

/-! FindWithin: the walk. -/
theorem IX14.arr {w : World} {b n : Nat} {z : List Int} {A : List Nat} (h : IX14 w b n z A) :
    Calls Try.prog 16 #[.pointer (some ⟨b, 0, none⟩)] w fun e w' => ∃ ra rc, e = .returned (.slice ra n rc) ∧ SegZ w' ra (nz12 A) ∧ Below w.heap.size w w' := by
  have hA := h.ar
  have hn := h.n24
  obtain ⟨da, dc, aa, ac, gb, gr, h⟩ := h
  exact (parr13 b da dc aa ac gb gr n z A w h).mono fun e w' ⟨ra, rc, he, _, hown, hB⟩ => ⟨ra, rc, he, own_segZ hown (nz12_bd13 hA.lt hn), hB⟩
def AppQ14 (w : World) (p : List Int) (m : Nat) (c : Int) (a2 : Option Addr) (c2 : Nat) (w2 : World) : Prop := Seg w2 a2 (p ++ [c]) ∧ Below w.heap.size w w2
set_option maxRecDepth 100000 in
set_option maxHeartbeats 8000000 in
theorem findWithin_walk (w : World) (a : Option Addr) (z : List Int) (ca : Nat) (hs : Seg w a z) (hc : z.length ≤ ca) (hnil : a = none → ca = 0) (hl : z.length ≤ 140737488351232) (pa : Option Addr) (p : List Int) (pc : Nat) (hp : Seg w pa p) (hpc : p.length ≤ pc) (hpn : pa = none → pc = 0) (hpl : p.length ≤ 140737488351232) :
    Calls Try.prog 4 #[.slice a z.length ca, .slice pa p.length pc] w fun e w' => e = .returned (.bool true) ∧ Below w.heap.size w w' := by
  generalize hn0 : z.length = n at *
  have hn : Hid (z.length = n) := hn0
  generalize hm0 : p.length = m at *
  have hm : Hid (p.length = m) := hm0
  clear hn0 hm0
  have HAW : Hid (∀ W, Below w.heap.size w W → Calls Try.prog 9 #[] W fun e w' => e = .returned (.bool true) ∧ Below w.heap.size w w' ∧ Below W.heap.size W w') := fun W hb => (pawk14 W).mono fun e w' ⟨he, hB⟩ => ⟨he, hb.trans (hB.mono hb.size), hB⟩
  by_cases h24 : 16777216 < n
  · have HN := pidxn14 a n ca w h24 (by omega)
    have AW := HAW.out w (Below.refl _ _)
    clear hs hp
    go_enter Try.func4, Try.ntmps4
    go_wp2_with (first
      | (go_at_call 8; refine HN.mono ?_; rintro e1 w1 ⟨rfl, hw1⟩; subst hw1; clear HN)
      | (go_at_call 9; refine AW.mono ?_; rintro e2 w2 ⟨rfl, B2, -⟩))
    go_ret
    exact ⟨rfl, B2⟩
  · have hn24 : n ≤ 16777216 := by omega
    have HN := pidx14 a z n ca w hs hnil hn (by omega)
    have HSZ : Hid (∀ W, Below w.heap.size w W → Seg W a z) := fun W hb => hs.old hb
    have HSP : Hid (∀ W, Below w.heap.size w W → Seg W pa p) := fun W hb => hp.old hb
    have HVZ : Hid (∀ y ∈ z, 0 ≤ y ∧ y ≤ 255) := hs.mem
    have HVP : Hid (∀ y ∈ p, 0 ≤ y ∧ y ≤ 255) := hp.mem
    have HCP : Hid (∀ W, Below w.heap.size w W → ∀ d, (convert 22 9 (.slice pa m pc)).run Try.prog (W.drewN d) = .ok (.string (strOfNums p)) (W.drewN d)) := fun W hb d => by
      have h8 := run_conv_segS (P := Try.prog) pc ((hp.old hb).drewN d) 22 5 9 Try.underlying22 Try.underlying5 Try.underlying9
      rw [hm.out] at h8
      exact h8
    have HCD : Hid (∀ W xb off at_ k L, a = some ⟨xb, off, none⟩ → Below w.heap.size w W → at_ + k ≤ n → L = k → ∀ d, (convert 22 9 (.slice (some ⟨xb, off + at_, none⟩) L (ca - at_))).run Try.prog (W.drewN d) = .ok (.string (strOfNums ((z.drop at_).take k))) (W.drewN d)) := by
      rintro W xb off at_ k L rfl hb hk rfl d
      have h7 := ((((hs.old hb).drewN d).drop at_).take L)
      have h8 := run_conv_segS (P := Try.prog) (ca - at_) h7 22 5 9 Try.underlying22 Try.underlying5 Try.underlying9
      have h9 : ((z.drop at_).take L).length = L := by rw [List.length_take, List.length_drop, hn.out]; omega
      rw [h9] at h8
      exact h8
    have HEQ : Hid (∀ X, (∀ y ∈ X, 0 ≤ y ∧ y ≤ 255) → ((strOfNums X).toList == (strOfNums p).toList) = (X == p)) := fun X hX => str_injS hX hp.mem
    have hlh := lo14_le_hi z p
    have hhn : hi14 z p ≤ n := by rw [← hn.out]; exact hi14_le z p
    have HSC : Hid (∀ k, sc14 z p k ≤ n) := fun k => by rw [← hn.out]; exact sc14_bd hs.mem k
    have HAL := sc14_all (z := z) (p := p) hs.mem
    have HALL : Hid (hi14 z p - lo14 z p = sc14 z p 256 + (if 0 < p.length ∧ p.length ≤ z.length ∧ z.drop (z.length - p.length) = p then 1 else 0)) := by
      show _ = _
      rw [HAL]
    clear hs hp HAL
    go_enter Try.func4, Try.ntmps4
    go_wp2_with (first
      | (go_at_call 8; refine HN.mono ?_; rintro e1 w1 ⟨b, A, rfl, hI, B1⟩; clear HN)
      | (go_at_call 15; fail))
    have HRNG : Hid (∀ W pa' q k pc', Below w1.heap.size w1 W → Seg W pa' q → q.length = k → k ≤ 9223372036854775807 → Calls Try.prog 15 #[.pointer (some ⟨b, 0, none⟩), .slice pa' k pc'] W fun e w' => e = .returned (.tuple #[.int .i64 ((lo14 z q : Nat) : Int), .int .i64 ((hi14 z q : Nat) : Int), .int .i64 0]) ∧ Below W.heap.size W w') := fun W pa' q k pc' hb hq hk hkb => prange14 b n z A pa' q k pc' W (hI.old hb) hq hk hkb
    have HIX : Hid (∀ r, r < n → (cv13 (z.drop (A.getD r 0)) p = 0 ↔ (lo14 z p ≤ r ∧ r < hi14 z p)) ∧ A.getD r 0 < n) := fun r hr => by
      have h1 := lo14_iff hI.arz p (r := r) (by rw [hn.out]; exact hr)
      have h2 := hi14_iff hI.arz p (r := r) (by rw [hn.out]; exact hr)
      refine ⟨⟨fun h => ⟨?_, h2.1 (by omega)⟩, fun ⟨k1, k2⟩ => ?_⟩, hI.ar.get hr⟩
      · rcases Nat.lt_or_ge r (lo14 z p) with c | c
        · have := h1.2 c; omega
        · exact c
      · have k3 := h2.2 k2
        have k4 : ¬ cv13 (z.drop (A.getD r 0)) p < 0 := fun c => by have := h1.1 c; omega
        omega
    have HAR : Hid (A.length = n) := hI.ar.len
    refine (HRNG.out w1 pa p m pc (Below.refl _ _) (HSP.out w1 B1) hm.out (by omega)).mono ?_
    rintro e2 w2 ⟨rfl, B12⟩
    have B2 := B1.trans (B12.mono B1.size)
    have AW := HAW.out w2 B2
    have HARR : Hid (∀ W, Below w1.heap.size w1 W → Calls Try.prog 16 #[.pointer (some ⟨b, 0, none⟩)] W fun e w' => ∃ ra rc, e = .returned (.slice ra n rc) ∧ SegZ w' ra (nz12 A) ∧ Below W.heap.size W w') := fun W hb => (hI.old hb).arr
    clear hI
    have hlo0 : ¬ ((lo14 z p : Nat) : Int) < 0 := by omega
    have hlhi : ¬ ((hi14 z p : Nat) : Int) < ((lo14 z p : Nat) : Int) := by omega
    have hhni : ¬ (n : Int) < ((hi14 z p : Nat) : Int) := by omega
    obtain ⟨lo, hlo⟩ : ∃ lo, lo = lo14 z p := ⟨_, rfl⟩
    obtain ⟨hi, hhi⟩ : ∃ hi, hi = hi14 z p := ⟨_, rfl⟩
    have HLO : Hid (lo = lo14 z p) := hlo
    have HHI : Hid (hi = hi14 z p) := hhi
    rw [← hlo] at hlo0 hlhi hlh HALL HIX ⊢
    rw [← hhi] at hlhi hhni hlh hhn HALL HIX ⊢
    clear hlo hhi
    go_wp2_with (first
      | (go_at_call 9; refine AW.mono ?_; rintro e3 w3 ⟨rfl, B3, B23⟩; clear AW; have C3 := B12.trans (B23.mono B12.size))
      | (go_at_call 16; refine (HARR.out w3 C3).mono ?_; rintro e4 w4 ⟨ra, rc, rfl, sA, B34⟩; have B4 := B3.trans (B34.mono B3.size); have C4 := C3.trans (B34.mono C3.size)))
    have HAV : Hid (∀ W q, Below w4.heap.size w4 W → q < n → ∃ ab ao, ra = some ⟨ab, ao, none⟩ ∧ W.cell? ⟨ab, ao + q, none⟩ = some (.int .i64 ((A.getD q 0 : Nat) : Int))) := fun W q hW hq => by
      obtain ⟨ab, ao, h1, h2⟩ := (sA.old hW).at_ q (by rw [nz12_len13, HAR.out]; exact hq)
      rw [nz12_get13 (by rw [HAR.out]; exact hq)] at h2
      exact ⟨ab, ao, h1, h2⟩
    have HB4 : Hid (∀ d, Below w4.heap.size w4 (w4.drewN d)) := fun d => below_drewN14 w4 d
    clear sA HARR B12 B23 C3 B34
    go_loopw [11] (fun ti wr => ∃ r : Nat, r ≤ n ∧ ti = .int .i64 r ∧ ∃ d, wr = w4.drewN d) (fun ti _ => n - (intOf ti).toNat)
    case atStart => exact ⟨0, Nat.zero_le _, rfl, 0, rfl⟩
    case round =>
      obtain ⟨r, hr, rfl, d0, hd0⟩ := hrel
      by_cases h1 : r < n
      · have h1i : (r : Int) < (n : Int) := by omega
        have BR : Below w4.heap.size w4 wr := by rw [hd0]; exact HB4.out d0
        have BRw : Below w.heap.size w wr := B4.trans (BR.mono B4.size)
        obtain ⟨ab, ao, rfl, c1⟩ := HAV.out wr r BR h1
        obtain ⟨hiff, hat⟩ := HIX.out r h1
        have HD0 : Hid (wr = w4.drewN d0) := hd0
        clear hd0
        have HPT : Hid (cv13 (z.drop (A.getD r 0)) p = 0 ↔ (m ≤ n - A.getD r 0 ∧ (z.drop (A.getD r 0)).take m = p)) := by
          have := begin_part14 (z := z) (p := p) (at_ := A.getD r 0)
          rw [hm.out, hn.out] at this
          exact this
        obtain ⟨xb, off, rfl, -⟩ := (HSZ.out w (Below.refl _ _)).at_ (A.getD r 0) (by rw [hn.out]; exact hat)
        have HXB : Hid (∀ y ∈ (z.drop (A.getD r 0)).take m, 0 ≤ y ∧ y ≤ 255) := fun y hy => HVZ.out y (List.mem_of_mem_drop (List.mem_of_mem_take hy))
        have HE2 : Hid (((strOfNums ((z.drop (A.getD r 0)).take m)).toList == (strOfNums p).toList) = ((z.drop (A.getD r 0)).take m == p)) := HEQ.out _ HXB.out
        have HC2 : Hid (∀ L, A.getD r 0 + m ≤ n → L = m → ∀ d, (convert 22 9 (.slice (some ⟨xb, off + A.getD r 0, none⟩) L (ca - A.getD r 0))).run Try.prog (wr.drewN d) = .ok (.string (strOfNums ((z.drop (A.getD r 0)).take m))) (wr.drewN d)) := fun L h1 h2 => HCD.out wr xb off _ m L rfl BRw h1 h2
        have HFN : Hid (∀ k, ∃ d, wr.drewN k = w4.drewN d) := fun k => ⟨d0 + k, by rw [HD0.out, drewN14]⟩
        have y0 := HCP.out wr BRw
        generalize A.getD r 0 = at_ at *
        obtain ⟨D, hD⟩ : ∃ D, D = n - at_ := ⟨_, rfl⟩
        have e1 : (n : Int) - (at_ : Int) = (D : Int) := by omega
        have e2 : IntKind.i64.wrap ((n : Int) - (at_ : Int)) = (D : Int) := by rw [e1]; exact IntWalk.i64_in _ (by omega)
        have hDn : D ≤ n := by omega
        have x1 : (0 : Int) ≤ (at_ : Int) := by omega
        have x3 : (at_ : Int) ≤ (at_ : Int) + (m : Int) := by omega
        have x7 : IntKind.i64.wrap ((at_ : Int) + (m : Int)) = (at_ : Int) + (m : Int) := IntWalk.i64_in _ (by omega)
        have x9 : (0 : Int) ≤ (at_ : Int) + (m : Int) := by omega
        have x11 : ¬ ca = at_ := by omega
        by_cases hb : cv13 (z.drop at_) p = 0
        · obtain ⟨k1, k2⟩ := hiff.1 hb
          obtain ⟨k3, k4⟩ := HPT.out.1 hb
          have k5 : at_ + m ≤ n := by omega
          have HE3 := HE2.out
          rw [k4] at HE3
          rw [k4] at HC2
          have y1 := HC2.out m k5 rfl
          have y2 := HC2.out (((at_ : Int) + (m : Int)).toNat - at_) k5 (by omega)
          have y3 := HC2.out (at_ + m - at_) k5 (by omega)
          have g1 : decide ((m : Int) ≤ (D : Int)) = true := decide_eq_true (by omega)
          have g2 : decide (m ≤ D) = true := decide_eq_true (by omega)
          have g4 : (m : Int) ≤ (D : Int) := by omega
          have x5 : (at_ : Int) + (m : Int) ≤ (ca : Int) := by omega
          have x6 : (at_ : Int) + (m : Int) ≤ (n : Int) := by omega
          have j1 : (lo : Int) ≤ (r : Int) := by omega
          have j2 : (r : Int) < (hi : Int) := by omega
          clear hb HPT hiff k3 k4 HE2 HC2 HE3 hD
          generalize strOfNums p = st at *
          go_wp2_with fail
          go_quiet (fail)
          clear y0 y1 y2 y3
          go_wp2_with fail
          go_roundw
          case rel => exact ⟨r + 1, by omega, by go_num, HFN.out _⟩
          case measure => simp [intOf]; omega
        · have hno : r < lo ∨ (lo ≤ r ∧ hi ≤ r) := by
            rcases Nat.lt_or_ge r lo with c | c
            · exact Or.inl c
            · rcases Nat.lt_or_ge r hi with d | d
              · exact absurd (hiff.2 ⟨c, d⟩) hb
              · exact Or.inr ⟨c, d⟩
          by_cases hlen : m ≤ D
          · have k5 : at_ + m ≤ n := by omega
            have hneq : ¬ (z.drop at_).take m = p := fun e => hb (HPT.out.2 ⟨by omega, e⟩)
            have HE3 := HE2.out
            rw [beq_eq_false_iff_ne.2 hneq] at HE3
            have y1 := HC2.out m k5 rfl
            have y2 := HC2.out (((at_ : Int) + (m : Int)).toNat - at_) k5 (by omega)
            have y3 := HC2.out (at_ + m - at_) k5 (by omega)
            have g1 : decide ((m : Int) ≤ (D : Int)) = true := decide_eq_true (by omega)
            have g2 : decide (m ≤ D) = true := decide_eq_true (by omega)
            have g4 : (m : Int) ≤ (D : Int) := by omega
            have x5 : (at_ : Int) + (m : Int) ≤ (ca : Int) := by omega
            have x6 : (at_ : Int) + (m : Int) ≤ (n : Int) := by omega
            clear hb HPT hiff HE2 HC2 hD hneq
            generalize strOfNums p = st at *
            generalize strOfNums ((z.drop at_).take m) = st2 at *
            go_wp2_with fail
            go_quiet (fail)
            clear y0 y1 y2 y3
            rcases hno with c | ⟨c, d⟩
            · have j1 : ¬ (lo : Int) ≤ (r : Int) := by omega
              go_wp2_with fail
              go_roundw
              case rel => exact ⟨r + 1, by omega, by go_num, HFN.out _⟩
              case measure => simp [intOf]; omega
            · have j1 : (lo : Int) ≤ (r : Int) := by omega
              have j2 : ¬ (r : Int) < (hi : Int) := by omega
              go_wp2_with fail
              go_roundw
              case rel => exact ⟨r + 1, by omega, by go_num, HFN.out _⟩
              case measure => simp [intOf]; omega
          · have g1 : decide ((m : Int) ≤ (D : Int)) = false := decide_eq_false (by omega)
            have g2 : decide (m ≤ D) = false := decide_eq_false (by omega)
            have g4 : ¬ (m : Int) ≤ (D : Int) := by omega
            clear hb HPT hiff HE2 HC2 hD y0
            go_wp2_with fail
            go_quiet (fail)
            rcases hno with c | ⟨c, d⟩
            · have j1 : ¬ (lo : Int) ≤ (r : Int) := by omega
              go_wp2_with fail
              go_roundw
              case rel => exact ⟨r + 1, by omega, by go_num, HFN.out _⟩
              case measure => simp [intOf]; omega
            · have j1 : (lo : Int) ≤ (r : Int) := by omega
              have j2 : ¬ (r : Int) < (hi : Int) := by omega
              go_wp2_with fail
              go_roundw
              case rel => exact ⟨r + 1, by omega, by go_num, HFN.out _⟩
              case measure => simp [intOf]; omega
      · have h1i : ¬ (r : Int) < (n : Int) := by omega
        obtain rfl : r = n := by omega
        have BR : Below w4.heap.size w4 wr := by rw [hd0]; exact HB4.out d0
        have BRw : Below w.heap.size w wr := B4.trans (BR.mono B4.size)
        have CR : Below w1.heap.size w1 wr := C4.trans (BR.mono C4.size)
        have HLC : Hid (∀ c : Nat, lo ≤ lo14 z (p ++ [(c : Int)]) ∧ hi14 z (p ++ [(c : Int)]) ≤ hi ∧ lo14 z (p ++ [(c : Int)]) ≤ hi14 z (p ++ [(c : Int)])) := fun c => ⟨by rw [HLO.out]; exact lo_app14 z p c, by rw [HHI.out]; exact hi_app14 z p c, lo14_le_hi _ _⟩
        have HAP : Hid (∀ c : Nat, hi14 z (p ++ [(c : Int)]) ≤ lo14 z (p ++ [((c + 1 : Nat) : Int)])) := fun c => apart14 z p (by omega)
        have HSS : Hid (∀ c, sc14 z p (c + 1) = sc14 z p c + (hi14 z (p ++ [(c : Int)]) - lo14 z (p ++ [(c : Int)]))) := fun c => rfl
        have HSG : Hid (∀ (w2 : World) (c : Int), 0 ≤ c → c ≤ 255 → Seg (w2.alloc (.cells #[.int .u8 c] 5)) (some ⟨w2.heap.size, 0, none⟩) [c]) := fun w2 c h0 h1 => seg_lit13 w2 [c] 5 (0, 0) (by intro y hy; simp at hy; subst hy; exact ⟨h0, h1⟩)
        obtain ⟨i0, hii, hz0, hz1, hz2⟩ := info_parts info_y13
        clear HAV HIX HAR hd0 HB4 HCD
        go_wp2_with fail
        go_loopw [14, 15, 16] (fun tl ts tc wr => ∃ c l s : Nat, c ≤ 256 ∧ tl = .int .i64 l ∧ ts = .int .i64 s ∧ tc = .int .i64 c ∧ Hid (s = sc14 z p c) ∧ Hid (c < 256 → l ≤ lo14 z (p ++ [(c : Int)])) ∧ Below w1.heap.size w1 wr) (fun _ _ tc _ => 256 - (intOf tc).toNat)
        case atStart => exact ⟨0, lo, 0, by omega, rfl, rfl, rfl, (rfl : _ = _), (fun _ => (HLC.out 0).1), CR⟩
        case round =>
          obtain ⟨c, l, s, hc256, rfl, rfl, rfl, HS, HLL, CW⟩ := hrel
          have BW : Below w.heap.size w wr := B1.trans (CW.mono B1.size)
          have hsn : s ≤ r := by rw [HS.out]; exact HSC.out c
          by_cases h2 : c < 256
          · have h2i : (c : Int) < 256 := by omega
            have sp := HSP.out wr BW
            obtain ⟨q1, q2, q3⟩ := HLC.out c
            have q4 := HLL.out h2
            have q5 := HAP.out c
            have q6 := HSS.out c
            have q7 := HSC.out (c + 1)
            have HRC : Hid (∀ W pa' k pc', Below w1.heap.size w1 W → Seg W pa' (p ++ [(c : Int)]) → k = m + 1 → Calls Try.prog 15 #[.pointer (some ⟨b, 0, none⟩), .slice pa' k pc'] W fun e w' => e = .returned (.tuple #[.int .i64 ((lo14 z (p ++ [(c : Int)]) : Nat) : Int), .int .i64 ((hi14 z (p ++ [(c : Int)]) : Nat) : Int), .int .i64 0]) ∧ Below W.heap.size W w') := fun W pa' k pc' hb hq hk => HRNG.out W pa' _ k pc' hb hq (by rw [List.length_append, hm.out]; simp; omega) (by omega)
            have HNX : Hid (s + (hi14 z (p ++ [(c : Int)]) - lo14 z (p ++ [(c : Int)])) = sc14 z p (c + 1)) := by show _ = _; rw [q6, HS.out]
            rw [← HNX.out] at q7
            have HN2 : Hid (hi14 z (p ++ [(c : Int)]) ≤ lo14 z (p ++ [((c + 1 : Nat) : Int)])) := q5
            clear q5 q6
            have icu : IntKind.u8.wrap (c : Int) = (c : Int) := IntWalk.u8_in _ (by omega)
            have HSGc : Hid (∀ w2 : World, Seg (w2.alloc (.cells #[.int .u8 (c : Int)] 5)) (some ⟨w2.heap.size, 0, none⟩) [(c : Int)]) := fun w2 => HSG.out w2 c (by omega) (by omega)
            have HVA : Hid (∀ y ∈ p ++ [(c : Int)], 0 ≤ y ∧ y ≤ 255) := fun y hy => by
              rcases List.mem_append.1 hy with h | h
              · exact HVP.out y h
              · simp at h; omega
            generalize lo14 z (p ++ [(c : Int)]) = lc at *
            generalize hi14 z (p ++ [(c : Int)]) = hc' at *
            have hml := hm.out
            clear hml
            go_wp2_with (first
              | (at_builtin; refine wpList_appS rfl (.const (.slice none 0 0)) (.tmp 117) 22 rfl wr.heap.size 5 i0 (.int .u8 0) 1 Try.underlying22 hii hz0 hz1 hz2 rfl (World.ownsRow_nil _ _ _ _) sp hpn rfl (by rw [hm.out]; rfl) (by rw [hm.out]; omega) (by rw [hm.out]; omega) (Nat.le_refl _) ?_; intro a5 c5 w5 hown5 hg5 hf5 hn5; have hb5 := below_own (World.ownsRow_nil wr wr.heap.size 5 1) hg5 (Nat.le_refl _); clear hf5 hn5 hg5; rw [Nat.zero_add, List.nil_append] at hown5)
              | (at_builtin; refine wpList_appS rfl (.tmp 118) (.tmp 121) 22 rfl wr.heap.size 5 i0 (.int .u8 0) 1 Try.underlying22 hii hz0 hz1 hz2 rfl (hown5.alloc _) (HSGc.out w5) (by intro h; cases h) rfl rfl (by rw [hm.out]; simp; omega) (by rw [hm.out]; simp; omega) (by have := hb5.size; simp; omega) ?_; intro a6 c6 w6 hown6 hg6 hf6 hn6)
              | (go_at_call 15; fail))
            clear hf6 hn6
            have hb0 := hb5.trans ((Below.refl wr.heap.size w5).alloc hb5.size (.cells #[.int .u8 (c : Int)] 5))
            have hb6 : Below wr.heap.size wr w6 := hb0.trans (below_own (hown5.alloc _) hg6 (by have := hb0.size; simpa using this))
            have ev : p.map (Value.int .u8) ++ ([(c : Int)] : List Int).map (Value.int .u8) = (p ++ [(c : Int)]).map (Value.int .u8) := by simp
            rw [ev] at hown6
            have s6 : Seg w6 a6 (p ++ [(c : Int)]) := own_seg13 hown6 HVA.out
            have C6 := CW.trans (hb6.mono CW.size)
            have CC := HRC.out w6 a6 (p.length + 1) c6 C6 s6 (by rw [hm.out])
            obtain ⟨ml, hml⟩ : ∃ ml, ml = p.length + 1 := ⟨_, rfl⟩
            rw [← hml] at CC ⊢
            clear hml hown5 hown6 hg6 hb5 hb0 ev s6 sp HRC
            refine CC.mono ?_
            rintro e7 w7 ⟨rfl, B67⟩
            have C7 := C6.trans (B67.mono C6.size)
            clear CC B67 hb6
            obtain ⟨s', hs'⟩ : ∃ s', s' = s + (hc' - lc) := ⟨_, rfl⟩
            have HS' : Hid (s' = sc14 z p (c + 1)) := by show _ = _; rw [hs', HNX.out]
            have f1 : ¬ (lc : Int) < (lo : Int) := by omega
            have f2 : ¬ (hi : Int) < (hc' : Int) := by omega
            have f3 : ¬ (hc' : Int) < (lc : Int) := by omega
            have f4 : ¬ (lc : Int) < (l : Int) := by omega
            have e1 : (hc' : Int) - (lc : Int) = ((hc' - lc : Nat) : Int) := by omega
            have e3 : (s : Int) + ((hc' - lc : Nat) : Int) = (s' : Int) := by omega
            have i3 : IntKind.i64.wrap ((s : Int) + ((hc' - lc : Nat) : Int)) = (s' : Int) := by rw [e3]; exact IntWalk.i64_in _ (by omega)
            have hsb : s' ≤ r := by omega
            clear hs' e3
            go_wp2_with fail
            go_roundw
            case rel => exact ⟨c + 1, hc', s', by omega, by first | rfl | go_num, by first | rfl | go_num | (rw [i3]), by go_num, HS', (fun _ => HN2.out), C7⟩
            case measure => simp [intOf]; omega
          · have h2i : ¬ (c : Int) < 256 := by omega
            obtain rfl : c = 256 := by omega
            have HF : Hid (hi - lo = s + (if 0 < p.length ∧ p.length ≤ z.length ∧ z.drop (z.length - p.length) = p then 1 else 0)) := by show _ = _; rw [HALL.out, HS.out]
            rw [hm.out, hn.out] at HF
            have e1 : (hi : Int) - (lo : Int) = ((hi - lo : Nat) : Int) := by omega
            have HFB : Hid (Below w.heap.size w wr) := BW
            have HFD : Hid (∀ k, Below w.heap.size w (wr.drewN k)) := fun k => BW.trans ((below_drewN14 wr k).mono BW.size)
            clear HALL HSC HLC HAP HSS HSG HLL HS
            by_cases hm0 : 0 < m
            · have hm0i : (0 : Int) < (m : Int) := by omega
              have g1 : decide ((0 : Int) < (m : Int)) = true := decide_eq_true hm0i
              have g1n : decide (0 < m) = true := decide_eq_true hm0
              by_cases hmn : m ≤ r
              · have hmni : (m : Int) ≤ (r : Int) := by omega
                have g2 : decide ((m : Int) ≤ (r : Int)) = true := decide_eq_true hmni
                have g2n : decide (m ≤ r) = true := decide_eq_true hmn
                obtain ⟨xb, off, rfl, -⟩ := (HSZ.out w (Below.refl _ _)).at_ 0 (by rw [hn.out]; omega)
                obtain ⟨D, hD⟩ : ∃ D, D = r - m := ⟨_, rfl⟩
                rw [← hD] at HF
                have e2 : (r : Int) - (m : Int) = (D : Int) := by omega
                have e3 : IntKind.i64.wrap ((r : Int) - (m : Int)) = (D : Int) := by rw [e2]; exact IntWalk.i64_in _ (by omega)
                have HLD : Hid ((z.drop D).length = r - D) := by show _ = _; rw [List.length_drop, hn.out]
                have HCX : Hid (∀ d, (convert 22 9 (.slice (some ⟨xb, off + D, none⟩) (r - D) (ca - D))).run Try.prog (wr.drewN d) = .ok (.string (strOfNums (z.drop D))) (wr.drewN d)) := fun d => by
                  have h8 := run_conv_segS (P := Try.prog) (ca - D) (((HSZ.out wr BW).drewN d).drop D) 22 5 9 Try.underlying22 Try.underlying5 Try.underlying9
                  rw [HLD.out] at h8
                  exact h8
                have y1 := HCX.out
                have y2 := HCP.out wr BW
                have HE := HEQ.out (z.drop D) (fun y hy => HVZ.out y (List.mem_of_mem_drop hy))
                have x0 : (0 : Int) ≤ (D : Int) := by omega
                have x1 : (D : Int) ≤ (r : Int) := by omega
                have x2 : D ≤ r := by omega
                have x3 : ¬ ca = D := by omega
                by_cases heq : z.drop D = p
                · rw [if_pos ⟨hm0, hmn, heq⟩] at HF
                  rw [heq] at y1
                  have hsd : s + 1 ≤ r := by have := HF.out; omega
                  obtain ⟨df, hdf⟩ : ∃ df, df = hi - lo := ⟨_, rfl⟩
                  rw [← hdf] at e1
                  have hsf : s + 1 = df := by rw [hdf]; exact HF.out.symm
                  have hsfi : (s : Int) + 1 = (df : Int) := by omega
                  clear hD HE HF HLD HCX heq hdf
                  generalize strOfNums p = st at *
                  go_wp2_with fail
                  go_quiet (fail)
                  clear y1 y2
                  go_wp2_with fail
                  go_ret
                  exact ⟨by first | rfl | simp, HFD.out _⟩
                · rw [if_neg (fun h => heq h.2.2)] at HF
                  rw [beq_eq_false_iff_ne.2 heq] at HE
                  obtain ⟨df, hdf⟩ : ∃ df, df = hi - lo := ⟨_, rfl⟩
                  rw [← hdf] at e1
                  obtain rfl : s = df := by rw [hdf]; exact HF.out.symm
                  clear hD HF HLD HCX heq hdf
                  generalize strOfNums p = st at *
                  generalize strOfNums (z.drop D) = st2 at *
                  go_wp2_with fail
                  go_quiet (fail)
                  clear y1 y2
                  go_wp2_with fail
                  go_ret
                  exact ⟨by first | rfl | simp, HFD.out _⟩
              · have hmni : ¬ (m : Int) ≤ (r : Int) := by omega
                have g2 : decide ((m : Int) ≤ (r : Int)) = false := decide_eq_false hmni
                have g2n : decide (m ≤ r) = false := decide_eq_false hmn
                rw [if_neg (fun h => hmn h.2.1)] at HF
                obtain ⟨df, hdf⟩ : ∃ df, df = hi - lo := ⟨_, rfl⟩
                rw [← hdf] at e1
                obtain rfl : s = df := by rw [hdf]; exact HF.out.symm
                clear HF hdf
                go_wp2_with fail
                go_quiet (fail)
                go_wp2_with fail
                go_ret
                exact ⟨by first | rfl | simp, HFD.out _⟩
            · have hm0i : ¬ (0 : Int) < (m : Int) := by omega
              have g1 : decide ((0 : Int) < (m : Int)) = false := decide_eq_false hm0i
              have g1n : decide (0 < m) = false := decide_eq_false hm0
              rw [if_neg (fun h => hm0 h.1)] at HF
              obtain ⟨df, hdf⟩ : ∃ df, df = hi - lo := ⟨_, rfl⟩
              rw [← hdf] at e1
              obtain rfl : s = df := by rw [hdf]; exact HF.out.symm
              clear HF hdf
              go_wp2_with fail
              go_quiet (fail)
              go_wp2_with fail
              go_ret
              exact ⟨by first | rfl | simp, HFD.out _⟩
end Go.Proofs.Ytfogknlinmchjaa
