
import Derived.Test.YtlbledagpoimaaaSuL1
import Derived.Test.YtlbledagpoimaaaSame
import Derived.Deep.RegionHeld3
namespace Go.Proofs.Ytlbledagpoimaaa
open Go.RowKit
set_option linter.unusedVariables false

/-! SuffixOrders. -/
theorem ll_lc13 {a b : List Int} (h : LL12 a b) : lc13 a b < a.length → lc13 a b < b.length ∧ a.getD (lc13 a b) 0 < b.getD (lc13 a b) 0 := by
  induction h with
  | nil => intro h; simp at h
  | lt h1 => intro h; unfold lc13; rw [if_neg (by omega)]; simpa [List.getD] using h1
  | eq h1 ih =>
    intro h
    unfold lc13 at h ⊢
    rw [if_pos rfl] at h ⊢
    have := ih (by simpa using h)
    simpa [List.getD] using this
theorem ord13 {z : List Int} {A : List Nat} {n : Nat} (hn : z.length = n) (hA : Ar12 n (S12 z) A) {r : Nat} (h0 : 0 < r) (hr : r < n) :
    ((z.drop (A.getD (r - 1) 0)).take (lv13 z A r) = (z.drop (A.getD r 0)).take (lv13 z A r)) ∧ A.getD (r - 1) 0 + lv13 z A r ≤ n ∧ A.getD r 0 + lv13 z A r ≤ n ∧
    (A.getD (r - 1) 0 + lv13 z A r < n → A.getD r 0 + lv13 z A r < n ∧ z.getD (A.getD (r - 1) 0 + lv13 z A r) 0 < z.getD (A.getD r 0 + lv13 z A r) 0) := by
  subst hn
  have h1 := lv13_le hA hr
  have h2 := ls_ll13 (hA.pair (r := r - 1) (q := r) (by omega) hr)
  have e : lv13 z A r = lc13 (z.drop (A.getD (r - 1) 0)) (z.drop (A.getD r 0)) := by
    unfold lv13
    rw [if_neg (by omega), lc13_comm]
  refine ⟨by rw [e]; exact lc13_take _ _, h1.2 h0, h1.1, fun h3 => ?_⟩
  have h4 := ll_lc13 h2
  rw [← e, List.length_drop, List.length_drop] at h4
  have h5 := h4 (by omega)
  have g : ∀ (i m : Nat), (z.drop i).getD m 0 = z.getD (i + m) 0 := fun i m => by simp [List.getD]
  rw [g, g] at h5
  exact ⟨by omega, h5.2⟩
set_option maxRecDepth 100000 in
set_option maxHeartbeats 4000000 in
theorem suffixOrders_walk (w : World) (a : Option Addr) (z : List Int) (ca : Nat) (hs : Seg w a z) (hc : z.length ≤ ca) (hnil : a = none → ca = 0) (hl : z.length ≤ 140737488351232) :
    Calls Try.prog 6 #[.slice a z.length ca] w fun e w' => e = .returned (.bool true) ∧ Below w.heap.size w w' := by
  generalize hn0 : z.length = n at *
  have hn : Hid (z.length = n) := hn0
  clear hn0
  by_cases h24 : 16777216 < n
  · have h24i : (16777216 : Int) < (n : Int) := by omega
    have HN := pnewn13 a n ca w h24 (by omega)
    clear hs
    go_enter Try.func6, Try.ntmps6
    go_wp2_with (first
      | (go_at_call 10; refine HN.mono ?_; rintro e1 w1 ⟨rfl, hw1⟩; subst hw1))
    go_ret
    exact ⟨rfl, Below.refl _ _⟩
  · have h24i : ¬ (16777216 : Int) < (n : Int) := by omega
    have HN := pnew13 a z n ca w hs hnil hn (by omega)
    have HSG : Hid (∀ W, Below w.heap.size w W → Seg W a z) := fun W b => hs.old b
    clear hs
    go_enter Try.func6, Try.ntmps6
    go_wp2_with (first
      | (go_at_call 10; refine HN.mono ?_; rintro e1 w1 ⟨b, da, dc, aa, ac, gb, gr, A, rfl, hI, B1, -⟩; clear HN)
      | (go_at_call 23; refine (plen13 b da dc aa ac gb gr n z A w1 hI).mono ?_; rintro e2 w2 ⟨rfl, hw2⟩; subst hw2)
      | (go_at_call 19; fail))
    refine (parr13 b da dc aa ac gb gr n z A w2 hI).mono ?_
    rintro e3 w3 ⟨ra, rc, rfl, -, hown, B3⟩
    have sg := own_segZ hown (nz12_bd13 hI.ar.lt hI.n24)
    go_wp2_with fail
    refine (plcp13 b da dc aa ac gb gr n z A w3 (hI.old B3)).mono ?_
    rintro e4 w4 ⟨g, rfl, R4, -, B4⟩
    have HIW : Hid (∀ W, Below w4.heap.size w4 W → Ix13 W b da dc aa ac gb gr n z A) := fun W hW => ((hI.old B3).old B4).old hW
    have HA : Hid (Ar12 n (S12 z) A) := hI.ar
    have HLV : Hid (∀ W, Below w4.heap.size w4 W → ∀ q, q < n → W.cell? ⟨g, q, none⟩ = some (.int .i64 ((lv13 z A q : Nat) : Int))) := fun W hW q hq => by
      have := (R4.old hW).cell (i := q) (by rw [lp13_len, hn.out]; exact hq)
      rw [lp13_get (by rw [hn.out]; exact hq)] at this
      exact this
    have HAV : Hid (∀ W, Below w4.heap.size w4 W → ∀ q, q < n → ∃ ab ao, ra = some ⟨ab, ao, none⟩ ∧ W.cell? ⟨ab, ao + q, none⟩ = some (.int .i64 ((A.getD q 0 : Nat) : Int))) := fun W hW q hq => by
      obtain ⟨ab, ao, h1, h2⟩ := ((sg.old B4).old hW).at_ q (by rw [nz12_len13, HA.out.len]; exact hq)
      rw [nz12_get13 (by rw [HA.out.len]; exact hq)] at h2
      exact ⟨ab, ao, h1, h2⟩
    have B14 : Below w.heap.size w w4 := B1.trans ((B3.mono B1.size).trans (B4.mono (by have := B1.size; have := B3.size; omega)))
    have HBW : Hid (∀ W, Below w4.heap.size w4 W → Below w.heap.size w W) := fun W hW => B14.trans (hW.mono B14.size)
    have HRK : Hid (∀ q, q < n → rk13 A (A.getD q 0) = q) := fun q hq => HA.out.rk_at hq
    clear hI sg hown R4 B1 B3 B4 B14
    go_wp2_with fail
    go_loopw [61] (fun ti wr => ∃ r : Nat, r ≤ n ∧ ti = .int .i64 r ∧ Below w4.heap.size w4 wr) (fun ti _ => n - (intOf ti).toNat)
    case atStart => exact ⟨0, Nat.zero_le _, rfl, Below.refl _ _⟩
    case round =>
      obtain ⟨r, hr, rfl, hb⟩ := hrel
      by_cases h1 : r < n
      · have h1i : (r : Int) < (n : Int) := by omega
        obtain ⟨ab, ao, rfl, c1⟩ := HAV.out wr hb r h1
        have hat := HA.out.get h1
        have HAT := pat13 b da dc aa ac gb gr n z A r wr (HIW.out wr hb) h1
        have HRA : Hid (∀ W, Below w4.heap.size w4 W → Calls Try.prog 25 #[.pointer (some ⟨b, 0, none⟩), .int .i64 ((A.getD r 0 : Nat) : Int)] W fun e w' => e = .returned (.tuple #[.int .i64 (r : Int), .int .i64 0]) ∧ Below W.heap.size W w') := fun W hW => by
          have := prank13 b da dc aa ac gb gr n z A (A.getD r 0) W (HIW.out W hW) hat
          rw [HRK.out r h1] at this
          exact this
        by_cases h0 : r = 0
        · subst h0
          have HL0 : Hid (∀ W, Below w4.heap.size w4 W → W.cell? ⟨g, 0, none⟩ = some (.int .i64 0)) := fun W hW => HLV.out W hW 0 h1
          have hati : ((A.getD 0 0 : Nat) : Int) < (n : Int) := by omega
          rw [Nat.add_zero] at c1
          generalize A.getD 0 0 = at0 at *
          have p0 : (0 : Int) < (n : Int) := by omega
          have p1 : 0 < n := h1
          have j1 : ¬ (n : Int) ≤ (at0 : Int) := by omega
          have j2 : ¬ n ≤ at0 := by omega
          go_wp2_with (first
            | (go_at_call 24; refine HAT.mono ?_; rintro e5 w5 ⟨rfl, B5⟩; have C5 := hb.trans (B5.mono hb.size))
            | (go_at_call 25; refine (HRA.out w5 C5).mono ?_; rintro e6 w6 ⟨rfl, B6⟩; have C6 := C5.trans (B6.mono C5.size); have cl := HL0.out w6 C6))
          go_roundw
          case rel => exact ⟨1, by omega, by go_num, C6⟩
          case measure => simp [intOf]; omega
        · have h0i : ¬ (r : Int) = 0 := by omega
          obtain ⟨HE, g1, g2, HG⟩ := ord13 hn.out HA.out (r := r) (by omega) h1
          have HEQ : Hid ((z.drop (A.getD (r - 1) 0)).take (lv13 z A r) = (z.drop (A.getD r 0)).take (lv13 z A r)) := HE
          have HGT : Hid (A.getD (r - 1) 0 + lv13 z A r < n → A.getD r 0 + lv13 z A r < n ∧ z.getD (A.getD (r - 1) 0 + lv13 z A r) 0 < z.getD (A.getD r 0 + lv13 z A r) 0) := HG
          clear HE HG
          have hap := HA.out.get (r := r - 1) (by omega)
          have HLR : Hid (∀ W, Below w4.heap.size w4 W → W.cell? ⟨g, r, none⟩ = some (.int .i64 ((lv13 z A r : Nat) : Int)) ∧ W.cell? ⟨ab, ao + (r - 1), none⟩ = some (.int .i64 ((A.getD (r - 1) 0 : Nat) : Int))) := fun W hW => ⟨HLV.out W hW r h1, by
            obtain ⟨ab', ao', h5, h6⟩ := HAV.out W hW (r - 1) (by omega)
            cases h5
            exact h6⟩
          obtain ⟨xb, off, rfl, -⟩ := (HSG.out w (Below.refl _ _)).at_ (A.getD r 0) (by rw [hn.out]; exact hat)
          have HSW : Hid (∀ W, Below w4.heap.size w4 W → Seg W (some ⟨xb, off, none⟩) z) := fun W hW => HSG.out W (HBW.out W hW)
          generalize A.getD (r - 1) 0 = p at *
          generalize A.getD r 0 = q at *
          generalize lv13 z A r = v at *
          obtain ⟨r1, hr1⟩ : ∃ r1, r1 = r - 1 := ⟨_, rfl⟩
          rw [← hr1] at HLR
          have er : (r : Int) - 1 = (r1 : Int) := by omega
          have ir : (r1 : Int) < (n : Int) := by omega
          have j1 : ¬ (n : Int) ≤ (q : Int) := by omega
          have j2 : ¬ n ≤ q := by omega
          have j3 : (q : Int) < (n : Int) := by omega
          have s1 : (p : Int) + (v : Int) ≤ (n : Int) := by omega
          have s2 : (q : Int) + (v : Int) ≤ (n : Int) := by omega
          have s3 : ¬ (n : Int) < (p : Int) + (v : Int) := by omega
          have s4 : ¬ (n : Int) < (q : Int) + (v : Int) := by omega
          clear hr1
          go_wp2_with (first
            | (go_at_call 24; refine HAT.mono ?_; rintro e5 w5 ⟨rfl, B5⟩; have C5 := hb.trans (B5.mono hb.size))
            | (go_at_call 25; refine (HRA.out w5 C5).mono ?_; rintro e6 w6 ⟨rfl, B6⟩; have C6 := C5.trans (B6.mono C5.size); obtain ⟨cl, cp⟩ := HLR.out w6 C6; have sx := HSW.out w6 C6))
          have HSTR : Hid (strOfNums ((z.drop q).take v) = strOfNums ((z.drop p).take v)) := by show _ = _; rw [HEQ.out]
          have HCP : Hid (∀ d L, L = v → (convert 23 9 (.slice (some ⟨xb, off + p, none⟩) L (ca - p))).run Try.prog (w6.drewN d) = .ok (.string (strOfNums ((z.drop p).take v))) (w6.drewN d)) := by
            rintro d L rfl
            have h7 := ((sx.drewN d).drop p).take L
            have h8 := run_conv_segS (P := Try.prog) (ca - p) h7 23 5 9 Try.underlying23 Try.underlying5 Try.underlying9
            have h9 : ((z.drop p).take L).length = L := by rw [List.length_take, List.length_drop, hn.out]; omega
            rw [h9] at h8
            exact h8
          have HCQ : Hid (∀ d L, L = v → (convert 23 9 (.slice (some ⟨xb, off + q, none⟩) L (ca - q))).run Try.prog (w6.drewN d) = .ok (.string (strOfNums ((z.drop p).take v))) (w6.drewN d)) := by
            rintro d L rfl
            rw [← HSTR.out]
            have h7 := ((sx.drewN d).drop q).take L
            have h8 := run_conv_segS (P := Try.prog) (ca - q) h7 23 5 9 Try.underlying23 Try.underlying5 Try.underlying9
            have h9 : ((z.drop q).take L).length = L := by rw [List.length_take, List.length_drop, hn.out]; omega
            rw [h9] at h8
            exact h8
          have y1 := fun d => HCP.out d v rfl
          have y2 := fun d => HCP.out d (((p : Int) + (v : Int)).toNat - p) (by omega)
          have y3 := fun d => HCP.out d (p + v - p) (by omega)
          have y4 := fun d => HCQ.out d v rfl
          have y5 := fun d => HCQ.out d (((q : Int) + (v : Int)).toNat - q) (by omega)
          have y6 := fun d => HCQ.out d (q + v - q) (by omega)
          have x1 : (0 : Int) ≤ (p : Int) := by omega
          have x2 : (0 : Int) ≤ (q : Int) := by omega
          have x3 : (p : Int) ≤ (p : Int) + (v : Int) := by omega
          have x4 : (q : Int) ≤ (q : Int) + (v : Int) := by omega
          have x5 : (p : Int) + (v : Int) ≤ (ca : Int) := by omega
          have x6 : (q : Int) + (v : Int) ≤ (ca : Int) := by omega
          have x7 : IntKind.i64.wrap ((p : Int) + (v : Int)) = (p : Int) + (v : Int) := IntWalk.i64_in _ (by omega)
          have x8 : IntKind.i64.wrap ((q : Int) + (v : Int)) = (q : Int) + (v : Int) := IntWalk.i64_in _ (by omega)
          have x9 : (0 : Int) ≤ (p : Int) + (v : Int) := by omega
          have x10 : (0 : Int) ≤ (q : Int) + (v : Int) := by omega
          have x11 : ¬ ca = p := by omega
          have x12 : ¬ ca = q := by omega
          generalize strOfNums ((z.drop p).take v) = st at *
          have HFIN : Hid (∀ d, Below w4.heap.size w4 (w6.drewN d)) := fun d => C6.trans ⟨rfl, rfl, rfl, Nat.le_refl _, fun _ _ => rfl⟩
          have HPV : Hid (p + v < n → ∃ zx zy, 0 ≤ zx ∧ zx ≤ 255 ∧ 0 ≤ zy ∧ zy ≤ 255 ∧ zx < zy ∧ q + v < n ∧ w6.cell? ⟨xb, off + (p + v), none⟩ = some (.int .u8 zx) ∧ w6.cell? ⟨xb, off + (q + v), none⟩ = some (.int .u8 zy)) := fun h7 => by
            obtain ⟨h8, h9⟩ := HGT.out h7
            obtain ⟨b1, o1, k1, m1⟩ := sx.at_ (p + v) (by rw [hn.out]; exact h7)
            obtain ⟨b2, o2, k2, m2⟩ := sx.at_ (q + v) (by rw [hn.out]; exact h8)
            cases k1
            cases k2
            have q1 := sx.bd (p + v)
            have q2 := sx.bd (q + v)
            exact ⟨_, _, q1.1, q1.2, q2.1, q2.2, h9, h8, m1, m2⟩
          clear HGT HSTR HCP HCQ HEQ HSW HLR HAT HRA sx
          go_quiet (fail)
          clear y1 y2 y3 y4 y5 y6
          by_cases hpv : p + v < n
          · obtain ⟨zx, zy, q1, q2, q3, q4, q5, q6, m1, m2⟩ := HPV.out hpv
            have t1 : (p : Int) + (v : Int) < (n : Int) := by omega
            have t2 : (q : Int) + (v : Int) < (n : Int) := by omega
            have t3 : ¬ (q : Int) + (v : Int) = (n : Int) := by omega
            have t4 : ¬ zy ≤ zx := by omega
            have m3 : w6.cell? ⟨xb, off + ((p : Int) + (v : Int)).toNat, none⟩ = some (.int .u8 zx) := by rw [show ((p : Int) + (v : Int)).toNat = p + v by omega]; exact m1
            have m4 : w6.cell? ⟨xb, off + ((q : Int) + (v : Int)).toNat, none⟩ = some (.int .u8 zy) := by rw [show ((q : Int) + (v : Int)).toNat = q + v by omega]; exact m2
            have t5 : decide (zy ≤ zx) = false := decide_eq_false t4
            go_wp2_with fail
            go_quiet (fail)
            go_wp2_with fail
            go_roundw
            case rel => exact ⟨r + 1, by omega, by go_num, HFIN.out _⟩
            case measure => simp [intOf]; omega
          · have t1 : ¬ (p : Int) + (v : Int) < (n : Int) := by omega
            have t2 : (n : Int) ≤ (p : Int) + (v : Int) := by omega
            go_wp2_with fail
            have t3 : decide ((p : Int) + (v : Int) < (n : Int)) = false := decide_eq_false (by omega)
            have t4 : ¬ (p : Int) + (v : Int) < (n : Int) := by omega
            go_quiet (fail)
            go_wp2_with fail
            go_roundw
            case rel => exact ⟨r + 1, by omega, by go_num, by first | exact HFIN.out _ | exact (HFIN.out _).drew⟩
            case measure => simp [intOf]; omega
      · have h1i : ¬ (r : Int) < (n : Int) := by omega
        go_wp2_with (first
          | (go_at_call 9; refine (plives13 _).mono ?_; rintro e5 w5 ⟨rfl, B5⟩))
        go_ret
        exact ⟨rfl, HBW.out _ (hb.trans (B5.mono hb.size))⟩
end Go.Proofs.Ytlbledagpoimaaa
