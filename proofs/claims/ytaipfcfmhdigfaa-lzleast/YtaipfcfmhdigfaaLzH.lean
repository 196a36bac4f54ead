
import Derived.Test.YtaipfcfmhdigfaaLzC
import Derived.Test.YtaipfcfmhdigfaaLzR8
namespace Go.Proofs.Ytaipfcfmhdigfaa
open Go.RowKit
set_option linter.unusedVariables false
set_option linter.unusedSimpArgs false

/-! What tokens cost, as the law reckons it. -/
def tc7 (c : Pr7) (t : Tok7) : Int := if t.len = 0 then c.lit else mc7 c t.dist.toNat
theorem cost7_app (c : Pr7) : ∀ (l : List Tok7) (t : Tok7), cost7 c (l ++ [t]) = cost7 c l + tc7 c t
  | [], t => by simp [cost7, tc7]
  | x :: r, t => by rw [List.cons_append, cost7, cost7, cost7_app c r t]; omega
def GoodT (t : Tok7) : Prop := 0 ≤ t.len ∧ 0 ≤ t.dist ∧ t.dist ≤ 32768
def GoodP (c : Pr7) : Prop := (0 ≤ c.lit ∧ c.lit ≤ 1048576) ∧ (0 ≤ c.mat ∧ c.mat ≤ 1048576) ∧ (0 ≤ c.far ∧ c.far ≤ 1048576)
theorem mul_bd7 {f b : Int} (h1 : 0 ≤ f) (h2 : f ≤ 1048576) (h3 : 0 ≤ b) (h4 : b ≤ 16) : 0 ≤ f * b ∧ f * b ≤ 16777216 := by
  refine ⟨Int.mul_nonneg h1 h3, ?_⟩
  have : f * b ≤ 1048576 * 16 := Int.mul_le_mul h2 h4 h3 (by omega)
  omega
theorem bits_bd7 {d : Nat} (h : d ≤ 32768) : bits7 d ≤ 16 := bits7_le 16 d (by omega)
set_option maxRecDepth 100000 in
set_option maxHeartbeats 4000000 in
theorem costs7 (l : List Tok7) (a : Option Addr) (n cap : Nat) (c : Pr7) (hn : Hid (l.length = n)) (w : World) (hs : SegT w a l) (hl : n ≤ 1073741824) (hg : ∀ t ∈ l, GoodT t) (hc : GoodP c) :
    Calls Try.prog 33 #[.slice a n cap, price7 c] w fun e w' => e = .returned (.int .i64 (cost7 c l)) ∧ Below w.heap.size w w' := by
  obtain ⟨wA, hwA⟩ : ∃ wA, wA = w.alloc (.cells #[.int .i64 c.lit, .int .i64 c.mat, .int .i64 c.far] 64) := ⟨_, rfl⟩
  have bA : Below w.heap.size w wA := by rw [hwA]; exact below_box _ _
  have hB : wA.heap[w.heap.size]? = some (.cells #[.int .i64 c.lit, .int .i64 c.mat, .int .i64 c.far] 64 (0, 0)) := by rw [hwA]; exact heap_alloc_new w _
  have p0 : wA.cell? ⟨w.heap.size, 0, none⟩ = some (.int .i64 c.lit) := by simp [World.cell?, hB]
  have p1 : wA.cell? ⟨w.heap.size, 1, none⟩ = some (.int .i64 c.mat) := by simp [World.cell?, hB]
  have p2 : wA.cell? ⟨w.heap.size, 2, none⟩ = some (.int .i64 c.far) := by simp [World.cell?, hB]
  have hpl := World.block_lt_of_cell? wA _ p0
  have HWA : Hid (wA = w.alloc (.cells #[.int .i64 c.lit, .int .i64 c.mat, .int .i64 c.far] 64)) := hwA
  obtain ⟨zb, hzb⟩ : ∃ zb, zb = w.heap.size := ⟨_, rfl⟩
  have HZB : Hid (zb = w.heap.size) := hzb
  rw [← hzb] at p0 p1 p2 hpl
  have HPC : Hid (∀ W', Below wA.heap.size wA W' → W'.cell? ⟨zb, 0, none⟩ = some (.int .i64 c.lit) ∧ W'.cell? ⟨zb, 1, none⟩ = some (.int .i64 c.mat) ∧ W'.cell? ⟨zb, 2, none⟩ = some (.int .i64 c.far)) := fun W' hW => ⟨(hW.cell (p := ⟨zb, 0, none⟩) hpl).trans p0, (hW.cell (p := ⟨zb, 1, none⟩) hpl).trans p1, (hW.cell (p := ⟨zb, 2, none⟩) hpl).trans p2⟩
  have HS : Hid (SegT wA a l) := hs.old bA
  obtain ⟨⟨f1, f2⟩, ⟨f3, f4⟩, ⟨f5, f6⟩⟩ := hc
  have HG : Hid (∀ t ∈ l, GoodT t) := hg
  have HC0 : Hid (∀ i, i < n → cost7 c (l.take (i + 1)) = cost7 c (l.take i) + tc7 c (l.getD i tk0)) := fun i hi => by rw [takeT (by rw [hn.out]; exact hi), cost7_app]
  have HTC : Hid (∀ t, t.len = 0 → tc7 c t = c.lit) := fun t h => by unfold tc7; rw [if_pos h]
  have HTM : Hid (∀ t, ¬ t.len = 0 → tc7 c t = c.mat + c.far * (bits7 t.dist.toNat : Int)) := fun t h => by unfold tc7 mc7; rw [if_neg h]
  clear hwA hB p0 p1 p2 hpl hzb hs hg
  obtain ⟨lt, mt, fr⟩ := c
  unfold price7
  simp only at HWA HPC HTC HTM f1 f2 f3 f4 f5 f6
  go_enter Try.func33, Try.ntmps33
  go_wp2_with fail
  rw [← HWA.out, ← HZB.out]
  go_loopw [5, 11] (fun tn ti wr => ∃ (i : Nat) (x : Int), i ≤ n ∧ 0 ≤ x ∧ x ≤ (i : Int) * 17825792 ∧ ti = .int .i64 (i : Int) ∧ tn = .int .i64 x ∧ Hid (x = cost7 ⟨lt, mt, fr⟩ (l.take i)) ∧ Below wA.heap.size wA wr) (fun _ ti _ => n - (intOf ti).toNat)
  case atStart => exact ⟨0, 0, by omega, by omega, by omega, rfl, rfl, (show _ = _ by simp [cost7]), Below.refl _ _⟩
  case round =>
    obtain ⟨i, x, hi0, hx0, hx1, rfl, rfl, HX, BR⟩ := hrel
    by_cases hin : i < n
    · have hii : (i : Int) < (n : Int) := by omega
      have hil : i < l.length := by rw [hn.out]; exact hin
      obtain ⟨b, off, rfl, hT⟩ := ((show SegT wA a l from HS.out).old BR).at_ i hil
      have hg := HG.out _ (getD_memT hil)
      have HX2 : Hid (cost7 ⟨lt, mt, fr⟩ (l.take (i + 1)) = x + tc7 ⟨lt, mt, fr⟩ (l.getD i tk0)) := by show _ = _; rw [HC0.out i hin, HX.out]
      generalize l.getD i tk0 = t at *
      obtain ⟨wB, hwB⟩ : ∃ wB, wB = wr.alloc (.cells #[.int .u8 t.lit, .int .i64 t.len, .int .i64 t.dist] 56) := ⟨_, rfl⟩
      have bB : Below wr.heap.size wr wB := by rw [hwB]; exact below_box _ _
      have tB : TkAt wB wr.heap.size 0 t := by
        have h : wB.heap[wr.heap.size]? = some (.cells #[.int .u8 t.lit, .int .i64 t.len, .int .i64 t.dist] 56 (0, 0)) := by rw [hwB]; exact heap_alloc_new wr _
        refine ⟨?_, ?_, ?_⟩ <;> simp [World.cell?, h]
      have HWB : Hid (wB = wr.alloc (.cells #[.int .u8 t.lit, .int .i64 t.len, .int .i64 t.dist] 56)) := hwB
      have BB : Below wA.heap.size wA wB := BR.trans (bB.mono BR.size)
      obtain ⟨r0, r1, r2⟩ := HPC.out wr BR
      obtain ⟨q0, q1, q2⟩ := HPC.out wB BB
      obtain ⟨ob, hob⟩ : ∃ ob, ob = wr.heap.size := ⟨_, rfl⟩
      have HOB : Hid (ob = wr.heap.size) := hob
      rw [← hob] at tB
      obtain ⟨a0, a1, a2⟩ := tB
      obtain ⟨h0, h1, h2⟩ := hT
      clear hwB hob
      obtain ⟨z, ln, ds⟩ := t
      simp only at h0 h1 h2 a0 a1 a2 HWB
      have k0 := q0
      have k1 := q1
      rw [HWB.out] at k0 k1
      by_cases hz : ln = 0
      · have HX3 : Hid (x + lt = cost7 ⟨lt, mt, fr⟩ (l.take (i + 1))) := by show _ = _; rw [HX2.out, HTC.out _ hz]
        subst hz
        have hwx : IntKind.i64.wrap (x + lt) = x + lt := IntWalk.i64_in _ (by omega)
        go_wp2_with fail
        rw [← HWB.out]
        go_roundw
        case rel => exact ⟨i + 1, x + lt, by omega, by omega, by omega, by go_num, rfl, HX3, BB⟩
        case measure => simp [intOf]; omega
      · obtain ⟨D, hD⟩ := Int.eq_ofNat_of_zero_le hg.2.1
        simp only at hD
        subst hD
        have hD2 : D ≤ 32768 := by have := hg.2.2; simp only at this; omega
        have HX3 : Hid (cost7 ⟨lt, mt, fr⟩ (l.take (i + 1)) = x + (mt + fr * (bits7 D : Int))) := by show _ = _; rw [HX2.out, HTM.out _ hz]; rfl
        have hbD := bits_bd7 hD2
        have hmD := mul_bd7 f5 f6 (show (0 : Int) ≤ (bits7 D : Int) by omega) (by omega)
        have hwm : IntKind.i64.wrap (x + mt) = x + mt := IntWalk.i64_in _ (by omega)
        clear HX2
        go_wp2_with fail
        rw [← HWB.out, ← HOB.out]
        go_loopw [5, 8] (fun tn td wq => ∃ (d : Nat) (y : Int), d ≤ D ∧ td = .int .i64 (d : Int) ∧ tn = .int .i64 y ∧ Hid (y + fr * (bits7 d : Int) = x + mt + fr * (bits7 D : Int)) ∧ wq = wB) (fun _ td _ => (intOf td).toNat)
        case atStart => exact ⟨D, x + mt, by omega, rfl, rfl, (show _ = _ from rfl), rfl⟩
        case round =>
          obtain ⟨d, y, hd, rfl, rfl, HY, hwq⟩ := hrel
          subst hwq
          have hbd := bits_bd7 (show d ≤ 32768 by omega)
          have hmd := mul_bd7 f5 f6 (show (0 : Int) ≤ (bits7 d : Int) by omega) (by omega)
          have hy1 : -17825792 ≤ y := by have := HY.out; omega
          have hy2 : y ≤ x + 17825792 := by have := HY.out; omega
          by_cases hd0 : 0 < d
          · have hd0i : (0 : Int) < (d : Int) := by omega
            obtain ⟨d2, hd2⟩ : ∃ d2, d2 = d / 2 := ⟨_, rfl⟩
            have HY2 : Hid (y + fr + fr * (bits7 d2 : Int) = x + mt + fr * (bits7 D : Int)) := by
              have h9 := HY.out
              rw [bits7_pos hd0, ← hd2, Int.natCast_succ, Int.mul_add, Int.mul_one] at h9
              show _ = _
              omega
            have hq : (d : Int).tdiv 2 = (d2 : Int) := by rw [Int.tdiv_eq_ediv_of_nonneg (by omega)]; omega
            have hw2 : IntKind.i64.wrap (d2 : Int) = (d2 : Int) := IntWalk.i64_in _ (by omega)
            have hwy : IntKind.i64.wrap (y + fr) = y + fr := IntWalk.i64_in _ (by omega)
            have HD2 : Hid ((d : Int) / 2 = (d2 : Int)) := by show _ = _; omega
            have hdl : d2 < d := by omega
            clear HY hd2
            go_wp2_with fail
            go_roundw
            case rel => exact ⟨d2, y + fr, by omega, by first | rfl | rw [HD2.out], by first | rfl | trivial, HY2, by first | rfl | trivial⟩
            case measure => simp [intOf]; omega
          · obtain rfl : d = 0 := by omega
            have HE : Hid (y = cost7 ⟨lt, mt, fr⟩ (l.take (i + 1))) := by
              have h9 := HY.out
              rw [bits7_zero] at h9
              show _ = _
              rw [HX3.out]
              omega
            have hy3 : 0 ≤ y := by have := HE.out; have := HX3.out; omega
            clear HY
            go_wp2_with fail
            go_roundw
            case rel => exact ⟨i + 1, y, by omega, hy3, by omega, by go_num, rfl, HE, BB⟩
            case measure => simp [intOf]; omega
    · have hge : ¬ (i : Int) < (n : Int) := by omega
      have HE : Hid (x = cost7 ⟨lt, mt, fr⟩ l) := by show _ = _; rw [HX.out, List.take_of_length_le (by rw [hn.out]; omega)]
      clear HX
      go_wp2_with fail
      go_ret
      exact ⟨by rw [← HE.out]; rfl, bA.trans (BR.mono bA.size)⟩
end Go.Proofs.Ytaipfcfmhdigfaa
