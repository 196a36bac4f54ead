import Derived.Test.YtoeabfcnfofbiaaDoorPw
import Derived.Test.YtoeabfcnfofbiaaDoorPd
import Derived.WalkLawsBesides
import Derived.Test.YtoeabfcnfofbiaaDoorPb
import Derived.Lib.SmallJoins
import Derived.Test.YtoeabfcnfofbiaaDoorPa
import Derived.WalkKit
import Derived.ProofKit
import Derived.OpenShut
import Derived.SizedLaws
namespace Go.Proofs.YtoeabfcnfofbiaaDoor
open Go.RowKit
set_option linter.unusedVariables false

/-! The landed head: Cost. -/
def cb8 (Z : List Int) : List Rn8 → Nat
  | [] => 0
  | r :: R => (Z.getD r.sy.toNat 0).toNat + mor8 r.sy + cb8 Z R
theorem cb8_app (Z : List Int) (b : List Rn8) : ∀ a, cb8 Z (a ++ b) = cb8 Z a + cb8 Z b
  | [] => by simp [cb8]
  | r :: a => by simp only [List.cons_append, cb8, cb8_app Z b a]; omega
def cst8 (lit dist : List Int) : Nat := 14 + 3 * tol8 (sz8 lit dist) 19 + cb8 (sz8 lit dist) (rs8 lit dist)
def CsQ (w : World) (lit dist : List Int) (e : Ending) (w' : World) : Prop := e = .returned (.tuple (if tld8 errC lit dist then #[.int .i64 (cst8 lit dist : Int), .int .i64 0] else #[.int .i64 0, .int .i64 80])) ∧ Below w.heap.size w w'
theorem own_shape1 {w : World} {base n : Nat} {e : TypeId} {a : Option Addr} {cap : Nat} {xs : List Value} (h : w.ownsRow base e 1 (.slice a n cap) n xs) (hn : 0 < n) : ∃ g, a = some ⟨g, 0, none⟩ ∧ n ≤ cap ∧ base ≤ g ∧ g < w.heap.size := by
  obtain ⟨g, cp, hv, h1, h2, h3⟩ := own_shape h hn
  simp only [Value.slice.injEq] at hv
  obtain ⟨rfl, _, rfl⟩ := hv
  exact ⟨g, rfl, h1, h2, h3⟩
set_option maxRecDepth 100000 in
set_option maxHeartbeats 4000000 in
theorem pcost8 (lit dist : List Int) (a b : Option Addr) (n m ca cb : Nat) (hn : Hid (lit.length = n)) (hm : Hid (dist.length = m)) (w : World) (hx : SegZ w a lit) (hy : SegZ w b dist) (hca : n ≤ ca) (hcb : m ≤ cb) (T : TabS w) (O : TabO w) :
    Calls Tryd.prog 9 #[.slice a n ca, .slice b m cb] w (CsQ w lit dist) := by
  have CP := pplan8 lit dist a b n m ca cb hn hm w hx hy hca hcb T O
  have HTS : Hid (TabS w) := T
  clear hx hy T O
  by_cases ht : tld8 errC lit dist
  · have hZ := sz8_ok ht
    have hR := runs8_ok (tld8_ok ht).2.2.1
    have hR3 : (rs8 lit dist).length ≤ 320 := by have := (tld8_ok ht).2.2.1.1; unfold rs8; omega
    have hto := tol8_bd (sz8 lit dist) 19 (by omega)
    have HCS : Hid (cst8 lit dist = 14 + 3 * tol8 (sz8 lit dist) 19 + cb8 (sz8 lit dist) (rs8 lit dist)) := rfl
    have HQ : Hid (∀ t w', t = cst8 lit dist → Below w.heap.size w w' → CsQ w lit dist (.returned (.tuple #[.int .i64 (t : Int), .int .i64 0])) w') := fun t w' ht2 hb => by
      subst ht2
      unfold CsQ
      rw [if_pos ht]
      exact ⟨rfl, hb⟩
    go_enter Tryd.func9, Tryd.ntmps9
    go_wp2_with fail
    refine CP.mono ?_
    rintro e w1 ⟨hyes, _, B1⟩
    obtain ⟨za, zc, ra, rc, rfl, OZ, OR⟩ := hyes ht
    have HOKR : Hid (∀ r ∈ rs8 lit dist, ok8 r) := fun r hr => hR.1 r hr
    clear hyes ht CP hR
    generalize (sht8 lit 257).length = nA at *
    generalize (sht8 dist 1).length = nB at *
    obtain ⟨Z, hZe⟩ : ∃ Z, Z = sz8 lit dist := ⟨_, rfl⟩
    obtain ⟨R, hRe⟩ : ∃ R, R = rs8 lit dist := ⟨_, rfl⟩
    rw [← hZe, ← hRe] at HCS
    rw [← hZe] at hZ hto OZ ⊢
    rw [← hRe] at hZ hR3 OR HOKR ⊢
    clear hZe hRe
    generalize tol8 Z 19 = tq at *
    obtain ⟨nR, hnR⟩ : ∃ nR, nR = R.length := ⟨_, rfl⟩
    have HNR : Hid (R.length = nR) := hnR.symm
    rw [← hnR] at hR3 OR ⊢
    clear hnR
    obtain ⟨zg, rfl, hzc, hzg, hzl⟩ := own_shape1 OZ (by omega)
    have SZ1 : SegZ w1 (some ⟨zg, 0, none⟩) Z := own_segZ OZ (fun z hz => by
      obtain ⟨i, hi, rfl⟩ := List.mem_iff_getElem.1 hz
      have := hZ.2.2.1 i (by rw [hZ.2.1] at hi; exact hi)
      simp only [List.getD, List.getElem?_eq_getElem hi, Option.getD_some] at this
      omega)
    have SR1 : SegN w1 ra R := own_segN OR HNR.out
    obtain ⟨W, hW⟩ : ∃ W, W = w1.alloc (.cells #[.int .i64 (nA : Int), .int .i64 (nB : Int), .slice (some ⟨zg, 0, none⟩) 19 zc, .int .i64 (tq : Int), .slice ra nR rc] 98) := ⟨_, rfl⟩
    have HWE : Hid (w1.alloc (.cells #[.int .i64 (nA : Int), .int .i64 (nB : Int), .slice (some ⟨zg, 0, none⟩) 19 zc, .int .i64 (tq : Int), .slice ra nR rc] 98) = W) := hW.symm
    have BW : Below w1.heap.size w1 W := by rw [hW]; exact below_box8 _ _
    have hPW : W.heap[w1.heap.size]? = some (.cells #[.int .i64 (nA : Int), .int .i64 (nB : Int), .slice (some ⟨zg, 0, none⟩) 19 zc, .int .i64 (tq : Int), .slice ra nR rc] 98 (0, 0)) := by rw [hW]; exact heap_alloc_new _ _
    have hlW : w1.heap.size < W.heap.size := (Array.getElem?_eq_some_iff.1 hPW).1
    have p2 : W.cell? ⟨w1.heap.size, 2, none⟩ = some (.slice (some ⟨zg, 0, none⟩) 19 zc) := (cell_of_row W _ 2 _ _ _ hPW).trans rfl
    have SZW := SZ1.old BW
    have SRW := SR1.old BW
    have TW : TabS W := SegZ.old (SegZ.old HTS.out B1) BW
    have xW : Below w.heap.size w W := B1.trans (BW.mono B1.size)
    clear hW BW OZ OR SZ1 SR1 hPW
    go_wp2_with fail
    rw [HWE.out]
    clear HWE
    go_loopw [8, 27] (fun tt ti wr => ∃ (i t : Nat), i ≤ nR ∧ ti = .int .i64 (i : Int) ∧ tt = .int .i64 (t : Int) ∧ Hid (t = 14 + 3 * tq + cb8 Z (R.take i)) ∧ t ≤ 71 + 14 * i ∧ Below W.heap.size W wr) (fun _ ti _ => nR - (intOf ti).toNat)
    case atStart => exact ⟨0, 14 + 3 * tq, by omega, rfl, by go_num, (by show _ = _; simp [cb8]), by omega, Below.refl _ _⟩
    case round =>
      obtain ⟨i, t, hin, rfl, rfl, HTT, htb, BR⟩ := hrel
      by_cases hlt : i < nR
      · have hlti : (i : Int) < (nR : Int) := by omega
        have hil : i < R.length := by rw [HNR.out]; exact hlt
        obtain ⟨rb, off, rfl, cs, cc⟩ := (SRW.old BR).at_ i hil
        have HTK : Hid (R.take (i + 1) = R.take i ++ [R.getD i ⟨0, 0⟩]) := take_snocN hil
        have hok := HOKR.out (R.getD i ⟨0, 0⟩) (by simp [List.getD, hil])
        generalize R.getD i ⟨0, 0⟩ = r at *
        obtain ⟨sy, ct⟩ := r
        simp only [ok8] at cs cc hok
        obtain ⟨s, rfl⟩ : ∃ s : Nat, sy = (s : Int) := ⟨sy.toNat, by omega⟩
        have hs19 : (s : Int) < 19 := by omega
        obtain ⟨_, _, hZb, _⟩ := hZ
        have hzb := hZb s (by omega)
        obtain ⟨zg', off', ez, cz⟩ := (SZW.old BR).at_ s (by omega)
        cases ez
        rw [Nat.zero_add] at cz
        obtain ⟨_, _, c2⟩ := TabS.at8 (SegZ.old TW BR) s (by omega)
        have hmb := mor8_in (s : Int)
        have hTn : Hid (14 + 3 * tq + cb8 Z (R.take (i + 1)) = t + ((Z.getD s 0).toNat + mor8 (s : Int))) := by
          show _ = _
          rw [HTK.out, cb8_app, HTT.out]
          simp only [cb8, Int.toNat_natCast]
          omega
        generalize Z.getD s 0 = z at *
        generalize mor8 (s : Int) = mo at *
        obtain ⟨zn, rfl⟩ : ∃ zn : Nat, z = (zn : Int) := ⟨z.toNat, by omega⟩
        rw [Int.toNat_natCast] at hTn
        have pr := (BR.cell (p := ⟨w1.heap.size, 2, none⟩) hlW).trans p2
        have hlr : w1.heap.size < wr.heap.size := by have := BR.size; omega
        have h0r : 0 < wr.heap.size := by omega
        have hzr : zg < wr.heap.size := by omega
        have hBn := BR.alloc BR.size (.cells #[.int .i64 (s : Int), .int .i64 ct] 38)
        clear SRW SZW TW HTT HTK
        go_wp2_with fail
        go_region
        go_wp2_with fail
        go_roundw
        case rel => exact ⟨i + 1, t + (zn + mo), by omega, by go_num, by go_num, hTn.out.symm, by omega, hBn.drew⟩
        case measure => simp [intOf]; omega
      · have hge : ¬ (i : Int) < (nR : Int) := by omega
        have hTA : R.take i = R := List.take_of_length_le (by rw [HNR.out]; omega)
        rw [hTA] at HTT
        have HF := HQ.out t wr (by rw [HTT.out, HCS.out]) (xW.trans (BR.mono xW.size))
        clear HQ HTT HCS
        go_wp2_with fail
        go_ret2
        exact HF
  · have HF : Hid (∀ w', Below w.heap.size w w' → CsQ w lit dist (.returned (.tuple #[.int .i64 0, .int .i64 80])) w') := fun w' hb => by
      unfold CsQ
      rw [if_neg ht]
      exact ⟨rfl, hb⟩
    go_enter Tryd.func9, Tryd.ntmps9
    go_wp2_with fail
    refine CP.mono ?_
    rintro e w1 ⟨_, hno, B1⟩
    obtain rfl := hno ht
    clear CP hno ht
    go_wp2_with fail
    go_ret2
    exact HF.out _ (B1.trans ((below_box8 w1 _).mono B1.size))
end Go.Proofs.YtoeabfcnfofbiaaDoor

namespace Go.Proofs.YtoeabfcnfofbiaaDoor
open Go.RowKit
set_option linter.unusedVariables false

def lentZ (zs : List Int) : List Int := zs ++ [71, 72, 73, 74]
theorem lentZ_bd {zs : List Int} (h : ∀ z ∈ zs, -9223372036854775808 ≤ z ∧ z ≤ 9223372036854775807) : ∀ z ∈ lentZ zs, -9223372036854775808 ≤ z ∧ z ≤ 9223372036854775807 := by
  intro z hz
  unfold lentZ at hz
  rw [List.mem_append] at hz
  rcases hz with hz | hz
  · exact h z hz
  · simp at hz; omega
theorem seg_four (w : World) : SegZ (w.alloc (.cells #[.int .i64 71, .int .i64 72, .int .i64 73, .int .i64 74] 3)) (some ⟨w.heap.size, 0, none⟩) [71, 72, 73, 74] := by
  refine ⟨fun i hi => ⟨w.heap.size, 0, rfl, ?_⟩, getD_bdz (by intro z hz; simp at hz; omega)⟩
  simp only [List.length_cons, List.length_nil] at hi
  match i, hi with
  | 0, _ => simp
  | 1, _ => simp
  | 2, _ => simp
  | 3, _ => simp

end Go.Proofs.YtoeabfcnfofbiaaDoor

namespace Go.Proofs.YtoeabfcnfofbiaaDoor
open Go.RowKit
set_option linter.unusedVariables false

/-! Layer 8's helpers: Same, lend, alike. -/
theorem below_drewN8 {B : Nat} {w w' : World} (h : Below B w w') (n : Nat) : Below B w (w'.drewN n) := ⟨h.os, h.tape, h.output, h.size, h.block⟩
set_option maxRecDepth 100000 in
set_option maxHeartbeats 400000 in
theorem same8 (a b : Option Addr) (xs ys : List Int) (ca cb : Nat) (w : World) (hx : SegZ w a xs) (hy : SegZ w b ys) (hl : xs.length ≤ 9223372036854775807) (hl2 : ys.length ≤ 9223372036854775807) :
    Calls Tryd.prog 16 #[.slice a xs.length ca, .slice b ys.length cb] w fun e w' => e = .returned (.bool (xs == ys)) ∧ Below w.heap.size w w' := by
  go_enter Tryd.func16, Tryd.ntmps16
  go_wp2
  go_loopw [5] (fun ti wr => ∃ k : Nat, k ≤ xs.length ∧ k ≤ ys.length ∧ ti = .int .i64 k ∧ Hid (xs.take k = ys.take k) ∧ Below w.heap.size w wr) (fun ti _ => xs.length - (intOf ti).toNat)
  case atStart => exact ⟨0, Nat.zero_le _, Nat.zero_le _, rfl, (by simp : _ = _), Below.refl _ _⟩
  case round =>
    obtain ⟨k, hk, hk2, rfl, HE, hb⟩ := hrel
    have hx := hx.old hb
    have hy := hy.old hb
    by_cases h1 : k < xs.length
    · have h1i : (k : Int) < (xs.length : Int) := by omega
      by_cases h2 : k < ys.length
      · have h2i : (k : Int) < (ys.length : Int) := by omega
        obtain ⟨b1, o1, rfl, c1⟩ := hx.at_ k h1
        obtain ⟨b2, o2, rfl, c2⟩ := hy.at_ k h2
        have b1 := hx.bd k
        have b2 := hy.bd k
        have HT : Hid (xs.take (k + 1) = xs.take k ++ [xs.getD k 0] ∧ ys.take (k + 1) = ys.take k ++ [ys.getD k 0]) := ⟨take_snocZ h1, take_snocZ h2⟩
        have HN : Hid (xs.getD k 0 ≠ ys.getD k 0 → xs ≠ ys) := by
          intro hne e; rw [e] at hne; exact hne rfl
        generalize xs.getD k 0 = z1 at *
        generalize ys.getD k 0 = z2 at *
        by_cases hz : z1 = z2
        · subst hz
          go_wp2
          go_region
          go_wp2
          go_roundw
          case rel => exact ⟨k + 1, by omega, by omega, by go_num, (by rw [HT.out.1, HT.out.2, HE.out] : _ = _), hb.drew⟩
          case measure => simp [intOf]; omega
        · go_wp2
          go_region
          go_wp2
          go_ret
          exact ⟨by have := HN.out hz; simp [this], hb.drew⟩
      · have h2i : ¬ (k : Int) < (ys.length : Int) := by omega
        obtain rfl : k = ys.length := by omega
        have hlen : ¬ xs.length = ys.length := by omega
        have hne : xs ≠ ys := by intro e; rw [e] at hlen; exact hlen rfl
        go_wp2
        go_ret
        refine ⟨?_, hb⟩
        have : (xs == ys) = false := by simp [hne]
        rw [this]
        have : ¬ (xs.length : Int) = (ys.length : Int) := by omega
        simp [this]
    · have h1i : ¬ (k : Int) < (xs.length : Int) := by omega
      obtain rfl : k = xs.length := by omega
      go_wp2
      go_ret
      refine ⟨?_, hb⟩
      by_cases hlen : xs.length = ys.length
      · have : xs = ys := take_all_eq hlen (.inl rfl) HE.out
        subst this
        simp
      · have hne : xs ≠ ys := by intro e; rw [e] at hlen; exact hlen rfl
        have : (xs == ys) = false := by simp [hne]
        rw [this]
        have : ¬ (xs.length : Int) = (ys.length : Int) := by omega
        simp [this]
set_option maxRecDepth 100000 in
set_option maxHeartbeats 400000 in
theorem lend8 (a : Option Addr) (zs : List Int) (cap : Nat) (w : World) (hs : SegZ w a zs) (hnil : a = none → cap = 0) (hl : zs.length * 8 ≤ 140737488351232) :
    Calls Tryd.prog 13 #[.slice a zs.length cap] w fun e w' => ∃ g cap', e = .returned (.slice (some ⟨g, 0, none⟩) (lentZ zs).length cap') ∧
      w'.ownsRow w.heap.size 3 1 (.slice (some ⟨g, 0, none⟩) (lentZ zs).length cap') (lentZ zs).length ((lentZ zs).map (Value.int .i64)) ∧ (lentZ zs).length ≤ cap' ∧ Below w.heap.size w w' := by
  obtain ⟨i0, hi, hz0, hz1, hz2⟩ := info_parts info_int
  have HL : Hid (zs.length + 4 = (lentZ zs).length) := by show _ = _; simp [lentZ]
  go_enter Tryd.func13, Tryd.ntmps13
  go_wp2_with (first
    | (at_builtin; refine wpList_appZ rfl (.const (.slice none 0 0)) (.tmp 3) 22 rfl w.heap.size 3 i0 (.int .i64 0) 8 Tryd.underlying22 hi hz0 hz1 hz2 rfl (World.ownsRow_nil _ _ _ _) hs hnil rfl rfl (by omega) (by omega) (Nat.le_refl _) ?_; intro a1 c1 w1 hown1 hg1 hf1 hn1; have hb1 := below_own (World.ownsRow_nil w w.heap.size 3 1) hg1 (Nat.le_refl _); clear hf1 hn1 hg1; rw [Nat.zero_add, List.nil_append] at hown1)
    | (at_builtin; refine wpList_appZ rfl (.tmp 4) (.tmp 5) 22 rfl w.heap.size 3 i0 (.int .i64 0) 8 Tryd.underlying22 hi hz0 hz1 hz2 rfl (hown1.alloc _) (seg_four w1) (by intro h; cases h) rfl rfl (by simp; omega) (by simp; omega) (by have := hb1.size; simp; omega) ?_; intro a2 c2 w2 hown2 hg2 hf2 hn2))
  go_ret
  clear hf2 hn2
  have hb0 := hb1.trans ((Below.refl w.heap.size w1).alloc hb1.size (.cells #[.int .i64 71, .int .i64 72, .int .i64 73, .int .i64 74] 3))
  have hb2 := hb0.trans (below_own (hown1.alloc _) hg2 (by have := hb0.size; simpa using this))
  have el : zs.length + ([71, 72, 73, 74] : List Int).length = (lentZ zs).length := by simp [lentZ]
  have ev : zs.map (Value.int .i64) ++ ([71, 72, 73, 74] : List Int).map (Value.int .i64) = (lentZ zs).map (Value.int .i64) := by simp [lentZ]
  rw [el, ev] at hown2
  obtain ⟨g, cap', hv, hc2, hg, hgs⟩ := own_shape hown2 (by have := HL.out; omega)
  refine ⟨g, cap', ?_, by rw [← hv]; exact hown2, hc2, hb2⟩
  rw [← hv, ← el]
  rfl
theorem snocR {R : List Rn8} {x : Nat} (h : x < R.length) : R.take (x + 1) = R.take x ++ [R.getD x ⟨0, 0⟩] := by
  rw [List.take_succ_eq_append_getElem h]; simp [List.getD, h]
def AlQ (xs ys : List Rn8) (w : World) (e : Ending) (w' : World) : Prop := ∃ r, e = .returned (.bool r) ∧ (r = true ↔ xs = ys) ∧ Below w.heap.size w w'
set_option maxRecDepth 100000 in
set_option maxHeartbeats 4000000 in
theorem alike8 (a b : Option Addr) (xs ys : List Rn8) (n m ca cb : Nat) (hn : Hid (xs.length = n)) (hm : Hid (ys.length = m)) (w : World) (hx : SegN w a xs) (hy : SegN w b ys) (hl : n ≤ 1152921504606846976) (hl2 : m ≤ 1152921504606846976) :
    Calls Tryd.prog 15 #[.slice a n ca, .slice b m cb] w (AlQ xs ys w) := by
  have HX : Hid (SegN w a xs) := hx
  have HY : Hid (SegN w b ys) := hy
  clear hx hy
  go_enter Tryd.func15, Tryd.ntmps15
  go_wp2
  go_loopw [5] (fun ti wr => ∃ k : Nat, k ≤ n ∧ k ≤ m ∧ ti = .int .i64 (k : Int) ∧ Hid (xs.take k = ys.take k) ∧ Below w.heap.size w wr) (fun ti _ => n - (intOf ti).toNat)
  case atStart => exact ⟨0, Nat.zero_le _, Nat.zero_le _, rfl, (by simp : _ = _), Below.refl _ _⟩
  case round =>
    obtain ⟨k, hk, hk2, rfl, HE, hb⟩ := hrel
    by_cases h1 : k < n
    · have h1i : (k : Int) < (n : Int) := by omega
      by_cases h2 : k < m
      · have h2i : (k : Int) < (m : Int) := by omega
        have h1l : k < xs.length := by rw [hn.out]; exact h1
        have h2l : k < ys.length := by rw [hm.out]; exact h2
        obtain ⟨b1, o1, rfl, c1, e1⟩ := ((show SegN w a xs from HX.out).old hb).at_ k h1l
        obtain ⟨b2, o2, rfl, c2, e2⟩ := ((show SegN w b ys from HY.out).old hb).at_ k h2l
        have HT : Hid (xs.take (k + 1) = xs.take k ++ [xs.getD k ⟨0, 0⟩] ∧ ys.take (k + 1) = ys.take k ++ [ys.getD k ⟨0, 0⟩]) := ⟨snocR h1l, snocR h2l⟩
        have HN : Hid (xs.getD k ⟨0, 0⟩ ≠ ys.getD k ⟨0, 0⟩ → xs ≠ ys) := by
          intro hne e; rw [e] at hne; exact hne rfl
        generalize xs.getD k ⟨0, 0⟩ = r1 at *
        generalize ys.getD k ⟨0, 0⟩ = r2 at *
        obtain ⟨s1, t1⟩ := r1
        obtain ⟨s2, t2⟩ := r2
        simp only at c1 e1 c2 e2
        by_cases hz : s1 = s2
        · subst hz
          by_cases hy : t1 = t2
          · subst hy
            go_wp2_with fail
            go_quiet (fail)
            go_wp2_with fail
            go_roundw
            case rel => exact ⟨k + 1, by omega, by omega, by go_num, (by rw [HT.out.1, HT.out.2, HE.out] : _ = _), below_drewN8 hb _⟩
            case measure => simp [intOf]; omega
          · have hyb : (t1 == t2) = false := by simp [hy]
            have HF : Hid (xs ≠ ys) := HN.out (by intro e; cases e; exact hy rfl)
            go_wp2_with fail
            go_quiet (fail)
            go_wp2_with fail
            go_ret
            exact ⟨false, rfl, by simp [HF.out], below_drewN8 hb _⟩
        · have hzb : (s1 == s2) = false := by simp [hz]
          have HF : Hid (xs ≠ ys) := HN.out (by intro e; cases e; exact hz rfl)
          go_wp2_with fail
          go_quiet (fail)
          go_wp2_with fail
          go_ret
          exact ⟨false, rfl, by simp [HF.out], below_drewN8 hb _⟩
      · have h2i : ¬ (k : Int) < (m : Int) := by omega
        obtain rfl : k = m := by omega
        have hnb : ((n : Int) == (k : Int)) = false := by simp; omega
        have HF : Hid (xs ≠ ys) := by
          intro e
          have h3 := hn.out
          rw [e, hm.out] at h3
          omega
        go_wp2_with fail
        go_ret
        exact ⟨_, rfl, by simp [HF.out], hb⟩
    · have h1i : ¬ (k : Int) < (n : Int) := by omega
      obtain rfl : k = n := by omega
      have HI : Hid ((k : Int) = (m : Int) ↔ xs = ys) := by
        constructor
        · intro e
          have e' : k = m := by omega
          have h3 := HE.out
          rw [List.take_of_length_le (by rw [hn.out]; omega), List.take_of_length_le (by rw [hm.out]; omega)] at h3
          exact h3
        · intro e
          have h3 := hn.out
          rw [e, hm.out] at h3
          omega
      go_wp2_with fail
      go_ret
      exact ⟨_, rfl, by simpa using HI.out, hb⟩
end Go.Proofs.YtoeabfcnfofbiaaDoor

namespace Go.Proofs.YtoeabfcnfofbiaaDoor
open Go.RowKit
set_option linter.unusedVariables false

/-! Layer 8's helpers: num, awake; a row of runs that is written over. -/
set_option maxRecDepth 100000 in
theorem num8 (e : Int) (w : World) : Calls Tryd.prog 10 #[.int .i64 e] w fun r w' => r = .returned (.int .i64 e) ∧ w' = w := by
  go_enter Tryd.func10, Tryd.ntmps10
  go_wp2
  go_ret
  exact ⟨rfl, rfl⟩
theorem runs_5555 : rns8 [5, 5, 5, 5] = [⟨5, 1⟩, ⟨16, 3⟩] ∧ rer8 [5, 5, 5, 5] = 0 := by
  have h : may8 [5, 5, 5, 5] := by decide
  unfold rns8 rer8
  rw [if_pos h, if_pos h]
  refine ⟨?_, rfl⟩
  simp [runs8, rung8, row8, pre8, rep8, sum8]
theorem seg_lit48 (w : World) (x0 x1 x2 x3 : Int) (h : ∀ z ∈ [x0, x1, x2, x3], -9223372036854775808 ≤ z ∧ z ≤ 9223372036854775807) : SegZ (w.alloc (.cells #[.int .i64 x0, .int .i64 x1, .int .i64 x2, .int .i64 x3] 3)) (some ⟨w.heap.size, 0, none⟩) [x0, x1, x2, x3] := by
  refine ⟨fun i hi => ⟨w.heap.size, 0, rfl, ?_⟩, getD_bdz h⟩
  simp only [List.length_cons, List.length_nil] at hi
  match i, hi with
  | 0, _ => simp
  | 1, _ => simp
  | 2, _ => simp
  | 3, _ => simp
set_option maxRecDepth 100000 in
set_option maxHeartbeats 1000000 in
theorem awake8 (w : World) (T : TabS w) : Calls Tryd.prog 11 #[] w fun e w' => e = .returned (.bool true) ∧ Below w.heap.size w w' := by
  have s1 := seg_lit48 w 5 5 5 5 (by intro z hz; simp at hz; omega)
  have C1 := pruns8 [5, 5, 5, 5] (some ⟨w.heap.size, 0, none⟩) 4 4 rfl (by omega) _ s1 (T.alloc _)
  unfold RsQ at C1
  rw [runs_5555.1, runs_5555.2] at C1
  go_enter Tryd.func11, Tryd.ntmps11
  go_wp2_with fail
  refine C1.mono ?_
  rintro e w1 ⟨b, c, rfl, O1, B1⟩
  have B0 : Below w.heap.size w w1 := ((Below.refl _ _).alloc (Nat.le_refl _) _).trans (B1.mono (by simp))
  have s2 := own_segN O1 rfl
  obtain ⟨b0, off, rfl, c0, c1⟩ := s2.at_ 0 (by simp)
  obtain ⟨b1, off1, e, c2, c3⟩ := s2.at_ 1 (by simp)
  cases e
  simp only [Nat.zero_mul, Nat.add_zero, List.getD_cons_zero, List.getD_cons_succ, Nat.one_mul] at c0 c1 c2 c3
  clear s2 O1 C1 s1 B1
  go_wp2_with fail
  go_ret
  exact ⟨rfl, B0⟩
/-- A store within a row of the call's own: it is still the call's own. -/
theorem own_set2 {w : World} {base n c g : Nat} {e : TypeId} {xs : List Value} (h : w.ownsRow base e 2 (.slice (some ⟨g, 0, none⟩) n c) n xs) (i : Nat) (v : Value) : ∃ xs', (w.setCell ⟨g, i, none⟩ v).ownsRow base e 2 (.slice (some ⟨g, 0, none⟩) n c) n xs' := by
  rcases h.2 with ⟨h1, _⟩ | ⟨g', cap, cur, h1, h2, h3, h4, h5, h6, h7⟩
  · simp at h1
  · simp only [Value.slice.injEq, Option.some.injEq, Addr.mk.injEq] at h1
    obtain ⟨⟨rfl, _⟩, _, rfl⟩ := h1
    have hb := Go.Joins.block_setCell h3 (i := i) v
    refine ⟨(cur.setIfInBounds i v).toList.take (n * 2), ?_, .inr ⟨g, c, _, rfl, h2, hb, h4, h5, by simpa using h6, rfl⟩⟩
    have : n * 2 ≤ cur.size := by rw [h6]; exact Nat.mul_le_mul_right 2 h4
    simp [List.length_take]
    omega
theorem own_cell2 {w : World} {base n c g : Nat} {e : TypeId} {xs : List Value} (h : w.ownsRow base e 2 (.slice (some ⟨g, 0, none⟩) n c) n xs) (j : Nat) (hj : j < n * 2) : (∃ v, w.cell? ⟨g, j, none⟩ = some v) ∧ w.frozen? ⟨g, j, none⟩ = false := by
  rcases h.2 with ⟨h1, _⟩ | ⟨g', cap, cur, h1, h2, h3, h4, h5, h6, h7⟩
  · simp at h1
  · simp only [Value.slice.injEq, Option.some.injEq, Addr.mk.injEq] at h1
    obtain ⟨⟨rfl, _⟩, _, rfl⟩ := h1
    have : j < cur.size := by rw [h6]; have := Nat.mul_le_mul_right 2 h4; omega
    exact ⟨⟨cur[j], by simp [World.cell?, h3, this]⟩, by simp [World.frozen?, h3]⟩
theorem own_shape2 {w : World} {base n : Nat} {e : TypeId} {v : Value} {xs : List Value} (h : w.ownsRow base e 2 v n xs) (hn : 0 < n) : ∃ g cap, v = .slice (some ⟨g, 0, none⟩) n cap ∧ n ≤ cap ∧ base ≤ g ∧ g < w.heap.size := by
  rcases h.2 with ⟨_, h0⟩ | ⟨g, cap, cur, h1, h2, h3, h4, _⟩
  · omega
  · exact ⟨g, cap, h1, h4, h2, (Array.getElem?_eq_some_iff.1 h3).1⟩
/-- A run behind a row of the call's own, whatever it holds. -/
theorem wpList_appNx {P : Program} {ops : Array Oper} {rest : List Oper} {o : Oper} {a : Act} {Q : Exit → Act → World → Prop} (hgd : o.guard = none) (s x : Operand) (t : TypeId)
    (ho : o.op = .call { callee := .builtin .append, args := #[s, x], argTypes := #[t, t] })
    (base : Nat) (e : TypeId) (i : TypeInfo) (z : Value) (bytes : Nat) (ht : P.underlying t = some (.slice e)) (hi : P.info? e = some i) (hz : i.zero = some z)
    (hsize : i.size = 2) (hby : i.bytes = bytes) (hzs : z.cells.size = 2) (w0 : World) (y : Rn8)
    {ra : Option Addr} {n rc : Nat} {xs : List Value} (hown : w0.ownsRow base e 2 (.slice ra n rc) n xs) (hs : a.eval s = .slice ra n rc) (hx : a.eval x = .slice (some ⟨w0.heap.size, 0, none⟩) 1 1)
    (h63 : n + 1 ≤ 140737488355328) (hbytes : (n + 1) * bytes ≤ 140737488355328) (hbase : base ≤ w0.heap.size)
    (h : ∀ (g : Nat) (c : Nat) (w' : World) (xs' : List Value), w'.ownsRow base e 2 (.slice (some ⟨g, 0, none⟩) (n + 1) c) (n + 1) xs' → Kp (fun k => (Value.slice ra n rc).ownBlock = some k) w0 w' → Fresh w0 (.slice ra n rc) (.slice (some ⟨g, 0, none⟩) (n + 1) c) → wpList P ops Q rest (a.put o.dst (.slice (some ⟨g, 0, none⟩) (n + 1) c)) w') : wpList P ops Q (o :: rest) a (w0.alloc (.cells #[.int .i64 y.sy, .int .i64 y.ct] e)) := by
  have hnew : ∀ j u, ([.int .i64 y.sy, .int .i64 y.ct] : List Value)[j]? = some u → (w0.alloc (.cells #[.int .i64 y.sy, .int .i64 y.ct] e)).cell? ((⟨w0.heap.size, 0, none⟩ : Addr).add j) = some u := by
    intro j u hu
    have hadd : (⟨w0.heap.size, 0, none⟩ : Addr).add j = ⟨w0.heap.size, j, none⟩ := by unfold Addr.add; split <;> simp_all
    rw [hadd]
    have hh := heap_alloc_new w0 (.cells #[.int .i64 y.sy, .int .i64 y.ct] e)
    simp only [World.cell?, hh]
    simpa using hu
  refine wpList_append_lies _ hgd s x t ho base e i z 2 bytes ht hi hz hsize hby hzs (by decide) _ n xs hs (hown.alloc _) ⟨w0.heap.size, 0, none⟩ 1 1 [.int .i64 y.sy, .int .i64 y.ct] hx rfl hnew (by intro u hu; simp only [List.mem_cons, List.not_mem_nil, or_false] at hu; rcases hu with rfl | rfl <;> rfl) (by decide) (by unfold maxLen; omega) hbytes (by simp; omega) (w0.heap.size + 1) (by simp) ?_
  intro g c w' h1 h2 h3 _
  refine h g c w' _ h1 ?_ ?_
  · exact (Kp.alloc w0 _).trans (Kp.grown (S := fun k => (Value.slice ra n rc).ownBlock = some k) h2 (fun i e => e)) (fun _ _ e => e)
  · intro k hk
    have hk' : k = g := by simpa [Value.ownBlock] using hk.symm
    subst hk'
    rcases h3 with h3 | h3
    · exact .inl h3
    · exact .inr (by omega)
end Go.Proofs.YtoeabfcnfofbiaaDoor

namespace Go.Proofs.YtoeabfcnfofbiaaDoor
open Go.RowKit
set_option linter.unusedVariables false

/-! HeadNames: the chapter's fourth example. -/
def nmL : List Int := 1 :: (List.replicate 255 0 ++ [1])
def nmF : List Int := [1, 2, 0, 0, 0, 0, 0, 0, 0, 0, 0, 0, 0, 0, 0, 0, 0, 0, 2]
theorem nm_tld : tld8 errC nmL [] := by decide +kernel
theorem nm_runs : rs8 nmL [] = [⟨1, 1⟩, ⟨18, 138⟩, ⟨18, 117⟩, ⟨1, 1⟩, ⟨0, 1⟩] := by kernel_rfl
theorem nm_freq : fr8 nmL [] = nmF := by
  unfold fr8
  rw [nm_runs]
  decide +kernel
theorem nm_LF : LFz nmF = [(1, 0), (2, 1), (2, 18)] := by decide +kernel
theorem nm_sizes : sz8 nmL [] = [2, 2, 0, 0, 0, 0, 0, 0, 0, 0, 0, 0, 0, 0, 0, 0, 0, 0, 1] := by
  unfold sz8
  rw [nm_freq]
  unfold lensL nUse
  rw [nm_LF]
  have : nmF.length = 19 := rfl
  rw [this]
  simp [taken, row, itF, pk, bumps, bump]
theorem nm_cost : cst8 nmL [] = 90 := by
  unfold cst8
  rw [nm_sizes, nm_runs]
  decide +kernel
theorem nm_set : ((Array.replicate 257 (Value.int .i64 0)).setIfInBounds 0 (Value.int .i64 1)).setIfInBounds 256 (Value.int .i64 1) = (nmL.map (Value.int .i64)).toArray := by kernel_rfl
theorem nm_len : nmL.length = 257 := by decide +kernel
theorem nm_bd : ∀ z ∈ nmL, -9223372036854775808 ≤ z ∧ z ≤ 9223372036854775807 := by decide +kernel
theorem nm_seg (w : World) : SegZ (w.alloc (.cells (nmL.map (Value.int .i64)).toArray 3)) (some ⟨w.heap.size, 0, none⟩) nmL := by
  refine ⟨fun i hi => ⟨w.heap.size, 0, rfl, ?_⟩, getD_bdz nm_bd⟩
  rw [Nat.zero_add, cell_of_row _ _ i _ _ _ (heap_alloc_new w _)]
  simp [List.getD, hi]
set_option maxRecDepth 100000 in
set_option maxHeartbeats 4000000 in
theorem headNames_walk (w : World) (TT : TabS w ∧ TabO w) : Calls Tryd.prog 3 #[] w fun e w' => e = .returned (.bool true) ∧ Below w.heap.size w w' := by
  obtain ⟨T, O⟩ := TT
  have hmk : ∀ W, (Instr.makeSlice 22 (.int .i64 257) (.int .i64 257)).run Tryd.prog W = .ok (.slice (some ⟨W.heap.size, 0, none⟩) 257 257) (W.alloc (.cells (Array.replicate 257 (.int .i64 0)) 3)) := fun W => run_make_ints 257 (by omega) W
  have B0 := below_box8 w (.cells (nmL.map (Value.int .i64)).toArray 3)
  have CC := pcost8 nmL [] (some ⟨w.heap.size, 0, none⟩) none 257 0 257 0 nm_len rfl _ (nm_seg w) (SegZ.nil _ _) (by omega) (by omega) (SegZ.old T B0) (SegZ.old O B0)
  unfold CsQ at CC
  rw [if_pos nm_tld, nm_cost] at CC
  have HA : Hid (∀ W, Below w.heap.size w W → Calls Tryd.prog 11 #[] W fun e w' => e = .returned (.bool true) ∧ Below W.heap.size W w') := fun W hW => awake8 W (SegZ.old T hW)
  clear T O
  go_enter Tryd.func3, Tryd.ntmps3
  go_wp2_with fail
  rw [nm_set]
  refine CC.mono ?_
  rintro e w1 ⟨rfl, B1⟩
  have x1 : Below w.heap.size w w1 := B0.trans (B1.mono B0.size)
  clear CC B0
  go_wp2_with (first
    | (go_at_call 10; refine (num8 _ _).mono ?_; rintro e w' ⟨rfl, hw'⟩; subst w')
    | (go_at_call 11; refine (HA.out _ x1).mono ?_; rintro e w2 ⟨rfl, B2⟩))
  go_ret
  exact ⟨rfl, x1.trans (B2.mono x1.size)⟩
end Go.Proofs.YtoeabfcnfofbiaaDoor

namespace Go.Proofs.YtoeabfcnfofbiaaDoor
open Go.ChangeShapes Go.WideShapes Go.ChangeAt Go.RowKit
set_option linter.unusedVariables false

/-- A slice of whole numbers that came in: what lies there, and how it was read. -/
theorem open_seg {H : Type} {enc : TypeId × Value → H} {P : Program} {W : World} {T e : TypeId} {k : IntKind} {M : Int} {a : Option Addr} {len cap : Nat} {d : DataW H} {p : List MemPlace}
    (hT : P.underlying T = some (.slice e)) (he : P.underlying e = some (.int k)) (hc : P.cellsOf e = 1) (hM : 0 ≤ M) (hwf : ∀ n, (Lit.int k n).wf = true → 0 ≤ n ∧ n ≤ M)
    (h : DataW.Trod enc P W 0 (fun _ => true) true T (.slice a len cap) d p) :
    ∃ zs : List Int, zs.length = len ∧ SegK k M W a zs ∧ len ≤ cap ∧ (a = none → cap = 0) ∧ ((d = .nil ∧ len = 0) ∨ ∃ elems spare, d = .slice elems spare ∧ elems.length = len) := by
  obtain ⟨fuel, hf⟩ := h
  rcases open_ints hT he hc hf with ⟨hcs, hx⟩ | ⟨x, l, c, zs, hcs, _, hl, hm, hz, hx, hcell, hwz⟩
  · simp [Value.cells] at hcs
    obtain ⟨rfl, rfl, rfl⟩ := hcs
    simp only [Prod.mk.injEq] at hx
    exact ⟨[], rfl, SegK.nil hM _ _, Nat.le_refl _, fun _ => rfl, Or.inl ⟨hx.1, rfl⟩⟩
  · simp [Value.cells] at hcs
    obtain ⟨rfl, rfl, rfl⟩ := hcs
    simp only [Prod.mk.injEq] at hx
    simp only [if_true] at hz
    refine ⟨zs.take len, by simp; omega, ⟨fun i hi => ?_, hM, getD_bd hM ?_⟩, hl, (by intro h; cases h), Or.inr ⟨_, _, hx.1, by simp [ChangeShapes.lits]; omega⟩⟩
    · simp at hi
      have hi2 : i < len := by omega
      have h1 := hcell i (by omega)
      obtain ⟨b, off, spot⟩ := x
      have hs : spot = none := by
        have := hcell 0 (by omega)
        simpa [Addr.add] using World.cell?_spot this
      subst hs
      refine ⟨b, off, rfl, ?_⟩
      have hadd : (⟨b, off, none⟩ : Addr).add i = ⟨b, off + i, none⟩ := by unfold Addr.add; split <;> simp_all
      rw [hadd] at h1
      rw [h1]
      simp [List.getD, hi2]
    · intro z hz1
      exact hwf z (hwz z (List.mem_of_mem_take hz1))
end Go.Proofs.YtoeabfcnfofbiaaDoor
