
import Derived.Test.YtoeabfcnfofbiaaDoorHdW4
namespace Go.Proofs.YtoeabfcnfofbiaaDoor
open Go.RowKit
set_option linter.unusedVariables false

/-! The landed head: Cost. -/
def cb8 (Z : List Int) : List Rn8 → Nat
  | [] => 0
  | r :: R => (Z.getD r.sy.toNat 0).toNat + mor8 r.sy + cb8 Z R
theorem cb8_app (Z : List Int) (b : List Rn8) : ∀ a, cb8 Z (a ++ b) = cb8 Z a + cb8 Z b
  | [] => by simp [cb8]
  | r :: a => by simp only [List.cons_append, cb8, cb8_app Z b a]; omega
def cst8 (lit dist : List Int) : Nat := 14 + 3 * tol8 (sz8 lit dist) 19 + cb8 (sz8 lit dist) (rs8 lit dist)
def CsQ (w : World) (lit dist : List Int) (e : Ending) (w' : World) : Prop := e = .returned (.tuple (if tld8 errC lit dist then #[.int .i64 (cst8 lit dist : Int), .int .i64 0] else #[.int .i64 0, .int .i64 80])) ∧ Below w.heap.size w w'
theorem own_shape1 {w : World} {base n : Nat} {e : TypeId} {a : Option Addr} {cap : Nat} {xs : List Value} (h : w.ownsRow base e 1 (.slice a n cap) n xs) (hn : 0 < n) : ∃ g, a = some ⟨g, 0, none⟩ ∧ n ≤ cap ∧ base ≤ g ∧ g < w.heap.size := by
  obtain ⟨g, cp, hv, h1, h2, h3⟩ := own_shape h hn
  simp only [Value.slice.injEq] at hv
  obtain ⟨rfl, _, rfl⟩ := hv
  exact ⟨g, rfl, h1, h2, h3⟩
set_option maxRecDepth 100000 in
set_option maxHeartbeats 4000000 in
theorem pcost8 (lit dist : List Int) (a b : Option Addr) (n m ca cb : Nat) (hn : Hid (lit.length = n)) (hm : Hid (dist.length = m)) (w : World) (hx : SegZ w a lit) (hy : SegZ w b dist) (hca : n ≤ ca) (hcb : m ≤ cb) (T : TabS w) (O : TabO w) :
    Calls Tryd.prog 9 #[.slice a n ca, .slice b m cb] w (CsQ w lit dist) := by
  have CP := pplan8 lit dist a b n m ca cb hn hm w hx hy hca hcb T O
  have HTS : Hid (TabS w) := T
  clear hx hy T O
  by_cases ht : tld8 errC lit dist
  · have hZ := sz8_ok ht
    have hR := runs8_ok (tld8_ok ht).2.2.1
    have hR3 : (rs8 lit dist).length ≤ 320 := by have := (tld8_ok ht).2.2.1.1; unfold rs8; omega
    have hto := tol8_bd (sz8 lit dist) 19 (by omega)
    have HCS : Hid (cst8 lit dist = 14 + 3 * tol8 (sz8 lit dist) 19 + cb8 (sz8 lit dist) (rs8 lit dist)) := rfl
    have HQ : Hid (∀ t w', t = cst8 lit dist → Below w.heap.size w w' → CsQ w lit dist (.returned (.tuple #[.int .i64 (t : Int), .int .i64 0])) w') := fun t w' ht2 hb => by
      subst ht2
      unfold CsQ
      rw [if_pos ht]
      exact ⟨rfl, hb⟩
    go_enter Tryd.func9, Tryd.ntmps9
    go_wp2_with fail
    refine CP.mono ?_
    rintro e w1 ⟨hyes, _, B1⟩
    obtain ⟨za, zc, ra, rc, rfl, OZ, OR⟩ := hyes ht
    have HOKR : Hid (∀ r ∈ rs8 lit dist, ok8 r) := fun r hr => hR.1 r hr
    clear hyes ht CP hR
    generalize (sht8 lit 257).length = nA at *
    generalize (sht8 dist 1).length = nB at *
    obtain ⟨Z, hZe⟩ : ∃ Z, Z = sz8 lit dist := ⟨_, rfl⟩
    obtain ⟨R, hRe⟩ : ∃ R, R = rs8 lit dist := ⟨_, rfl⟩
    rw [← hZe, ← hRe] at HCS
    rw [← hZe] at hZ hto OZ ⊢
    rw [← hRe] at hZ hR3 OR HOKR ⊢
    clear hZe hRe
    generalize tol8 Z 19 = tq at *
    obtain ⟨nR, hnR⟩ : ∃ nR, nR = R.length := ⟨_, rfl⟩
    have HNR : Hid (R.length = nR) := hnR.symm
    rw [← hnR] at hR3 OR ⊢
    clear hnR
    obtain ⟨zg, rfl, hzc, hzg, hzl⟩ := own_shape1 OZ (by omega)
    have SZ1 : SegZ w1 (some ⟨zg, 0, none⟩) Z := own_segZ OZ (fun z hz => by
      obtain ⟨i, hi, rfl⟩ := List.mem_iff_getElem.1 hz
      have := hZ.2.2.1 i (by rw [hZ.2.1] at hi; exact hi)
      simp only [List.getD, List.getElem?_eq_getElem hi, Option.getD_some] at this
      omega)
    have SR1 : SegN w1 ra R := own_segN OR HNR.out
    obtain ⟨W, hW⟩ : ∃ W, W = w1.alloc (.cells #[.int .i64 (nA : Int), .int .i64 (nB : Int), .slice (some ⟨zg, 0, none⟩) 19 zc, .int .i64 (tq : Int), .slice ra nR rc] 98) := ⟨_, rfl⟩
    have HWE : Hid (w1.alloc (.cells #[.int .i64 (nA : Int), .int .i64 (nB : Int), .slice (some ⟨zg, 0, none⟩) 19 zc, .int .i64 (tq : Int), .slice ra nR rc] 98) = W) := hW.symm
    have BW : Below w1.heap.size w1 W := by rw [hW]; exact below_box8 _ _
    have hPW : W.heap[w1.heap.size]? = some (.cells #[.int .i64 (nA : Int), .int .i64 (nB : Int), .slice (some ⟨zg, 0, none⟩) 19 zc, .int .i64 (tq : Int), .slice ra nR rc] 98 (0, 0)) := by rw [hW]; exact heap_alloc_new _ _
    have hlW : w1.heap.size < W.heap.size := (Array.getElem?_eq_some_iff.1 hPW).1
    have p2 : W.cell? ⟨w1.heap.size, 2, none⟩ = some (.slice (some ⟨zg, 0, none⟩) 19 zc) := (cell_of_row W _ 2 _ _ _ hPW).trans rfl
    have SZW := SZ1.old BW
    have SRW := SR1.old BW
    have TW : TabS W := SegZ.old (SegZ.old HTS.out B1) BW
    have xW : Below w.heap.size w W := B1.trans (BW.mono B1.size)
    clear hW BW OZ OR SZ1 SR1 hPW
    go_wp2_with fail
    rw [HWE.out]
    clear HWE
    go_loopw [8, 27] (fun tt ti wr => ∃ (i t : Nat), i ≤ nR ∧ ti = .int .i64 (i : Int) ∧ tt = .int .i64 (t : Int) ∧ Hid (t = 14 + 3 * tq + cb8 Z (R.take i)) ∧ t ≤ 71 + 14 * i ∧ Below W.heap.size W wr) (fun _ ti _ => nR - (intOf ti).toNat)
    case atStart => exact ⟨0, 14 + 3 * tq, by omega, rfl, by go_num, (by show _ = _; simp [cb8]), by omega, Below.refl _ _⟩
    case round =>
      obtain ⟨i, t, hin, rfl, rfl, HTT, htb, BR⟩ := hrel
      by_cases hlt : i < nR
      · have hlti : (i : Int) < (nR : Int) := by omega
        have hil : i < R.length := by rw [HNR.out]; exact hlt
        obtain ⟨rb, off, rfl, cs, cc⟩ := (SRW.old BR).at_ i hil
        have HTK : Hid (R.take (i + 1) = R.take i ++ [R.getD i ⟨0, 0⟩]) := take_snocN hil
        have hok := HOKR.out (R.getD i ⟨0, 0⟩) (by simp [List.getD, hil])
        generalize R.getD i ⟨0, 0⟩ = r at *
        obtain ⟨sy, ct⟩ := r
        simp only [ok8] at cs cc hok
        obtain ⟨s, rfl⟩ : ∃ s : Nat, sy = (s : Int) := ⟨sy.toNat, by omega⟩
        have hs19 : (s : Int) < 19 := by omega
        obtain ⟨_, _, hZb, _⟩ := hZ
        have hzb := hZb s (by omega)
        obtain ⟨zg', off', ez, cz⟩ := (SZW.old BR).at_ s (by omega)
        cases ez
        rw [Nat.zero_add] at cz
        obtain ⟨_, _, c2⟩ := TabS.at8 (SegZ.old TW BR) s (by omega)
        have hmb := mor8_in (s : Int)
        have hTn : Hid (14 + 3 * tq + cb8 Z (R.take (i + 1)) = t + ((Z.getD s 0).toNat + mor8 (s : Int))) := by
          show _ = _
          rw [HTK.out, cb8_app, HTT.out]
          simp only [cb8, Int.toNat_natCast]
          omega
        generalize Z.getD s 0 = z at *
        generalize mor8 (s : Int) = mo at *
        obtain ⟨zn, rfl⟩ : ∃ zn : Nat, z = (zn : Int) := ⟨z.toNat, by omega⟩
        rw [Int.toNat_natCast] at hTn
        have pr := (BR.cell (p := ⟨w1.heap.size, 2, none⟩) hlW).trans p2
        have hlr : w1.heap.size < wr.heap.size := by have := BR.size; omega
        have h0r : 0 < wr.heap.size := by omega
        have hzr : zg < wr.heap.size := by omega
        have hBn := BR.alloc BR.size (.cells #[.int .i64 (s : Int), .int .i64 ct] 38)
        clear SRW SZW TW HTT HTK
        go_wp2_with fail
        go_region
        go_wp2_with fail
        go_roundw
        case rel => exact ⟨i + 1, t + (zn + mo), by omega, by go_num, by go_num, hTn.out.symm, by omega, hBn.drew⟩
        case measure => simp [intOf]; omega
      · have hge : ¬ (i : Int) < (nR : Int) := by omega
        have hTA : R.take i = R := List.take_of_length_le (by rw [HNR.out]; omega)
        rw [hTA] at HTT
        have HF := HQ.out t wr (by rw [HTT.out, HCS.out]) (xW.trans (BR.mono xW.size))
        clear HQ HTT HCS
        go_wp2_with fail
        go_ret2
        exact HF
  · have HF : Hid (∀ w', Below w.heap.size w w' → CsQ w lit dist (.returned (.tuple #[.int .i64 0, .int .i64 80])) w') := fun w' hb => by
      unfold CsQ
      rw [if_neg ht]
      exact ⟨rfl, hb⟩
    go_enter Tryd.func9, Tryd.ntmps9
    go_wp2_with fail
    refine CP.mono ?_
    rintro e w1 ⟨_, hno, B1⟩
    obtain rfl := hno ht
    clear CP hno ht
    go_wp2_with fail
    go_ret2
    exact HF.out _ (B1.trans ((below_box8 w1 _).mono B1.size))
end Go.Proofs.YtoeabfcnfofbiaaDoor
