import Derived.Test.YtoeabfcnfofbiaaDoorPs
import Derived.Deep.RegionHeld3
import Derived.Test.YtoeabfcnfofbiaaDoorPl
import Derived.Test.YtoeabfcnfofbiaaDoorPa
import Derived.Test.YtoeabfcnfofbiaaDoorPm
namespace Go.Proofs.YtoeabfcnfofbiaaDoor
open Go.RowKit
set_option linter.unusedVariables false

/-! The landed head: Write. -/
def WtQ (w : World) (bw B : Nat) (v : Value) (L : List Bool) (lit dist : List Int) (e : Ending) (w' : World) : Prop := e = .returned (.int .i64 (if tld8 errC lit dist then 0 else 80)) ∧ WrI w w' bw B v (L ++ if tld8 errC lit dist then hd8 lit dist else [])
set_option maxRecDepth 100000 in
theorem pwrite_nil8 (a b : Option Addr) (n m ca cb : Nat) (w : World) : Calls Tryd.prog 21 #[.pointer none, .slice a n ca, .slice b m cb] w fun e w' => e = .returned (.int .i64 2) ∧ w' = w := by
  go_enter Tryd.func21, Tryd.ntmps21
  go_wp2_with fail
  go_ret
  exact ⟨rfl, rfl⟩
theorem WrI.drew8 {W wr : World} {bw B : Nat} {v : Value} {M : List Bool} (h : WrI W wr bw B v M) : WrI W wr.drew bw B v M := h.old ((Below.refl wr.heap.size wr).drew)
theorem own_blk28 {w : World} {base n cap : Nat} {e : TypeId} {b : Option Addr} {xs : List Value} (h : w.ownsRow base e 2 (.slice b n cap) n xs) : ∀ x, b = some x → base ≤ x.block := by
  rcases h.2 with ⟨h1, _⟩ | ⟨g, cp, cur, h1, hb, _⟩
  · simp only [Value.slice.injEq] at h1
    intro x e; rw [h1.1] at e; cases e
  · simp only [Value.slice.injEq] at h1
    intro x e; rw [h1.1] at e; cases e; exact hb
theorem WrI.up {w W wr : World} {bw B : Nat} {v : Value} {M : List Bool} (hb : Below w.heap.size w W) (h : WrI W wr bw B v M) : WrI w wr bw B v M := by
  obtain ⟨v', h1, h2, h3⟩ := h
  refine ⟨v', h1, (kp_of_below hb (WS bw v)).trans (S' := WS bw v) h2 (fun _ _ e => e), fun k e => ?_⟩
  rcases h3 k e with e2 | e2
  · exact .inl e2
  · exact .inr (Nat.le_trans hb.size e2)
set_option maxRecDepth 100000 in
set_option maxHeartbeats 4000000 in
theorem pwrite8 (bw B : Nat) (v : Value) (L : List Bool) (lit dist : List Int) (a b : Option Addr) (n m ca cb : Nat) (hn : Hid (lit.length = n)) (hm : Hid (dist.length = m)) (w : World) (hw : WrL w bw B v L) (hL : L.length ≤ 1125899906800000) (hx : SegZ w a lit) (hy : SegZ w b dist) (hca : n ≤ ca) (hcb : m ≤ cb) (T : TabS w) (O : TabO w) (hbw : 2 ≤ bw) (hB : 2 ≤ B) :
    Calls Tryd.prog 21 #[.pointer (some ⟨bw, 0, none⟩), .slice a n ca, .slice b m cb] w (WtQ w bw B v L lit dist) := by
  have CP := pplan8 lit dist a b n m ca cb hn hm w hx hy hca hcb T O
  have HTS : Hid (TabS w) := T
  have HTO : Hid (TabO w) := O
  have HWR : Hid (WrL w bw B v L) := hw
  have hbl := hw.b_lt
  have HOW := hw.own_lt
  clear hx hy T O hw
  by_cases ht : tld8 errC lit dist
  · have hZ := sz8_ok ht
    have hR := runs8_ok (tld8_ok ht).2.2.1
    have hR3 : (rs8 lit dist).length ≤ 320 := by have := (tld8_ok ht).2.2.1.1; unfold rs8; omega
    have hto := tol8_bd (sz8 lit dist) 19 (by omega)
    have HHD : Hid (hd8 lit dist = bN ((sht8 lit 257).length - 257) 5 ++ bN ((sht8 dist 1).length - 1) 5 ++ bN (tol8 (sz8 lit dist) 19 - 4) 4 ++ szb8 (sz8 lit dist) (tol8 (sz8 lit dist) 19) ++ rnb8 (sz8 lit dist) (rs8 lit dist)) := rfl
    obtain ⟨_, _, _, hla, hlb⟩ := tld8_ok ht
    have HQ : Hid (∀ w', WrI w w' bw B v (L ++ hd8 lit dist) → WtQ w bw B v L lit dist (.returned (.int .i64 0)) w') := fun w' h => by
      unfold WtQ
      rw [if_pos ht, if_pos ht]
      exact ⟨rfl, h⟩
    go_enter Tryd.func21, Tryd.ntmps21
    go_wp2_with fail
    refine CP.mono ?_
    rintro e w1 ⟨hyes, _, B1⟩
    obtain ⟨za, zc, ra, rc, rfl, OZ, OR⟩ := hyes ht
    have HOKR : Hid (∀ r ∈ rs8 lit dist, ok8 r) := fun r hr => hR.1 r hr
    clear hyes ht CP hR
    generalize (sht8 lit 257).length = nA at *
    generalize (sht8 dist 1).length = nB at *
    obtain ⟨Z, hZe⟩ : ∃ Z, Z = sz8 lit dist := ⟨_, rfl⟩
    obtain ⟨R, hRe⟩ : ∃ R, R = rs8 lit dist := ⟨_, rfl⟩
    rw [← hZe, ← hRe] at HHD
    rw [← hZe] at hZ hto OZ ⊢
    rw [← hRe] at hZ hR3 OR HOKR ⊢
    clear hZe hRe
    generalize tol8 Z 19 = tq at *
    obtain ⟨kA, rfl⟩ : ∃ kA, nA = kA + 257 := ⟨nA - 257, by omega⟩
    obtain ⟨kB, rfl⟩ : ∃ kB, nB = kB + 1 := ⟨nB - 1, by omega⟩
    obtain ⟨kt, rfl⟩ : ∃ kt, tq = kt + 4 := ⟨tq - 4, by omega⟩
    rw [show kA + 257 - 257 = kA by omega, show kB + 1 - 1 = kB by omega, show kt + 4 - 4 = kt by omega] at HHD
    obtain ⟨nR, hnR⟩ : ∃ nR, nR = R.length := ⟨_, rfl⟩
    have HNR : Hid (R.length = nR) := hnR.symm
    rw [← hnR] at hR3 OR ⊢
    clear hnR
    obtain ⟨zg, rfl, hzc, hzg, hzl⟩ := own_shape1 OZ (by omega)
    obtain ⟨hZC, hZ19, hZb, _⟩ := hZ
    have HZC : Hid (errC Z = 0) := hZC
    have SZ1 : SegZ w1 (some ⟨zg, 0, none⟩) Z := own_segZ OZ (fun z hz => by
      obtain ⟨i, hi, rfl⟩ := List.mem_iff_getElem.1 hz
      have := hZb i (by rw [hZ19] at hi; exact hi)
      simp only [List.getD, List.getElem?_eq_getElem hi, Option.getD_some] at this
      omega)
    have SR1 : SegN w1 ra R := own_segN OR HNR.out
    have hrg : ∀ g o, ra = some ⟨g, o, none⟩ → w.heap.size ≤ g := fun g o e => own_blk28 OR _ e
    obtain ⟨W, hW⟩ : ∃ W, W = w1.alloc (.cells #[.int .i64 ((kA : Int) + 257), .int .i64 ((kB : Int) + 1), .slice (some ⟨zg, 0, none⟩) 19 zc, .int .i64 ((kt : Int) + 4), .slice ra nR rc] 98) := ⟨_, rfl⟩
    have HWE : Hid (w1.alloc (.cells #[.int .i64 ((kA : Int) + 257), .int .i64 ((kB : Int) + 1), .slice (some ⟨zg, 0, none⟩) 19 zc, .int .i64 ((kt : Int) + 4), .slice ra nR rc] 98) = W) := hW.symm
    have BW : Below w1.heap.size w1 W := by rw [hW]; exact below_box8 _ _
    have hPW : W.heap[w1.heap.size]? = some (.cells #[.int .i64 ((kA : Int) + 257), .int .i64 ((kB : Int) + 1), .slice (some ⟨zg, 0, none⟩) 19 zc, .int .i64 ((kt : Int) + 4), .slice ra nR rc] 98 (0, 0)) := by rw [hW]; exact heap_alloc_new _ _
    have hlW : w1.heap.size < W.heap.size := (Array.getElem?_eq_some_iff.1 hPW).1
    obtain ⟨⟨p0, p1, p2, p3, p4⟩, _⟩ := five_cells hPW
    have SZW := SZ1.old BW
    have SRW := SR1.old BW
    have xW : Below w.heap.size w W := B1.trans (BW.mono B1.size)
    have TW : TabS W := SegZ.old HTS.out xW
    have OW : TabO W := SegZ.old HTO.out xW
    have HI0 : WrI W W bw B v L := WrI.start ((show WrL w bw B v L from HWR.out).below8 xW)
    have hPs : w.heap.size ≤ w1.heap.size := B1.size
    -- what stays while the writer writes
    have HK : Hid (∀ wr, Kp (WS bw v) W wr → (wr.cell? ⟨w1.heap.size, 0, none⟩ = some (.int .i64 ((kA : Int) + 257)) ∧ wr.cell? ⟨w1.heap.size, 1, none⟩ = some (.int .i64 ((kB : Int) + 1)) ∧ wr.cell? ⟨w1.heap.size, 2, none⟩ = some (.slice (some ⟨zg, 0, none⟩) 19 zc) ∧ wr.cell? ⟨w1.heap.size, 3, none⟩ = some (.int .i64 ((kt : Int) + 4)) ∧ wr.cell? ⟨w1.heap.size, 4, none⟩ = some (.slice ra nR rc)) ∧ SegZ wr (some ⟨zg, 0, none⟩) Z ∧ SegN wr ra R ∧ TabS wr ∧ TabO wr) := fun wr hk => by
      have hfar : ∀ k, w.heap.size ≤ k → ¬ WS bw v k := fun k hk2 e => by
        rcases e with e | e
        · omega
        · have := (HOW k e).2.1; omega
      have hlow : ∀ k, k < 2 → ¬ WS bw v k := fun k hk2 e => by
        rcases e with e | e
        · omega
        · have := (HOW k e).1; omega
      refine ⟨⟨hk.cellN p0 (hfar w1.heap.size hPs), hk.cellN p1 (hfar w1.heap.size hPs), hk.cellN p2 (hfar w1.heap.size hPs), hk.cellN p3 (hfar w1.heap.size hPs), hk.cellN p4 (hfar w1.heap.size hPs)⟩, SZW.kp hk (fun g o e _ => by cases e; exact hfar _ hzg), SRW.kp hk (fun g o e => hfar _ (hrg g o e)), SegZ.kp TW hk (fun g o e _ => by cases e; exact hlow 0 (by omega)), SegZ.kp OW hk (fun g o e _ => by cases e; exact hlow 1 (by omega))⟩
    clear OZ OR SZ1 SR1 hPW p0 p1 p2 p3 p4 SZW SRW TW OW BW hW
    have HKA : Hid (kA < 2 ^ 5 ∧ kB < 2 ^ 5 ∧ kt < 2 ^ 4) := ⟨by omega, by omega, by omega⟩
    go_wp2_with fail
    rw [HWE.out]
    refine (put8 HI0 kA 5 HKA.out.1 (by omega) (by omega)).mono ?_
    rintro e w2 ⟨rfl, HI1⟩
    obtain ⟨⟨q0, q1, q2, q3, q4⟩, _⟩ := HK.out w2 HI1.kp
    clear HWE HI0
    go_wp2_with fail
    refine (put8 HI1 kB 5 HKA.out.2.1 (by omega) (by simp [bN_len]; omega)).mono ?_
    rintro e w3 ⟨rfl, HI2⟩
    obtain ⟨⟨q0, q1, q2, q3, q4⟩, _⟩ := HK.out w3 HI2.kp
    clear HI1
    go_wp2_with fail
    refine (put8 HI2 kt 4 HKA.out.2.2 (by omega) (by simp [bN_len]; omega)).mono ?_
    rintro e w4 ⟨rfl, HI3⟩
    obtain ⟨⟨q0, q1, q2, q3, q4⟩, _⟩ := HK.out w4 HI3.kp
    clear HI2
    obtain ⟨M3, hM3⟩ : ∃ M3, M3 = L ++ bN kA 5 ++ bN kB 5 ++ bN kt 4 := ⟨_, rfl⟩
    have HM3 : Hid (M3 = L ++ bN kA 5 ++ bN kB 5 ++ bN kt 4) := hM3
    have hM3l : M3.length = L.length + 14 := by rw [hM3]; simp [bN_len]
    rw [← hM3] at HI3
    clear hM3
    go_wp2_with fail
    go_loopw [46] (fun ti wr => ∃ i : Nat, i ≤ kt + 4 ∧ ti = .int .i64 (i : Int) ∧ WrI W wr bw B v (M3 ++ szb8 Z i)) (fun ti _ => kt + 4 - (intOf ti).toNat)
    case atStart => exact ⟨0, by omega, rfl, by rw [szb8, List.append_nil]; exact HI3⟩
    case round =>
      obtain ⟨i, hit, rfl, HI⟩ := hrel
      clear HI3 q0 q1 q2 q3 q4
      obtain ⟨⟨q0, q1, q2, q3, q4⟩, SZ, SR, TS, TO⟩ := HK.out wr HI.kp
      by_cases hlt : i < kt + 4
      · have hlti : (i : Int) < (kt : Int) + 4 := by omega
        have c0 := TabO.at8 TO i (by omega)
        have hob := ord_bd ⟨i, by omega⟩
        simp only at hob
        have KR2 : Hid (∀ w' M, WrI W w' bw B v M → w'.cell? ⟨w1.heap.size, 2, none⟩ = some (.slice (some ⟨zg, 0, none⟩) 19 zc) ∧ w'.cell? ⟨1, i, none⟩ = some (.int .i64 (ordL.getD i 0)) ∧ w'.cell? ⟨zg, (ordL.getD i 0).toNat, none⟩ = some (.int .i64 (Z.getD (ordL.getD i 0).toNat 0))) := fun w' M h => by
          obtain ⟨⟨_, _, r2, _⟩, RZ, _, _, RO⟩ := HK.out w' h.kp
          obtain ⟨zg', off', ez, cz⟩ := RZ.at_ (ordL.getD i 0).toNat (by omega)
          cases ez
          rw [Nat.zero_add] at cz
          exact ⟨r2, TabO.at8 RO i (by omega), cz⟩
        have HSB : Hid (szb8 Z (i + 1) = szb8 Z i ++ bN (Z.getD (ordL.getD i 0).toNat 0).toNat 3) := rfl
        have hl3 := szb8_len Z i
        generalize ordL.getD i 0 = oq at *
        obtain ⟨s, rfl⟩ : ∃ s : Nat, oq = (s : Int) := ⟨oq.toNat, by omega⟩
        rw [Int.toNat_natCast] at HSB KR2
        obtain ⟨zg', off', ez, cz⟩ := SZ.at_ s (by omega)
        cases ez
        rw [Nat.zero_add] at cz
        have hzb := hZb s (by omega)
        generalize Z.getD s 0 = z at *
        obtain ⟨zn, rfl⟩ : ∃ zn : Nat, z = (zn : Int) := ⟨z.toNat, by omega⟩
        rw [Int.toNat_natCast] at HSB
        have hs19 : (s : Int) < 19 := by omega
        have hi19 : (i : Int) < 19 := by omega
        have CPU := put8 (HI.drew8) zn 3 (by omega) (by omega) (by rw [List.length_append, hl3]; omega)
        rw [List.append_assoc, ← HSB.out] at CPU
        have KR : Hid (wr.cell? ⟨w1.heap.size, 2, none⟩ = some (.slice (some ⟨zg, 0, none⟩) 19 zc) ∧ wr.cell? ⟨1, i, none⟩ = some (.int .i64 (s : Int)) ∧ wr.cell? ⟨zg, s, none⟩ = some (.int .i64 (zn : Int))) := ⟨q2, c0, cz⟩
        clear HI SZ SR TS TO q0 q1 q3 q4 HSB
        go_wp2_with fail
        have r2 : wr.drew.cell? ⟨w1.heap.size, 2, none⟩ = some (.slice (some ⟨zg, 0, none⟩) 19 zc) := KR.out.1
        have r3 : wr.drew.cell? ⟨1, i, none⟩ = some (.int .i64 (s : Int)) := KR.out.2.1
        have r4 : wr.drew.cell? ⟨zg, s, none⟩ = some (.int .i64 (zn : Int)) := KR.out.2.2
        have HCV : Hid (IntKind.u64.wrap (zn : Int) = (zn : Int)) := IntWalk.u64_in _ (by omega)
        clear KR KR2 q2 c0 cz HK HOW
        go_region_law (first | (go_simp; go_at_call 19; rw [HCV.out]; refine CPU.mono ?_; rintro e w5 ⟨rfl, HI5⟩))
        all_goals
          go_wp2_with fail
          go_roundw
          case rel => exact ⟨i + 1, by omega, by go_num, HI5⟩
          case measure => simp [intOf]; omega
      · have hge : ¬ (i : Int) < (kt : Int) + 4 := by omega
        obtain rfl : i = kt + 4 := by omega
        have hl3 := szb8_len Z (kt + 4)
        obtain ⟨M4, hM4⟩ : ∃ M4, M4 = M3 ++ szb8 Z (kt + 4) := ⟨_, rfl⟩
        have HM4 : Hid (M4 = M3 ++ szb8 Z (kt + 4)) := hM4
        have hM4l : M4.length ≤ L.length + 80 := by rw [hM4, List.length_append, hl3]; omega
        rw [← hM4] at HI
        clear hM4
        have CE := newEnc_far (some ⟨zg, 0, none⟩) Z 19 zc hZ19 wr SZ (fun h => by cases h) (by omega)
        have hws := HI.size
        generalize wr = w5 at *
        clear SZ SR TS TO
        go_wp2_with fail
        refine CE.mono ?_
        rintro e w6 ⟨hE, _, B6⟩
        obtain ⟨eb, rfl, heb, hEn, hEK⟩ := hE HZC.out
        obtain ⟨v6, hw5, K5, F5⟩ := HI
        have K6 : Kp (WS bw v) W w6 := K5.trans (S' := fun _ => False) (kp_of_below B6 _) (fun _ _ e => e.elim)
        have hw6 := hw5.below8 B6
        have hb5 := hw5.b_lt
        have ho5 := hw5.own_lt
        have HK2 : Hid (∀ wr, Kp (WS bw v6) w6 wr → SegN wr ra R ∧ TabS wr ∧ En wr eb w6.heap.size Z) := fun wr hk => by
          have hk2 : Kp (WS bw v) W wr := K6.trans (S' := WS bw v6) hk (fun k hlt e => by
            rcases e with e | e
            · exact .inl e
            · rcases F5 k e with e2 | e2
              · exact .inr e2
              · omega)
          obtain ⟨_, _, h1, h2, _⟩ := HK.out wr hk2
          refine ⟨h1, h2, hEK wr ((Kp.refl (fun k => k < w5.heap.size) w6).trans (S' := WS bw v6) hk (fun k hlt e => ?_))⟩
          rcases e with e | e
          · omega
          · exact (ho5 k e).2.1
        obtain ⟨⟨r0, r1, r2, r3, r4⟩, _⟩ := HK.out w6 K6
        have HJ : Hid (∀ wr, WrI w6 wr bw B v6 (M4 ++ rnb8 Z R) → WtQ w bw B v L lit dist (.returned (.int .i64 0)) wr) := fun wr h => by
          refine HQ.out wr ?_
          have e : L ++ hd8 lit dist = M4 ++ rnb8 Z R := by
            rw [HHD.out, HM4.out, HM3.out]
            simp only [List.append_assoc]
          rw [e]
          obtain ⟨v7, h1, h2, h3⟩ := h
          exact WrI.up xW (WrI.next K6 F5 h1 h2 h3)
        have HI6 : WrI w6 w6 bw B v6 M4 := WrI.start hw6
        clear hE CE hEK hEn K5 hw5 K6 F5 HK HQ HHD HM3 HM4 r0 r1 r2 r3 hw6 B6 hws
        have hs5 : bw < w6.heap.size := by have := HI6.kp.size; obtain ⟨_, h, _⟩ := HI6; exact h.b_lt
        go_wp2_with fail
        clear r4
        go_loopw [69] (fun ti wr => ∃ i : Nat, i ≤ nR ∧ ti = .int .i64 (i : Int) ∧ WrI w6 wr bw B v6 (M4 ++ rnb8 Z (R.take i))) (fun ti _ => nR - (intOf ti).toNat)
        case atStart => exact ⟨0, by omega, rfl, by rw [List.take_zero, rnb8, List.append_nil]; exact HI6⟩
        case round =>
          obtain ⟨i, hin, rfl, HI⟩ := hrel
          clear HI6
          by_cases hlt : i < nR
          · have hlti : (i : Int) < (nR : Int) := by omega
            have hil : i < R.length := by rw [HNR.out]; exact hlt
            obtain ⟨SR, TS, hEn⟩ := HK2.out wr HI.kp
            obtain ⟨rb, off, rfl, cs, cc⟩ := SR.at_ i hil
            have HTK : Hid (R.take (i + 1) = R.take i ++ [R.getD i ⟨0, 0⟩]) := take_snocN hil
            have hok := HOKR.out (R.getD i ⟨0, 0⟩) (by simp [List.getD, hil])
            have hml : (M4 ++ rnb8 Z (R.take i)).length ≤ L.length + 8000 := by
              have := rnb8_len HZC.out (R.take i)
              rw [List.length_take] at this
              rw [List.length_append]
              omega
            have hctl := ct8_lt hok
            have HRB : Hid (M4 ++ rnb8 Z (R.take (i + 1)) = (M4 ++ rnb8 Z (R.take i)) ++ putB Z (R.getD i ⟨0, 0⟩).sy ++ bN ((R.getD i ⟨0, 0⟩).ct - lst8 (R.getD i ⟨0, 0⟩).sy).toNat (mor8 (R.getD i ⟨0, 0⟩).sy)) := by
              show _ = _
              rw [HTK.out, rnb8_app, rnb8, rnb8, List.append_nil]
              simp only [List.append_assoc]
            generalize M4 ++ rnb8 Z (R.take i) = MM at *
            generalize R.getD i ⟨0, 0⟩ = r at *
            obtain ⟨sy, ct⟩ := r
            simp only [ok8] at cs cc hok hctl HRB
            obtain ⟨s, rfl⟩ : ∃ s : Nat, sy = (s : Int) := ⟨sy.toNat, by omega⟩
            have hs19 : (s : Int) < 19 := by omega
            obtain ⟨v7, h71, h72, h73⟩ := HI
            have hb7 := h71.b_lt
            have ho7 := h71.own_lt
            obtain ⟨wA, hwA⟩ : ∃ wA, wA = wr.alloc (.cells #[.int .i64 (s : Int), .int .i64 ct] 38) := ⟨_, rfl⟩
            have HWA : Hid (wr.alloc (.cells #[.int .i64 (s : Int), .int .i64 ct] 38) = wA) := hwA.symm
            have hA : wA.heap[wr.heap.size]? = some (.cells #[.int .i64 (s : Int), .int .i64 ct] 38 (0, 0)) := by rw [hwA]; exact heap_alloc_new wr _
            have bA : Below wr.heap.size wr wA := by rw [hwA]; exact below_box8 wr _
            have cA0 : wA.cell? ⟨wr.heap.size, 0, none⟩ = some (.int .i64 (s : Int)) := (cell_of_row wA _ 0 _ _ _ hA).trans rfl
            have cA1 : wA.cell? ⟨wr.heap.size, 1, none⟩ = some (.int .i64 ct) := (cell_of_row wA _ 1 _ _ _ hA).trans rfl
            have hEA := hEn.old (bA.mono (by have := h72.size; omega))
            have CE2 := put5_any eb w6.heap.size Z (s : Int) bw B v7 MM wA hEA (h71.below8 bA) (by omega)
            have h72A : Kp (WS bw v6) w6 wA := h72.trans (S' := fun _ => False) (kp_of_below bA _) (fun _ _ e => e.elim)
            clear hwA hA bA SR TS hEn hEA h71 h72
            go_wp2_with fail
            rw [HWA.out]
            refine CE2.mono ?_
            rintro e w7 ⟨rfl, v8, h81, h82, h83⟩
            have hfarA : ¬ WS bw v7 wr.heap.size := fun e => by
              rcases e with e | e
              · omega
              · have := (ho7 _ e).2.1; omega
            have c70 := h82.cellN cA0 hfarA
            have c71 := h82.cellN cA1 hfarA
            obtain ⟨v9, h91, h92, h93⟩ := WrI.next h72A h73 h81 h82 h83
            obtain ⟨_, TS, _⟩ := HK2.out w7 h92
            obtain ⟨t0, t1, t2⟩ := TabS.at8 TS s (by omega)
            have hl1 := lst8_bd (s : Int)
            have hm1 := mor8_le (s : Int)
            have hl7 : (MM ++ putB Z (s : Int)).length ≤ L.length + 9000 := by
              have := putB_le HZC.out (s : Int)
              rw [List.length_append]
              omega
            clear CE2 h81 h82 h83 hfarA cA0 cA1 cs cc TS HWA h72A h73 HTK
            generalize sln8 (s : Int) = x0 at *
            generalize lst8 (s : Int) = x1 at *
            generalize mor8 (s : Int) = mo at *
            obtain ⟨k, rfl⟩ : ∃ k : Nat, ct = x1 + (k : Int) := ⟨(ct - x1).toNat, by omega⟩
            rw [show x1 + (k : Int) - x1 = (k : Int) by omega, Int.toNat_natCast] at hctl HRB
            have hkb : k ≤ 127 := by
              have : 2 ^ mo ≤ 2 ^ 7 := Nat.pow_le_pow_right (by omega) hm1
              omega
            have hlt7 : wr.heap.size < w7.heap.size := World.block_lt_of_cell? w7 _ c70
            have h07 : 0 < w7.heap.size := by omega
            have HI9 : WrI w6 w7 bw B v6 (MM ++ putB Z (s : Int)) := ⟨v9, h91, h92, h93⟩
            have HI10 := HI9.old (below_box8 w7 (.cells #[.int .i64 x0, .int .i64 x1, .int .i64 (mo : Int)] 102))
            have CPU := put8 HI10 k mo hctl (by omega) (by omega)
            rw [← HRB.out] at CPU
            clear HI9 HI10 h91 h92 h93 HRB
            go_wp2_with fail
            rw [show x1 + (k : Int) - x1 = (k : Int) by omega]
            refine CPU.mono ?_
            rintro e w8 ⟨rfl, HI8⟩
            go_wp2_with fail
            go_roundw
            case rel => exact ⟨i + 1, by omega, by go_num, HI8⟩
            case measure => simp [intOf]; omega
          · have hge : ¬ (i : Int) < (nR : Int) := by omega
            have hTA : R.take i = R := List.take_of_length_le (by rw [HNR.out]; omega)
            rw [hTA] at HI
            have HF := HJ.out wr HI
            clear HJ HK2
            go_wp2_with fail
            go_ret
            exact HF
  · have HF : Hid (∀ w', Below w.heap.size w w' → WtQ w bw B v L lit dist (.returned (.int .i64 80)) w') := fun w' hb => by
      unfold WtQ
      rw [if_neg ht, if_neg ht, List.append_nil]
      exact ⟨rfl, (WrI.start HWR.out).old hb⟩
    go_enter Tryd.func21, Tryd.ntmps21
    go_wp2_with fail
    refine CP.mono ?_
    rintro e w1 ⟨_, hno, B1⟩
    obtain rfl := hno ht
    clear CP hno ht
    go_wp2_with fail
    go_ret
    exact HF.out _ (B1.trans ((below_box8 w1 _).mono B1.size))
end Go.Proofs.YtoeabfcnfofbiaaDoor

namespace Go.Proofs.YtoeabfcnfofbiaaDoor
open Go.RowKit
set_option linter.unusedVariables false

/-! The document's own items: three cells, the last a row of counts of its own. -/
theorem row_short (F : List It) (h : 1 ≤ F.length) : ∀ k, (row F k).length ≤ 2 * F.length - 1
  | 0 => by show F.length ≤ _; omega
  | k + 1 => by
    have := row_short F h k
    rw [row_len]
    omega
/-- What stands behind the first 2n - 2 items of a row is never taken. -/
theorem row_cut (F : List It) (h : 2 ≤ F.length) (k : Nat) : List.merge F (pk ((row F k).take (2 * F.length - 2))) leI = row F (k + 1) := by
  have h1 := row_short F (by omega) k
  have h2 : pk ((row F k).take (2 * F.length - 2)) = pk (row F k) := by
    by_cases c : 2 * F.length - 2 ≤ (row F k).length
    · have := pk_whole (row F k) (F.length - 1) (by omega) (by omega)
      rw [show 2 * (F.length - 1) = 2 * F.length - 2 by omega] at this
      exact this
    · rw [List.take_of_length_le (by omega)]
  rw [h2]
  rfl
/-- How often each symbol lies in a list. -/
def cntR (N : Nat) (l : List Nat) : List Int := (List.range N).map fun s => (l.count s : Int)
theorem cnt_len (N : Nat) (l : List Nat) : (cntR N l).length = N := by simp [cntR]
theorem cnt_get {N : Nat} (l : List Nat) {k : Nat} (h : k < N) : (cntR N l).getD k 0 = (l.count k : Int) := by
  simp [cntR, List.getD, h]

structure Rm where
  wt : Int
  lf : Bool
  gc : Nat
def rm0 : Rm := ⟨0, false, 0⟩
def Rm.cells (N : Nat) (x : Rm) : List Value := [.int .i64 x.wt, .bool x.lf, .slice (some ⟨x.gc, 0, none⟩) N N]
structure R3At (N : Nat) (w : World) (g o : Nat) (x : Rm) : Prop where
  c0 : w.cell? ⟨g, o, none⟩ = some (.int .i64 x.wt)
  c1 : w.cell? ⟨g, o + 1, none⟩ = some (.bool x.lf)
  c2 : w.cell? ⟨g, o + 2, none⟩ = some (.slice (some ⟨x.gc, 0, none⟩) N N)
theorem R3At.of_block {N : Nat} {w w' : World} {g o : Nat} {x : Rm} (h : R3At N w g o x) (hb : w'.heap[g]? = w.heap[g]?) : R3At N w' g o x :=
  ⟨(World.cell?_of_block (a := ⟨g, o, none⟩) hb).trans h.c0, (World.cell?_of_block (a := ⟨g, o + 1, none⟩) hb).trans h.c1, (World.cell?_of_block (a := ⟨g, o + 2, none⟩) hb).trans h.c2⟩
theorem R3At.lt {N : Nat} {w : World} {g o : Nat} {x : Rm} (h : R3At N w g o x) : g < w.heap.size := World.block_lt_of_cell? w _ h.c0
def flatR (N : Nat) (l : List Rm) : List Value := l.flatMap (Rm.cells N)
theorem flatR_len (N : Nat) (l : List Rm) : (flatR N l).length = l.length * 3 := by
  unfold flatR
  induction l with
  | nil => rfl
  | cons x r ih => simp [Rm.cells, ih]; omega
theorem flatR_get (N : Nat) : ∀ (l : List Rm) (k : Nat) (x : Rm), l[k]? = some x → (flatR N l)[k * 3]? = some (.int .i64 x.wt) ∧ (flatR N l)[k * 3 + 1]? = some (.bool x.lf) ∧ (flatR N l)[k * 3 + 2]? = some (.slice (some ⟨x.gc, 0, none⟩) N N)
  | [], k, x, h => by simp at h
  | y :: r, 0, x, h => by
    simp at h
    subst h
    simp [flatR, Rm.cells]
  | y :: r, k + 1, x, h => by
    have := flatR_get N r k x (by simpa using h)
    have e : flatR N (y :: r) = .int .i64 y.wt :: .bool y.lf :: .slice (some ⟨y.gc, 0, none⟩) N N :: flatR N r := rfl
    rw [e, show (k + 1) * 3 = k * 3 + 1 + 1 + 1 by omega]
    simpa [List.getElem?_cons_succ, show k * 3 + 1 + 1 + 1 + 1 = (k * 3 + 1) + 1 + 1 + 1 by omega] using this
theorem flatR_one (N : Nat) (l : List Rm) : ∀ u ∈ flatR N l, u.oneCell' = true := by
  intro u hu
  unfold flatR at hu
  obtain ⟨x, _, hx⟩ := List.mem_flatMap.1 hu
  unfold Rm.cells at hx
  simp only [List.mem_cons, List.not_mem_nil, or_false] at hx
  rcases hx with rfl | rfl | rfl <;> rfl
theorem flatR_app (N : Nat) (l r : List Rm) : flatR N (l ++ r) = flatR N l ++ flatR N r := by unfold flatR; rw [List.flatMap_append]
/-- Items that lie where a slice's address leads. -/
structure RR (N : Nat) (w : World) (a : Option Addr) (L : List Rm) : Prop where
  at_ : ∀ k, k < L.length → ∃ b off, a = some ⟨b, off, none⟩ ∧ R3At N w b (off + k * 3) (L.getD k rm0)
theorem RR.nil (N : Nat) (w : World) (a : Option Addr) : RR N w a [] := ⟨fun k h => by simp at h⟩
theorem RR.old {N : Nat} {w w' : World} {a : Option Addr} {L : List Rm} (h : RR N w a L) (hb : Below w.heap.size w w') : RR N w' a L :=
  ⟨fun k hk => by obtain ⟨b, off, ha, hi⟩ := h.at_ k hk; exact ⟨b, off, ha, hi.of_block (hb.block b hi.lt)⟩⟩
theorem RR.take {N : Nat} {w : World} {a : Option Addr} {L : List Rm} (h : RR N w a L) (m : Nat) : RR N w a (L.take m) := by
  refine ⟨fun k hk => ?_⟩
  simp at hk
  obtain ⟨b, off, ha, hi⟩ := h.at_ k (by omega)
  refine ⟨b, off, ha, ?_⟩
  have hm : k < m := by omega
  simpa [List.getD, hm] using hi
theorem RR.tail {N : Nat} {w : World} {b off : Nat} {x : Rm} {L : List Rm} (h : RR N w (some ⟨b, off, none⟩) (x :: L)) : RR N w (some ⟨b, off + 3, none⟩) L := by
  refine ⟨fun k hk => ?_⟩
  obtain ⟨b', off', e, hi⟩ := h.at_ (k + 1) (by simp; omega)
  cases e
  refine ⟨b, off + 3, rfl, ?_⟩
  have e1 : off + 3 + k * 3 = off + (k + 1) * 3 := by omega
  rw [e1]
  simpa [List.getD] using hi
theorem own_facts3 {w : World} {base n cap : Nat} {e : TypeId} {b : Option Addr} {xs : List Value} (h : w.ownsRow base e 3 (.slice b n cap) n xs) : n ≤ cap ∧ (b = none → cap = 0) ∧ ∀ x, b = some x → base ≤ x.block ∧ x.block < w.heap.size := by
  rcases h.2 with ⟨h1, h2⟩ | ⟨g, cp, cur, h1, h2, h3, h4, _⟩
  · simp only [Value.slice.injEq] at h1
    obtain ⟨rfl, _, rfl⟩ := h1
    exact ⟨by omega, (fun _ => rfl), (fun x h => by cases h)⟩
  · simp only [Value.slice.injEq] at h1
    obtain ⟨rfl, _, rfl⟩ := h1
    exact ⟨h4, (fun h => by cases h), (fun x h => by cases h; exact ⟨h2, (Array.getElem?_eq_some_iff.1 h3).1⟩)⟩
theorem own_shape3 {w : World} {base n : Nat} {e : TypeId} {v : Value} {xs : List Value} (h : w.ownsRow base e 3 v n xs) (hn : 0 < n) : ∃ g cap, v = .slice (some ⟨g, 0, none⟩) n cap ∧ n ≤ cap ∧ base ≤ g ∧ g < w.heap.size := by
  rcases h.2 with ⟨_, h0⟩ | ⟨g, cap, cur, rfl, hg, hh, hc, _⟩
  · omega
  · exact ⟨g, cap, rfl, hc, hg, (Array.getElem?_eq_some_iff.1 hh).1⟩
theorem own_RR {N : Nat} {w : World} {base n cap : Nat} {e : TypeId} {b : Option Addr} {L : List Rm} (h : w.ownsRow base e 3 (.slice b n cap) n (flatR N L)) (hl : L.length = n) : RR N w b L := by
  refine ⟨fun k hk => ?_⟩
  obtain ⟨g, c, hv, _⟩ := own_shape3 h (by omega)
  simp only [Value.slice.injEq] at hv
  obtain ⟨rfl, _, rfl⟩ := hv
  have hc : ∀ j u, (flatR N L)[j]? = some u → w.cell? ⟨g, j, none⟩ = some u := by
    intro j u hu
    have := h.cells (g := g) rfl j u hu
    have hadd : (⟨g, 0, none⟩ : Addr).add j = ⟨g, j, none⟩ := by unfold Addr.add; split <;> simp_all
    rwa [hadd] at this
  have hg : L[k]? = some (L.getD k rm0) := by simp [List.getD, show k < L.length by omega]
  obtain ⟨q0, q1, q2⟩ := flatR_get N L k _ hg
  exact ⟨g, 0, rfl, by rw [Nat.zero_add]; exact ⟨hc _ _ q0, hc _ _ q1, hc _ _ q2⟩⟩
/-- An item behind a row of the call's own. -/
theorem wpList_app3 {P : Program} {ops : Array Oper} {rest : List Oper} {o : Oper} {a : Act} {Q : Exit → Act → World → Prop} (hgd : o.guard = none) (s x : Operand) (t : TypeId)
    (ho : o.op = .call { callee := .builtin .append, args := #[s, x], argTypes := #[t, t] })
    (base : Nat) (e : TypeId) (i : TypeInfo) (z : Value) (bytes : Nat) (ht : P.underlying t = some (.slice e)) (hi : P.info? e = some i) (hz : i.zero = some z)
    (hsize : i.size = 3) (hby : i.bytes = bytes) (hzs : z.cells.size = 3)
    {w : World} {ra : Option Addr} {n rc : Nat} {xs : List Value} (hown : w.ownsRow base e 3 (.slice ra n rc) n xs) {ad : Addr} {cap : Nat} {r : List Value} (hl : r.length = 3) (hone : ∀ u ∈ r, u.oneCell' = true) (hnews : ∀ j u, r[j]? = some u → w.cell? (ad.add j) = some u)
    (hs : a.eval s = .slice ra n rc) (hx : a.eval x = .slice (some ad) 1 cap)
    (h63 : n + 1 ≤ 140737488355328) (hbytes : (n + 1) * bytes ≤ 140737488355328) (hbase : base ≤ w.heap.size)
    (h : ∀ (b : Option Addr) (c : Nat) (w' : World), w'.ownsRow base e 3 (.slice b (n + 1) c) (n + 1) (xs ++ r) → w.grownBy w' (Value.slice ra n rc).ownBlock → Below base w w' → wpList P ops Q rest (a.put o.dst (.slice b (n + 1) c)) w') : wpList P ops Q (o :: rest) a w := by
  refine wpList_append_own _ hgd s x t ho base e i z 3 bytes ht hi hz hsize hby hzs (by decide) _ n xs hs hown ad 1 cap r hx (by rw [hl]) hnews hone (by unfold maxLen; omega) hbytes hbase ?_
  intro v' w' h1 h2 _
  obtain ⟨b, c, rfl⟩ : ∃ b c, v' = .slice b (n + 1) c := by
    rcases h1.2 with ⟨rfl, h0⟩ | ⟨g, cp, cur, rfl, _⟩
    · exact ⟨none, 0, by rw [h0]⟩
    · exact ⟨_, _, rfl⟩
  exact h b c w' h1 h2 ((Below.refl _ _).grown h2 hbase (fun k hk => (hown.lt k hk).1))
theorem new_cells3 (w : World) (x y z : Value) (t : TypeId) : ∀ j u, ([x, y, z] : List Value)[j]? = some u → (w.alloc (.cells #[x, y, z] t)).cell? ((⟨w.heap.size, 0, none⟩ : Addr).add j) = some u := by
  intro j u hu
  have hadd : (⟨w.heap.size, 0, none⟩ : Addr).add j = ⟨w.heap.size, j, none⟩ := by unfold Addr.add; split <;> simp_all
  rw [hadd]
  have hh := heap_alloc_new w (.cells #[x, y, z] t)
  simp only [World.cell?, hh]
  simpa using hu
theorem info_item3 : (Tryd.prog.info? 141).map (fun i => (i.zero, i.size, i.bytes)) = some (some (.agg #[.int .i64 0, .bool false, .slice none 0 0]), 3, 40) := by kernel_rfl
/-- What the document's items mean: their weight, and how often each symbol lies in them. -/
structure M3 (N : Nat) (w : World) (L : List Rm) (ts : List It) : Prop where
  len : L.length = ts.length
  wt : ∀ k, k < L.length → (L.getD k rm0).wt = ((ts.getD k it0).1 : Int)
  seg : ∀ k, k < L.length → SegZ w (some ⟨(L.getD k rm0).gc, 0, none⟩) (cntR N (ts.getD k it0).2)
theorem M3.old {N : Nat} {w w' : World} {L : List Rm} {ts : List It} (h : M3 N w L ts) (hb : Below w.heap.size w w') : M3 N w' L ts := ⟨h.len, h.wt, fun k hk => (h.seg k hk).old hb⟩
theorem M3.nil (N : Nat) (w : World) : M3 N w [] [] := ⟨rfl, fun k h => by simp at h, fun k h => by simp at h⟩
theorem M3.app {N : Nat} {w : World} {L M : List Rm} {ts us : List It} (h : M3 N w L ts) (k : M3 N w M us) : M3 N w (L ++ M) (ts ++ us) := by
  have key : ∀ i, i < (L ++ M).length → ∃ x t, (L ++ M).getD i rm0 = x ∧ (ts ++ us).getD i it0 = t ∧ x.wt = (t.1 : Int) ∧ SegZ w (some ⟨x.gc, 0, none⟩) (cntR N t.2) := by
    intro i hi
    by_cases c : i < L.length
    · have e1 : (L ++ M).getD i rm0 = L.getD i rm0 := by simp [List.getD, List.getElem?_append_left c]
      have e2 : (ts ++ us).getD i it0 = ts.getD i it0 := by simp [List.getD, List.getElem?_append_left (show i < ts.length by rw [← h.len]; exact c)]
      exact ⟨_, _, e1, e2, h.wt i c, h.seg i c⟩
    · have hl := h.len
      have e1 : (L ++ M).getD i rm0 = M.getD (i - L.length) rm0 := by simp [List.getD, List.getElem?_append_right (show L.length ≤ i by omega)]
      have e2 : (ts ++ us).getD i it0 = us.getD (i - L.length) it0 := by simp [List.getD, List.getElem?_append_right (show ts.length ≤ i by omega), hl]
      have hj : i - L.length < M.length := by simp at hi; omega
      exact ⟨_, _, e1, e2, k.wt _ hj, k.seg _ hj⟩
  refine ⟨by simp [h.len, k.len], fun i hi => ?_, fun i hi => ?_⟩
  · obtain ⟨x, t, rfl, rfl, q, _⟩ := key i hi; exact q
  · obtain ⟨x, t, rfl, rfl, _, q⟩ := key i hi; exact q
theorem M3.one {N : Nat} {w : World} {x : Rm} {t : It} (h : x.wt = (t.1 : Int)) (hs : SegZ w (some ⟨x.gc, 0, none⟩) (cntR N t.2)) : M3 N w [x] [t] := by
  refine ⟨rfl, fun k hk => ?_, fun k hk => ?_⟩
  · have : k = 0 := by simp at hk; omega
    subst this; exact h
  · have : k = 0 := by simp at hk; omega
    subst this; exact hs
theorem M3.tail {N : Nat} {w : World} {x : Rm} {t : It} {L : List Rm} {ts : List It} (h : M3 N w (x :: L) (t :: ts)) : M3 N w [x] [t] ∧ M3 N w L ts :=
  ⟨M3.one (h.wt 0 (by simp)) (h.seg 0 (by simp)), ⟨by have := h.len; simpa using this, fun k hk => by have := h.wt (k + 1) (by simp; omega); simpa [List.getD] using this, fun k hk => by have := h.seg (k + 1) (by simp; omega); simpa [List.getD] using this⟩⟩
theorem M3.take {N : Nat} {w : World} {L : List Rm} {ts : List It} (h : M3 N w L ts) (m : Nat) : M3 N w (L.take m) (ts.take m) := by
  refine ⟨by simp [h.len], fun k hk => ?_, fun k hk => ?_⟩
  · simp at hk
    have := h.wt k (by omega)
    have hm : k < m := by omega
    simpa [List.getD, hm] using this
  · simp at hk
    have := h.seg k (by omega)
    have hm : k < m := by omega
    simpa [List.getD, hm] using this
end Go.Proofs.YtoeabfcnfofbiaaDoor

namespace Go.Proofs.YtoeabfcnfofbiaaDoor
open Go.RowKit
set_option linter.unusedVariables false

theorem own_below3 {w w' : World} {base n : Nat} {e : TypeId} {v : Value} {xs : List Value} (h : w.ownsRow base e 3 v n xs) (hb : Below w.heap.size w w') : w'.ownsRow base e 3 v n xs := by
  rcases h with ⟨hl, h | ⟨g, cap, cur, hv, hg, hh, rest⟩⟩
  · exact ⟨hl, .inl h⟩
  · exact ⟨hl, .inr ⟨g, cap, cur, hv, hg, by rw [hb.block g (Array.getElem?_eq_some_iff.1 hh).1]; exact hh, rest⟩⟩

def IntB (w : World) (g : Nat) : Prop := ∃ cs fr, w.heap[g]? = some (.cells cs 3 fr)
theorem IntB.keep {w w' : World} {g : Nat} (h : IntB w g) (hb : w'.heap[g]? = w.heap[g]?) : IntB w' g := by
  obtain ⟨cs, fr, h⟩ := h
  exact ⟨cs, fr, hb.trans h⟩
theorem IntB.lt {w : World} {g : Nat} (h : IntB w g) : g < w.heap.size := by
  obtain ⟨cs, fr, h⟩ := h
  exact (Array.getElem?_eq_some_iff.1 h).1
theorem own_intB {w : World} {base n g cap : Nat} {xs : List Value} (h : w.ownsRow base 3 1 (.slice (some ⟨g, 0, none⟩) n cap) n xs) : IntB w g := by
  rcases h.2 with ⟨h1, _⟩ | ⟨g', cap', cur, hv, _, hh, _⟩
  · cases h1
  · simp only [Value.slice.injEq, Option.some.injEq, Addr.mk.injEq] at hv
    obtain ⟨⟨rfl, _⟩, _⟩ := hv
    exact ⟨_, _, hh⟩
theorem apart3 {w : World} {base n g : Nat} {v : Value} {xs : List Value} (h : w.ownsRow base 141 3 v n xs) (k : IntB w g) : some g ≠ v.ownBlock := by
  intro e
  rcases h.2 with ⟨rfl, _⟩ | ⟨g', cap', cur, rfl, _, hh, _⟩
  · simp [Value.ownBlock] at e
  · simp [Value.ownBlock] at e
    subst e
    obtain ⟨cs, fr, hk⟩ := k
    rw [hh] at hk
    simp at hk
theorem M3.keep {N : Nat} {w w' : World} {L : List Rm} {ts : List It} (h : M3 N w L ts) (hk : ∀ x ∈ L, w'.heap[x.gc]? = w.heap[x.gc]?) : M3 N w' L ts :=
  ⟨h.len, h.wt, fun k hl => (h.seg k hl).of_cells fun b off i v hi ha hcl => by
    cases ha
    have hm : L.getD k rm0 ∈ L := by simp [List.getD, hl]
    rw [World.cell?_of_block (hk _ hm)]
    exact hcl⟩
theorem cnt_eq {N : Nat} {A : List Int} {l : List Nat} (h1 : A.length = N) (h2 : ∀ i, i < N → A.getD i 0 = (l.count i : Int)) : A = cntR N l := by
  apply List.ext_getElem (by rw [h1, cnt_len])
  intro i hi hi2
  have h3 := h2 i (by omega)
  have h4 := cnt_get l (show i < N by omega)
  simp only [List.getD, List.getElem?_eq_getElem hi, Option.getD_some] at h3
  simp only [List.getD, List.getElem?_eq_getElem hi2, Option.getD_some] at h4
  rw [h3, h4]
/-- Two blocks made by one statement, in one order or the other. -/
structure TwoNew (wr W : World) (gx gc N sm : Nat) : Prop where
  bw : Below wr.heap.size wr W
  ne : gx ≠ gc
  x : R3At N W gx 0 ⟨(sm : Int), false, gc⟩
  own : W.ownsRow wr.heap.size 3 1 (.slice (some ⟨gc, 0, none⟩) N N) N ((List.replicate N (0 : Int)).map (Value.int .i64))
  lo : wr.heap.size ≤ gx
theorem cell_new (w : World) (x y z : Value) (t : TypeId) : (w.alloc (.cells #[x, y, z] t)).cell? ⟨w.heap.size, 0, none⟩ = some x ∧ (w.alloc (.cells #[x, y, z] t)).cell? ⟨w.heap.size, 0 + 1, none⟩ = some y ∧ (w.alloc (.cells #[x, y, z] t)).cell? ⟨w.heap.size, 0 + 2, none⟩ = some z := by
  have hh := heap_alloc_new w (.cells #[x, y, z] t)
  refine ⟨?_, ?_, ?_⟩ <;> (simp only [World.cell?, hh]; simp)
theorem two_a (wr : World) (N sm : Nat) (hN : N ≤ 100000) : TwoNew wr ((wr.alloc (.cells (Array.replicate N (.int .i64 0)) 3)).alloc (.cells #[.int .i64 (sm : Int), .bool false, .slice (some ⟨wr.heap.size, 0, none⟩) N N] 141)).drew (wr.heap.size + 1) wr.heap.size N sm := by
  have hsz : (wr.alloc (.cells (Array.replicate N (.int .i64 0)) 3)).heap.size = wr.heap.size + 1 := by simp
  have O2 := own_zeros wr N hN
  obtain ⟨c0, c1, c2⟩ := cell_new (wr.alloc (.cells (Array.replicate N (.int .i64 0)) 3)) (.int .i64 (sm : Int)) (.bool false) (.slice (some ⟨wr.heap.size, 0, none⟩) N N) 141
  rw [hsz] at c0 c1 c2
  exact ⟨((((Below.refl _ _).alloc (Nat.le_refl _) _).alloc (by simp) _).drew), by omega, ⟨c0, c1, c2⟩, own_below O2 ((((Below.refl _ _).alloc (Nat.le_refl _) _).drew)), by omega⟩
theorem two_b (wr : World) (N sm : Nat) (hN : N ≤ 100000) : TwoNew wr ((wr.alloc (.cells #[.int .i64 (sm : Int), .bool false, .slice (some ⟨wr.heap.size + 1, 0, none⟩) N N] 141)).alloc (.cells (Array.replicate N (.int .i64 0)) 3)).drew wr.heap.size (wr.heap.size + 1) N sm := by
  have hsz : (wr.alloc (.cells #[.int .i64 (sm : Int), .bool false, .slice (some ⟨wr.heap.size + 1, 0, none⟩) N N] 141)).heap.size = wr.heap.size + 1 := by simp
  obtain ⟨c0, c1, c2⟩ := cell_new wr (.int .i64 (sm : Int)) (.bool false) (.slice (some ⟨wr.heap.size + 1, 0, none⟩) N N) 141
  have O2 := own_zeros (wr.alloc (.cells #[.int .i64 (sm : Int), .bool false, .slice (some ⟨wr.heap.size + 1, 0, none⟩) N N] 141)) N hN
  rw [hsz] at O2
  have R : R3At N (wr.alloc (.cells #[.int .i64 (sm : Int), .bool false, .slice (some ⟨wr.heap.size + 1, 0, none⟩) N N] 141)) wr.heap.size 0 ⟨(sm : Int), false, wr.heap.size + 1⟩ := ⟨c0, c1, c2⟩
  have B1 : Below wr.heap.size wr (wr.alloc (.cells #[.int .i64 (sm : Int), .bool false, .slice (some ⟨wr.heap.size + 1, 0, none⟩) N N] 141)) := (Below.refl _ _).alloc (Nat.le_refl _) _
  generalize wr.alloc (.cells #[.int .i64 (sm : Int), .bool false, .slice (some ⟨wr.heap.size + 1, 0, none⟩) N N] 141) = V at *
  have B2 : Below V.heap.size V (V.alloc (.cells (Array.replicate N (.int .i64 0)) 3)).drew := ((Below.refl _ _).alloc (Nat.le_refl _) _).drew
  exact ⟨B1.trans (B2.mono (by omega)), by omega, R.of_block (B2.block _ (by omega)), own_base O2.drew (by omega), by omega⟩

set_option maxRecDepth 100000 in
set_option maxHeartbeats 2000000 in
theorem rpacked_any (N : Nat) (hN : N ≤ 288) (a : Option Addr) (n cap : Nat) (L : List Rm) (ts : List It) (w : World) (hn : Hid (L.length = n)) (hR : RR N w a L) (hM : M3 N w L ts) (hb : ∀ t ∈ ts, t.1 ≤ 1152921504606846976 ∧ t.2.length ≤ 1152921504606846976) (hl : n ≤ 100000) :
    Calls Tryd.prog 78 #[.slice a n cap] w fun e w' => ∃ b c' L', e = .returned (.slice b L'.length c') ∧ L'.length = n / 2 ∧ L'.length ≤ c' ∧ RR N w' b L' ∧ M3 N w' L' (pk ts) ∧ Below w.heap.size w w' := by
  obtain ⟨i0, hi, hz0, hz1, hz2⟩ := info_parts info_item3
  go_enter Tryd.func78, Tryd.ntmps78
  go_wp2_with fail
  go_loopw [3, 4] (fun to ti wr => ∃ (k c : Nat) (b : Option Addr) (P : List Rm), 2 * k ≤ n ∧ ti = .int .i64 (2 * (k : Int)) ∧ to = .slice b k c ∧ Hid (P.length = k) ∧ wr.ownsRow w.heap.size 141 3 (.slice b k c) k (flatR N P) ∧ Below w.heap.size w wr ∧ Hid (M3 N wr P (pk (ts.take (2 * k))) ∧ ∀ x ∈ P, IntB wr x.gc)) (fun _ ti _ => n + 2 - (intOf ti).toNat)
  case atStart => exact ⟨0, 0, none, [], by omega, by simp, rfl, (rfl : _ = _), World.ownsRow_nil _ _ _ _, Below.refl _ _, (⟨by simpa [pk] using M3.nil N w, fun x h => by simp at h⟩ : _ ∧ _)⟩
  case round =>
    obtain ⟨k, c, b, P, hk, rfl, rfl, HPk, OR, BR, HML⟩ := hrel
    by_cases h1 : 2 * k + 1 < n
    · have h1i : 2 * (k : Int) + 1 < (n : Int) := by omega
      obtain ⟨p, hp⟩ : ∃ p, p = 2 * k := ⟨_, rfl⟩
      obtain ⟨q, hq⟩ : ∃ q, q = 2 * k + 1 := ⟨_, rfl⟩
      obtain ⟨g, off, rfl, x⟩ := hR.at_ p (by have := hn.out; omega)
      obtain ⟨g', off', e, y⟩ := hR.at_ q (by have := hn.out; omega)
      cases e
      have x2 := x.of_block (BR.block g x.lt)
      have y2 := y.of_block (BR.block g x.lt)
      have s1 := (hM.seg p (by have := hn.out; omega)).old BR
      have s2 := (hM.seg q (by have := hn.out; omega)).old BR
      have e1 := hM.wt p (by have := hn.out; omega)
      have e2 := hM.wt q (by have := hn.out; omega)
      have hlt := hM.len
      have hb1 := hb (ts.getD p it0) (by have := hn.out; simp [List.getD, show p < ts.length by omega])
      have hb2 := hb (ts.getD q it0) (by have := hn.out; simp [List.getD, show q < ts.length by omega])
      have HPK : Hid (pk (ts.take (2 * (k + 1))) = pk (ts.take (2 * k)) ++ [((ts.getD p it0).1 + (ts.getD q it0).1, (ts.getD p it0).2 ++ (ts.getD q it0).2)]) := by
        rw [hp, hq]; exact pk_snoc ts k (by have := hn.out; omega)
      generalize ts.getD p it0 = s at *
      generalize ts.getD q it0 = u at *
      generalize L.getD p rm0 = X at *
      generalize L.getD q rm0 = Y at *
      obtain ⟨X0, X1, X2⟩ := X
      obtain ⟨Y0, Y1, Y2⟩ := Y
      simp only at e1 e2
      subst e1 e2
      obtain ⟨xa, xb, xc⟩ := x2
      obtain ⟨ya, yb, yc⟩ := y2
      simp only at xa xb xc ya yb yc s1 s2
      have r0 : 2 * (k : Int) = (p : Int) := by omega
      have r1 : (p : Int) + 1 = (q : Int) := by omega
      obtain ⟨sm, hsm⟩ : ∃ sm, sm = s.1 + u.1 := ⟨_, rfl⟩
      have r3 : (s.1 : Int) + (u.1 : Int) = (sm : Int) := by omega
      have HSM : Hid (sm = s.1 + u.1) := hsm
      have HQ : Hid (q = 2 * k + 1 ∧ p = 2 * k) := ⟨hq, hp⟩
      have z1 : (p : Int) < (n : Int) := by omega
      have z2 : (q : Int) < (n : Int) := by omega
      have zs : sm ≤ 2305843009213693952 := by omega
      have hmk := run_make_ints N (by omega)
      rw [r0]
      have hgw : g < wr.heap.size := World.block_lt_of_cell? wr _ xa
      have up : ∀ (ob : Obj) (j : Nat) (v : Value), wr.cell? ⟨g, j, none⟩ = some v → (wr.alloc ob).drew.cell? ⟨g, j, none⟩ = some v := fun ob j v h => (((Below.refl wr.heap.size wr).alloc (Nat.le_refl _) ob).cell (p := ⟨g, j, none⟩) hgw).trans h
      have xa1 : ∀ ob, (wr.alloc ob).drew.cell? ⟨g, off + p * 3, none⟩ = some (.int .i64 (s.1 : Int)) := fun ob => up ob _ _ xa
      have xc1 : ∀ ob, (wr.alloc ob).drew.cell? ⟨g, off + p * 3 + 2, none⟩ = some (.slice (some ⟨X2, 0, none⟩) N N) := fun ob => up ob _ _ xc
      have ya1 : ∀ ob, (wr.alloc ob).drew.cell? ⟨g, off + q * 3, none⟩ = some (.int .i64 (u.1 : Int)) := fun ob => up ob _ _ ya
      clear hsm hq hp x y h1i up
      go_wp2_with fail
      have hok : N ≤ 100000 := by omega
      obtain ⟨hw0, hhw0⟩ : ∃ hw0, hw0 = wr.heap.size := ⟨_, rfl⟩
      go_region
      all_goals first
        | (have T := two_a wr N sm hok
           obtain ⟨W, hW⟩ : ∃ W, W = ((wr.alloc (.cells (Array.replicate N (.int .i64 0)) 3)).alloc (.cells #[.int .i64 (sm : Int), .bool false, .slice (some ⟨wr.heap.size, 0, none⟩) N N] 141)).drew := ⟨_, rfl⟩
           rw [← hW] at T ⊢
           clear hW
           generalize wr.heap.size + 1 = gx at T ⊢
           generalize wr.heap.size = gc at T ⊢)
        | (have T := two_b wr N sm hok
           obtain ⟨W, hW⟩ : ∃ W, W = ((wr.alloc (.cells #[.int .i64 (sm : Int), .bool false, .slice (some ⟨wr.heap.size + 1, 0, none⟩) N N] 141)).alloc (.cells (Array.replicate N (.int .i64 0)) 3)).drew := ⟨_, rfl⟩
           rw [← hW] at T ⊢
           clear hW
           generalize wr.heap.size + 1 = gc at T ⊢
           generalize wr.heap.size = gx at T ⊢)
      all_goals
        have B0 : Below w.heap.size w W := BR.trans (T.bw.mono BR.size)
        have HOR : Hid _ := OR
        have hgc : wr.heap.size ≤ gc ∧ gc < W.heap.size := T.own.lt gc rfl
        have hgxl : gx < W.heap.size := T.x.lt
        have o0 := T.own
        have HT : Hid (TwoNew wr W gx gc N sm) := T
        have n0 : (List.replicate N (0 : Int)).length = N := by simp
        clear T OR
        go_wp2_with fail
        go_loopw [6] (fun tj wj => ∃ (j : Nat) (A : List Int), j ≤ N ∧ tj = .int .i64 j ∧ Hid (A.length = N ∧ ∀ i, i < j → A.getD i 0 = ((s.2 ++ u.2).count i : Int)) ∧ wj.ownsRow wr.heap.size 3 1 (.slice (some ⟨gc, 0, none⟩) N N) N (A.map (Value.int .i64)) ∧ W.grownBy wj (some gc)) (fun tj _ => N - (intOf tj).toNat)
        case atStart => exact ⟨0, _, Nat.zero_le _, rfl, (⟨n0, fun i h => by omega⟩ : _ ∧ _), o0, World.grownBy.refl _ _⟩
        case round =>
          obtain ⟨j, A, hj, rfl, HA, OJ, GJ⟩ := hrel
          have BJ := HT.out.bw.trans ((Below.refl _ W).grown GJ HT.out.bw.size (fun i hi => by cases hi; exact hgc.1))
          have xcj := (BJ.cell (p := ⟨g, off + p * 3 + 2, none⟩) hgw).trans xc
          have ycj := (BJ.cell (p := ⟨g, off + q * 3 + 2, none⟩) hgw).trans yc
          obtain ⟨x0j, x1j, x2j⟩ := HT.out.x.of_block (GJ.block gx hgxl (by have := HT.out.ne; simpa using this))
          simp only [Nat.zero_add] at x0j x1j x2j
          by_cases hjN : j < N
          · have hji : (j : Int) < (N : Int) := by omega
            obtain ⟨_, _, ee1, c1⟩ := (s1.old BJ).at_ j (by rw [cnt_len]; exact hjN)
            obtain ⟨_, _, ee2, c2⟩ := (s2.old BJ).at_ j (by rw [cnt_len]; exact hjN)
            cases ee1
            cases ee2
            rw [cnt_get _ hjN, Nat.zero_add] at c1 c2
            have b1 : s.2.count j ≤ 1152921504606846976 := Nat.le_trans List.count_le_length hb1.2
            have b2 : u.2.count j ≤ 1152921504606846976 := Nat.le_trans List.count_le_length hb2.2
            have HCN : Hid ((s.2 ++ u.2).count j = s.2.count j + u.2.count j) := List.count_append ..
            generalize s.2.count j = cs at *
            generalize u.2.count j = cu at *
            obtain ⟨ct, hct⟩ : ∃ ct, ct = cs + cu := ⟨_, rfl⟩
            have r9 : (cs : Int) + (cu : Int) = (ct : Int) := by omega
            have HCT : Hid (ct = cs + cu) := hct
            have hctb : ct ≤ 2305843009213693952 := by omega
            obtain ⟨a0, fz⟩ := own_cell1 OJ (i := j) (by have := HA.out.1; omega)
            have f0 := fz j
            have HST := OJ.stored j (.int .i64 (ct : Int))
            rw [← List.map_set] at HST
            have HSS : Hid _ := HST
            clear HST hct fz
            have HA2 : Hid ((A.set j (ct : Int)).length = N ∧ ∀ i, i < j + 1 → (A.set j (ct : Int)).getD i 0 = ((s.2 ++ u.2).count i : Int)) := by
              obtain ⟨q1, q2⟩ := HA.out
              refine ⟨by simp [q1], fun i hi => ?_⟩
              by_cases e : i = j
              · subst e
                have h8 : ((s.2 ++ u.2).count i : Int) = (ct : Int) := by rw [HCN.out, HCT.out]
                rw [h8]
                simp [List.getD, show i < A.length by omega]
              · have := q2 i (by omega)
                rw [← this]
                simp [List.getD, show ¬ j = i by omega]
            clear HA
            go_wp2_with fail
            go_region
            all_goals
              go_wp2
              go_roundw
              case rel =>
                obtain ⟨o3, g3⟩ := HSS.out
                exact ⟨j + 1, A.set j (ct : Int), by omega, by go_num, HA2, o3.drew, by have h7 := GJ.trans g3; exact ⟨h7.os, h7.tape, h7.output, h7.size, h7.block⟩⟩
              case measure => simp [intOf]; omega
          · obtain rfl : N = j := by omega
            have hNi : ¬ (N : Int) < (N : Int) := by omega
            have ORj := own_below3 HOR.out BJ
            have BRj := BR.trans (BJ.mono BR.size)
            have HMj : Hid (M3 N wr P (pk (ts.take (2 * k))) ∧ ∀ x ∈ P, IntB wr x.gc) := ⟨HML.out.1.old BJ, fun x hx => (HML.out.2 x hx).keep (BJ.block _ (HML.out.2 x hx).lt)⟩
            have IG := own_intB OJ
            have HAE := cnt_eq HA.out.1 HA.out.2
            have SGC : SegZ wr (some ⟨gc, 0, none⟩) (cntR N (s.2 ++ u.2)) := by
              rw [← HAE]
              refine own_segZ OJ (fun z hz => ?_)
              rw [HAE] at hz
              unfold cntR at hz
              obtain ⟨i, _, rfl⟩ := List.mem_map.1 hz
              have h5 : (s.2 ++ u.2).count i ≤ (s.2 ++ u.2).length := List.count_le_length
              rw [List.length_append] at h5
              omega
            have HSG : Hid _ := SGC
            have hbs := BRj.size
            clear HAE SGC HA
            go_wp2_with (at_builtin; refine wpList_app3 rfl (.tmp 63) (.tmp 65) 138 rfl w.heap.size 141 i0 _ 40 Tryd.underlying138 hi hz0 hz1 hz2 rfl (ORj.alloc _) (r := Rm.cells N ⟨(sm : Int), false, gc⟩) rfl (by simp [Rm.cells, Value.oneCell']) (new_cells3 wr _ _ _ _) rfl rfl (by omega) (by omega) (by simp; omega) ?_; intro b2 c2 w3 OR2 hg2 B2)
            have B3 : Below w.heap.size w w3 := BRj.trans (((Below.refl _ _).alloc hbs _).trans B2)
            have KP : ∀ g', IntB wr g' → w3.heap[g']? = wr.heap[g']? := fun g' h => (hg2.block g' (by have := h.lt; simp; omega) (apart3 ORj h)).trans (((Below.refl _ wr).alloc (Nat.le_refl _) _).block g' h.lt)
            have HM3 : Hid (M3 N w3 (P ++ [⟨(sm : Int), false, gc⟩]) (pk (ts.take (2 * (k + 1)))) ∧ ∀ x ∈ P ++ [(⟨(sm : Int), false, gc⟩ : Rm)], IntB w3 x.gc) := by
              rw [HPK.out]
              refine ⟨(HMj.out.1.keep (fun x hx => KP _ (HMj.out.2 x hx))).app (M3.one (by show (sm : Int) = _; rw [HSM.out]) (HSG.out.of_cells fun b' off' i v hi' ha hcl => by cases ha; rw [World.cell?_of_block (KP gc IG)]; exact hcl)), fun x hx => ?_⟩
              rcases List.mem_append.1 hx with hx | hx
              · exact (HMj.out.2 x hx).keep (KP _ (HMj.out.2 x hx))
              · simp only [List.mem_singleton] at hx
                subst hx
                exact IG.keep (KP gc IG)
            have HPL : Hid ((P ++ [(⟨(sm : Int), false, gc⟩ : Rm)]).length = k + 1) := by
              have h9 := HPk.out
              show _ = _
              rw [List.length_append, h9]; rfl
            have OR3 : w3.ownsRow w.heap.size 141 3 (.slice b2 (k + 1) c2) (k + 1) (flatR N (P ++ [⟨(sm : Int), false, gc⟩])) := by
              rw [flatR_app]
              simpa [flatR] using OR2
            clear OR2 hg2 B2 KP ORj
            go_wp2
            go_roundw
            case rel => exact ⟨k + 1, c2, b2, P ++ [⟨(sm : Int), false, gc⟩], by omega, by have := HQ.out; congr 1; omega, rfl, HPL, OR3, B3, HM3⟩
            case measure => have := HQ.out; simp [intOf]; omega
    · have h1i : ¬ 2 * (k : Int) + 1 < (n : Int) := by omega
      have hk2 : k = n / 2 := by omega
      have HK2 : Hid (k = n / 2) := hk2
      have HPW : Hid (pk (ts.take (2 * k)) = pk ts) := pk_whole ts k (by have := hM.len; have := hn.out; omega) (by have := hM.len; have := hn.out; omega)
      clear hk2
      go_wp2
      go_ret
      have hPk := HPk.out
      have hml := HML.out.1
      rw [HPW.out] at hml
      exact ⟨b, c, P, by rw [hPk]; rfl, by rw [hPk]; exact HK2.out, (by have := own_facts3 OR; rw [hPk]; exact this.1), own_RR OR hPk, hml, BR⟩
end Go.Proofs.YtoeabfcnfofbiaaDoor
