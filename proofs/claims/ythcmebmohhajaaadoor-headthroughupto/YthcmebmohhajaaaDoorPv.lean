import Derived.Test.YthcmebmohhajaaaDoorPu
import Derived.Deep.RegionHeld3
import Derived.Test.YthcmebmohhajaaaDoorPm
import Derived.Test.YthcmebmohhajaaaDoorPc
import Derived.WalkLawsBesides
import Derived.Test.YthcmebmohhajaaaDoorPg
import Derived.Test.YthcmebmohhajaaaDoorPb
namespace Go.Proofs.YthcmebmohhajaaaDoor
open Go.RowKit
set_option linter.unusedVariables false

/-! The landed head: Write. -/
def WtQ (w : World) (bw B : Nat) (v : Value) (L : List Bool) (lit dist : List Int) (e : Ending) (w' : World) : Prop := e = .returned (.int .i64 (if tld8 errC lit dist then 0 else 80)) ∧ WrI w w' bw B v (L ++ if tld8 errC lit dist then hd8 lit dist else [])
set_option maxRecDepth 100000 in
theorem pwrite_nil8 (a b : Option Addr) (n m ca cb : Nat) (w : World) : Calls Tryd.prog 14 #[.pointer none, .slice a n ca, .slice b m cb] w fun e w' => e = .returned (.int .i64 2) ∧ w' = w := by
  go_enter Tryd.func14, Tryd.ntmps14
  go_wp2_with fail
  go_ret
  exact ⟨rfl, rfl⟩
theorem WrI.drew8 {W wr : World} {bw B : Nat} {v : Value} {M : List Bool} (h : WrI W wr bw B v M) : WrI W wr.drew bw B v M := h.old ((Below.refl wr.heap.size wr).drew)
theorem own_blk28 {w : World} {base n cap : Nat} {e : TypeId} {b : Option Addr} {xs : List Value} (h : w.ownsRow base e 2 (.slice b n cap) n xs) : ∀ x, b = some x → base ≤ x.block := by
  rcases h.2 with ⟨h1, _⟩ | ⟨g, cp, cur, h1, hb, _⟩
  · simp only [Value.slice.injEq] at h1
    intro x e; rw [h1.1] at e; cases e
  · simp only [Value.slice.injEq] at h1
    intro x e; rw [h1.1] at e; cases e; exact hb
theorem WrI.up {w W wr : World} {bw B : Nat} {v : Value} {M : List Bool} (hb : Below w.heap.size w W) (h : WrI W wr bw B v M) : WrI w wr bw B v M := by
  obtain ⟨v', h1, h2, h3⟩ := h
  refine ⟨v', h1, (kp_of_below hb (WS bw v)).trans (S' := WS bw v) h2 (fun _ _ e => e), fun k e => ?_⟩
  rcases h3 k e with e2 | e2
  · exact .inl e2
  · exact .inr (Nat.le_trans hb.size e2)
set_option maxRecDepth 100000 in
set_option maxHeartbeats 4000000 in
theorem pwrite8 (bw B : Nat) (v : Value) (L : List Bool) (lit dist : List Int) (a b : Option Addr) (n m ca cb : Nat) (hn : Hid (lit.length = n)) (hm : Hid (dist.length = m)) (w : World) (hw : WrL w bw B v L) (hL : L.length ≤ 1125899906800000) (hx : SegZ w a lit) (hy : SegZ w b dist) (hca : n ≤ ca) (hcb : m ≤ cb) (T : TabS w) (O : TabO w) (hbw : 2 ≤ bw) (hB : 2 ≤ B) :
    Calls Tryd.prog 14 #[.pointer (some ⟨bw, 0, none⟩), .slice a n ca, .slice b m cb] w (WtQ w bw B v L lit dist) := by
  have CP := pplan8 lit dist a b n m ca cb hn hm w hx hy hca hcb T O
  have HTS : Hid (TabS w) := T
  have HTO : Hid (TabO w) := O
  have HWR : Hid (WrL w bw B v L) := hw
  have hbl := hw.b_lt
  have HOW := hw.own_lt
  clear hx hy T O hw
  by_cases ht : tld8 errC lit dist
  · have hZ := sz8_ok ht
    have hR := runs8_ok (tld8_ok ht).2.2.1
    have hR3 : (rs8 lit dist).length ≤ 320 := by have := (tld8_ok ht).2.2.1.1; unfold rs8; omega
    have hto := tol8_bd (sz8 lit dist) 19 (by omega)
    have HHD : Hid (hd8 lit dist = bN ((sht8 lit 257).length - 257) 5 ++ bN ((sht8 dist 1).length - 1) 5 ++ bN (tol8 (sz8 lit dist) 19 - 4) 4 ++ szb8 (sz8 lit dist) (tol8 (sz8 lit dist) 19) ++ rnb8 (sz8 lit dist) (rs8 lit dist)) := rfl
    obtain ⟨_, _, _, hla, hlb⟩ := tld8_ok ht
    have HQ : Hid (∀ w', WrI w w' bw B v (L ++ hd8 lit dist) → WtQ w bw B v L lit dist (.returned (.int .i64 0)) w') := fun w' h => by
      unfold WtQ
      rw [if_pos ht, if_pos ht]
      exact ⟨rfl, h⟩
    go_enter Tryd.func14, Tryd.ntmps14
    go_wp2_with fail
    refine CP.mono ?_
    rintro e w1 ⟨hyes, _, B1⟩
    obtain ⟨za, zc, ra, rc, rfl, OZ, OR⟩ := hyes ht
    have HOKR : Hid (∀ r ∈ rs8 lit dist, ok8 r) := fun r hr => hR.1 r hr
    clear hyes ht CP hR
    generalize (sht8 lit 257).length = nA at *
    generalize (sht8 dist 1).length = nB at *
    obtain ⟨Z, hZe⟩ : ∃ Z, Z = sz8 lit dist := ⟨_, rfl⟩
    obtain ⟨R, hRe⟩ : ∃ R, R = rs8 lit dist := ⟨_, rfl⟩
    rw [← hZe, ← hRe] at HHD
    rw [← hZe] at hZ hto OZ ⊢
    rw [← hRe] at hZ hR3 OR HOKR ⊢
    clear hZe hRe
    generalize tol8 Z 19 = tq at *
    obtain ⟨kA, rfl⟩ : ∃ kA, nA = kA + 257 := ⟨nA - 257, by omega⟩
    obtain ⟨kB, rfl⟩ : ∃ kB, nB = kB + 1 := ⟨nB - 1, by omega⟩
    obtain ⟨kt, rfl⟩ : ∃ kt, tq = kt + 4 := ⟨tq - 4, by omega⟩
    rw [show kA + 257 - 257 = kA by omega, show kB + 1 - 1 = kB by omega, show kt + 4 - 4 = kt by omega] at HHD
    obtain ⟨nR, hnR⟩ : ∃ nR, nR = R.length := ⟨_, rfl⟩
    have HNR : Hid (R.length = nR) := hnR.symm
    rw [← hnR] at hR3 OR ⊢
    clear hnR
    obtain ⟨zg, rfl, hzc, hzg, hzl⟩ := own_shape1 OZ (by omega)
    obtain ⟨hZC, hZ19, hZb, _⟩ := hZ
    have HZC : Hid (errC Z = 0) := hZC
    have SZ1 : SegZ w1 (some ⟨zg, 0, none⟩) Z := own_segZ OZ (fun z hz => by
      obtain ⟨i, hi, rfl⟩ := List.mem_iff_getElem.1 hz
      have := hZb i (by rw [hZ19] at hi; exact hi)
      simp only [List.getD, List.getElem?_eq_getElem hi, Option.getD_some] at this
      omega)
    have SR1 : SegN w1 ra R := own_segN OR HNR.out
    have hrg : ∀ g o, ra = some ⟨g, o, none⟩ → w.heap.size ≤ g := fun g o e => own_blk28 OR _ e
    obtain ⟨W, hW⟩ : ∃ W, W = w1.alloc (.cells #[.int .i64 ((kA : Int) + 257), .int .i64 ((kB : Int) + 1), .slice (some ⟨zg, 0, none⟩) 19 zc, .int .i64 ((kt : Int) + 4), .slice ra nR rc] 88) := ⟨_, rfl⟩
    have HWE : Hid (w1.alloc (.cells #[.int .i64 ((kA : Int) + 257), .int .i64 ((kB : Int) + 1), .slice (some ⟨zg, 0, none⟩) 19 zc, .int .i64 ((kt : Int) + 4), .slice ra nR rc] 88) = W) := hW.symm
    have BW : Below w1.heap.size w1 W := by rw [hW]; exact below_box8 _ _
    have hPW : W.heap[w1.heap.size]? = some (.cells #[.int .i64 ((kA : Int) + 257), .int .i64 ((kB : Int) + 1), .slice (some ⟨zg, 0, none⟩) 19 zc, .int .i64 ((kt : Int) + 4), .slice ra nR rc] 88 (0, 0)) := by rw [hW]; exact heap_alloc_new _ _
    have hlW : w1.heap.size < W.heap.size := (Array.getElem?_eq_some_iff.1 hPW).1
    obtain ⟨⟨p0, p1, p2, p3, p4⟩, _⟩ := five_cells hPW
    have SZW := SZ1.old BW
    have SRW := SR1.old BW
    have xW : Below w.heap.size w W := B1.trans (BW.mono B1.size)
    have TW : TabS W := SegZ.old HTS.out xW
    have OW : TabO W := SegZ.old HTO.out xW
    have HI0 : WrI W W bw B v L := WrI.start ((show WrL w bw B v L from HWR.out).below8 xW)
    have hPs : w.heap.size ≤ w1.heap.size := B1.size
    -- what stays while the writer writes
    have HK : Hid (∀ wr, Kp (WS bw v) W wr → (wr.cell? ⟨w1.heap.size, 0, none⟩ = some (.int .i64 ((kA : Int) + 257)) ∧ wr.cell? ⟨w1.heap.size, 1, none⟩ = some (.int .i64 ((kB : Int) + 1)) ∧ wr.cell? ⟨w1.heap.size, 2, none⟩ = some (.slice (some ⟨zg, 0, none⟩) 19 zc) ∧ wr.cell? ⟨w1.heap.size, 3, none⟩ = some (.int .i64 ((kt : Int) + 4)) ∧ wr.cell? ⟨w1.heap.size, 4, none⟩ = some (.slice ra nR rc)) ∧ SegZ wr (some ⟨zg, 0, none⟩) Z ∧ SegN wr ra R ∧ TabS wr ∧ TabO wr) := fun wr hk => by
      have hfar : ∀ k, w.heap.size ≤ k → ¬ WS bw v k := fun k hk2 e => by
        rcases e with e | e
        · omega
        · have := (HOW k e).2.1; omega
      have hlow : ∀ k, k < 2 → ¬ WS bw v k := fun k hk2 e => by
        rcases e with e | e
        · omega
        · have := (HOW k e).1; omega
      refine ⟨⟨hk.cellN p0 (hfar w1.heap.size hPs), hk.cellN p1 (hfar w1.heap.size hPs), hk.cellN p2 (hfar w1.heap.size hPs), hk.cellN p3 (hfar w1.heap.size hPs), hk.cellN p4 (hfar w1.heap.size hPs)⟩, SZW.kp hk (fun g o e _ => by cases e; exact hfar _ hzg), SRW.kp hk (fun g o e => hfar _ (hrg g o e)), SegZ.kp TW hk (fun g o e _ => by cases e; exact hlow 0 (by omega)), SegZ.kp OW hk (fun g o e _ => by cases e; exact hlow 1 (by omega))⟩
    clear OZ OR SZ1 SR1 hPW p0 p1 p2 p3 p4 SZW SRW TW OW BW hW
    have HKA : Hid (kA < 2 ^ 5 ∧ kB < 2 ^ 5 ∧ kt < 2 ^ 4) := ⟨by omega, by omega, by omega⟩
    go_wp2_with fail
    rw [HWE.out]
    refine (put8 HI0 kA 5 HKA.out.1 (by omega) (by omega)).mono ?_
    rintro e w2 ⟨rfl, HI1⟩
    obtain ⟨⟨q0, q1, q2, q3, q4⟩, _⟩ := HK.out w2 HI1.kp
    clear HWE HI0
    go_wp2_with fail
    refine (put8 HI1 kB 5 HKA.out.2.1 (by omega) (by simp [bN_len]; omega)).mono ?_
    rintro e w3 ⟨rfl, HI2⟩
    obtain ⟨⟨q0, q1, q2, q3, q4⟩, _⟩ := HK.out w3 HI2.kp
    clear HI1
    go_wp2_with fail
    refine (put8 HI2 kt 4 HKA.out.2.2 (by omega) (by simp [bN_len]; omega)).mono ?_
    rintro e w4 ⟨rfl, HI3⟩
    obtain ⟨⟨q0, q1, q2, q3, q4⟩, _⟩ := HK.out w4 HI3.kp
    clear HI2
    obtain ⟨M3, hM3⟩ : ∃ M3, M3 = L ++ bN kA 5 ++ bN kB 5 ++ bN kt 4 := ⟨_, rfl⟩
    have HM3 : Hid (M3 = L ++ bN kA 5 ++ bN kB 5 ++ bN kt 4) := hM3
    have hM3l : M3.length = L.length + 14 := by rw [hM3]; simp [bN_len]
    rw [← hM3] at HI3
    clear hM3
    go_wp2_with fail
    go_loopw [46] (fun ti wr => ∃ i : Nat, i ≤ kt + 4 ∧ ti = .int .i64 (i : Int) ∧ WrI W wr bw B v (M3 ++ szb8 Z i)) (fun ti _ => kt + 4 - (intOf ti).toNat)
    case atStart => exact ⟨0, by omega, rfl, by rw [szb8, List.append_nil]; exact HI3⟩
    case round =>
      obtain ⟨i, hit, rfl, HI⟩ := hrel
      clear HI3 q0 q1 q2 q3 q4
      obtain ⟨⟨q0, q1, q2, q3, q4⟩, SZ, SR, TS, TO⟩ := HK.out wr HI.kp
      by_cases hlt : i < kt + 4
      · have hlti : (i : Int) < (kt : Int) + 4 := by omega
        have c0 := TabO.at8 TO i (by omega)
        have hob := ord_bd ⟨i, by omega⟩
        simp only at hob
        have KR2 : Hid (∀ w' M, WrI W w' bw B v M → w'.cell? ⟨w1.heap.size, 2, none⟩ = some (.slice (some ⟨zg, 0, none⟩) 19 zc) ∧ w'.cell? ⟨1, i, none⟩ = some (.int .i64 (ordL.getD i 0)) ∧ w'.cell? ⟨zg, (ordL.getD i 0).toNat, none⟩ = some (.int .i64 (Z.getD (ordL.getD i 0).toNat 0))) := fun w' M h => by
          obtain ⟨⟨_, _, r2, _⟩, RZ, _, _, RO⟩ := HK.out w' h.kp
          obtain ⟨zg', off', ez, cz⟩ := RZ.at_ (ordL.getD i 0).toNat (by omega)
          cases ez
          rw [Nat.zero_add] at cz
          exact ⟨r2, TabO.at8 RO i (by omega), cz⟩
        have HSB : Hid (szb8 Z (i + 1) = szb8 Z i ++ bN (Z.getD (ordL.getD i 0).toNat 0).toNat 3) := rfl
        have hl3 := szb8_len Z i
        generalize ordL.getD i 0 = oq at *
        obtain ⟨s, rfl⟩ : ∃ s : Nat, oq = (s : Int) := ⟨oq.toNat, by omega⟩
        rw [Int.toNat_natCast] at HSB KR2
        obtain ⟨zg', off', ez, cz⟩ := SZ.at_ s (by omega)
        cases ez
        rw [Nat.zero_add] at cz
        have hzb := hZb s (by omega)
        generalize Z.getD s 0 = z at *
        obtain ⟨zn, rfl⟩ : ∃ zn : Nat, z = (zn : Int) := ⟨z.toNat, by omega⟩
        rw [Int.toNat_natCast] at HSB
        have hs19 : (s : Int) < 19 := by omega
        have hi19 : (i : Int) < 19 := by omega
        have CPU := put8 (HI.drew8) zn 3 (by omega) (by omega) (by rw [List.length_append, hl3]; omega)
        rw [List.append_assoc, ← HSB.out] at CPU
        have KR : Hid (wr.cell? ⟨w1.heap.size, 2, none⟩ = some (.slice (some ⟨zg, 0, none⟩) 19 zc) ∧ wr.cell? ⟨1, i, none⟩ = some (.int .i64 (s : Int)) ∧ wr.cell? ⟨zg, s, none⟩ = some (.int .i64 (zn : Int))) := ⟨q2, c0, cz⟩
        clear HI SZ SR TS TO q0 q1 q3 q4 HSB
        go_wp2_with fail
        have r2 : wr.drew.cell? ⟨w1.heap.size, 2, none⟩ = some (.slice (some ⟨zg, 0, none⟩) 19 zc) := KR.out.1
        have r3 : wr.drew.cell? ⟨1, i, none⟩ = some (.int .i64 (s : Int)) := KR.out.2.1
        have r4 : wr.drew.cell? ⟨zg, s, none⟩ = some (.int .i64 (zn : Int)) := KR.out.2.2
        have HCV : Hid (IntKind.u64.wrap (zn : Int) = (zn : Int)) := IntWalk.u64_in _ (by omega)
        clear KR KR2 q2 c0 cz HK HOW
        go_region_law (first | (go_simp; go_at_call 33; rw [HCV.out]; refine CPU.mono ?_; rintro e w5 ⟨rfl, HI5⟩))
        all_goals
          go_wp2_with fail
          go_roundw
          case rel => exact ⟨i + 1, by omega, by go_num, HI5⟩
          case measure => simp [intOf]; omega
      · have hge : ¬ (i : Int) < (kt : Int) + 4 := by omega
        obtain rfl : i = kt + 4 := by omega
        have hl3 := szb8_len Z (kt + 4)
        obtain ⟨M4, hM4⟩ : ∃ M4, M4 = M3 ++ szb8 Z (kt + 4) := ⟨_, rfl⟩
        have HM4 : Hid (M4 = M3 ++ szb8 Z (kt + 4)) := hM4
        have hM4l : M4.length ≤ L.length + 80 := by rw [hM4, List.length_append, hl3]; omega
        rw [← hM4] at HI
        clear hM4
        have CE := newEnc_far (some ⟨zg, 0, none⟩) Z 19 zc hZ19 wr SZ (fun h => by cases h) (by omega)
        have hws := HI.size
        generalize wr = w5 at *
        clear SZ SR TS TO
        go_wp2_with fail
        refine CE.mono ?_
        rintro e w6 ⟨hE, _, B6⟩
        obtain ⟨eb, rfl, heb, hEn, hEK⟩ := hE HZC.out
        obtain ⟨v6, hw5, K5, F5⟩ := HI
        have K6 : Kp (WS bw v) W w6 := K5.trans (S' := fun _ => False) (kp_of_below B6 _) (fun _ _ e => e.elim)
        have hw6 := hw5.below8 B6
        have hb5 := hw5.b_lt
        have ho5 := hw5.own_lt
        have HK2 : Hid (∀ wr, Kp (WS bw v6) w6 wr → SegN wr ra R ∧ TabS wr ∧ En wr eb w6.heap.size Z) := fun wr hk => by
          have hk2 : Kp (WS bw v) W wr := K6.trans (S' := WS bw v6) hk (fun k hlt e => by
            rcases e with e | e
            · exact .inl e
            · rcases F5 k e with e2 | e2
              · exact .inr e2
              · omega)
          obtain ⟨_, _, h1, h2, _⟩ := HK.out wr hk2
          refine ⟨h1, h2, hEK wr ((Kp.refl (fun k => k < w5.heap.size) w6).trans (S' := WS bw v6) hk (fun k hlt e => ?_))⟩
          rcases e with e | e
          · omega
          · exact (ho5 k e).2.1
        obtain ⟨⟨r0, r1, r2, r3, r4⟩, _⟩ := HK.out w6 K6
        have HJ : Hid (∀ wr, WrI w6 wr bw B v6 (M4 ++ rnb8 Z R) → WtQ w bw B v L lit dist (.returned (.int .i64 0)) wr) := fun wr h => by
          refine HQ.out wr ?_
          have e : L ++ hd8 lit dist = M4 ++ rnb8 Z R := by
            rw [HHD.out, HM4.out, HM3.out]
            simp only [List.append_assoc]
          rw [e]
          obtain ⟨v7, h1, h2, h3⟩ := h
          exact WrI.up xW (WrI.next K6 F5 h1 h2 h3)
        have HI6 : WrI w6 w6 bw B v6 M4 := WrI.start hw6
        clear hE CE hEK hEn K5 hw5 K6 F5 HK HQ HHD HM3 HM4 r0 r1 r2 r3 hw6 B6 hws
        have hs5 : bw < w6.heap.size := by have := HI6.kp.size; obtain ⟨_, h, _⟩ := HI6; exact h.b_lt
        go_wp2_with fail
        clear r4
        go_loopw [69] (fun ti wr => ∃ i : Nat, i ≤ nR ∧ ti = .int .i64 (i : Int) ∧ WrI w6 wr bw B v6 (M4 ++ rnb8 Z (R.take i))) (fun ti _ => nR - (intOf ti).toNat)
        case atStart => exact ⟨0, by omega, rfl, by rw [List.take_zero, rnb8, List.append_nil]; exact HI6⟩
        case round =>
          obtain ⟨i, hin, rfl, HI⟩ := hrel
          clear HI6
          by_cases hlt : i < nR
          · have hlti : (i : Int) < (nR : Int) := by omega
            have hil : i < R.length := by rw [HNR.out]; exact hlt
            obtain ⟨SR, TS, hEn⟩ := HK2.out wr HI.kp
            obtain ⟨rb, off, rfl, cs, cc⟩ := SR.at_ i hil
            have HTK : Hid (R.take (i + 1) = R.take i ++ [R.getD i ⟨0, 0⟩]) := take_snocN hil
            have hok := HOKR.out (R.getD i ⟨0, 0⟩) (by simp [List.getD, hil])
            have hml : (M4 ++ rnb8 Z (R.take i)).length ≤ L.length + 8000 := by
              have := rnb8_len HZC.out (R.take i)
              rw [List.length_take] at this
              rw [List.length_append]
              omega
            have hctl := ct8_lt hok
            have HRB : Hid (M4 ++ rnb8 Z (R.take (i + 1)) = (M4 ++ rnb8 Z (R.take i)) ++ putB Z (R.getD i ⟨0, 0⟩).sy ++ bN ((R.getD i ⟨0, 0⟩).ct - lst8 (R.getD i ⟨0, 0⟩).sy).toNat (mor8 (R.getD i ⟨0, 0⟩).sy)) := by
              show _ = _
              rw [HTK.out, rnb8_app, rnb8, rnb8, List.append_nil]
              simp only [List.append_assoc]
            generalize M4 ++ rnb8 Z (R.take i) = MM at *
            generalize R.getD i ⟨0, 0⟩ = r at *
            obtain ⟨sy, ct⟩ := r
            simp only [ok8] at cs cc hok hctl HRB
            obtain ⟨s, rfl⟩ : ∃ s : Nat, sy = (s : Int) := ⟨sy.toNat, by omega⟩
            have hs19 : (s : Int) < 19 := by omega
            obtain ⟨v7, h71, h72, h73⟩ := HI
            have hb7 := h71.b_lt
            have ho7 := h71.own_lt
            obtain ⟨wA, hwA⟩ : ∃ wA, wA = wr.alloc (.cells #[.int .i64 (s : Int), .int .i64 ct] 78) := ⟨_, rfl⟩
            have HWA : Hid (wr.alloc (.cells #[.int .i64 (s : Int), .int .i64 ct] 78) = wA) := hwA.symm
            have hA : wA.heap[wr.heap.size]? = some (.cells #[.int .i64 (s : Int), .int .i64 ct] 78 (0, 0)) := by rw [hwA]; exact heap_alloc_new wr _
            have bA : Below wr.heap.size wr wA := by rw [hwA]; exact below_box8 wr _
            have cA0 : wA.cell? ⟨wr.heap.size, 0, none⟩ = some (.int .i64 (s : Int)) := (cell_of_row wA _ 0 _ _ _ hA).trans rfl
            have cA1 : wA.cell? ⟨wr.heap.size, 1, none⟩ = some (.int .i64 ct) := (cell_of_row wA _ 1 _ _ _ hA).trans rfl
            have hEA := hEn.old (bA.mono (by have := h72.size; omega))
            have CE2 := put5_any eb w6.heap.size Z (s : Int) bw B v7 MM wA hEA (h71.below8 bA) (by omega)
            have h72A : Kp (WS bw v6) w6 wA := h72.trans (S' := fun _ => False) (kp_of_below bA _) (fun _ _ e => e.elim)
            clear hwA hA bA SR TS hEn hEA h71 h72
            go_wp2_with fail
            rw [HWA.out]
            refine CE2.mono ?_
            rintro e w7 ⟨rfl, v8, h81, h82, h83⟩
            have hfarA : ¬ WS bw v7 wr.heap.size := fun e => by
              rcases e with e | e
              · omega
              · have := (ho7 _ e).2.1; omega
            have c70 := h82.cellN cA0 hfarA
            have c71 := h82.cellN cA1 hfarA
            obtain ⟨v9, h91, h92, h93⟩ := WrI.next h72A h73 h81 h82 h83
            obtain ⟨_, TS, _⟩ := HK2.out w7 h92
            obtain ⟨t0, t1, t2⟩ := TabS.at8 TS s (by omega)
            have hl1 := lst8_bd (s : Int)
            have hm1 := mor8_le (s : Int)
            have hl7 : (MM ++ putB Z (s : Int)).length ≤ L.length + 9000 := by
              have := putB_le HZC.out (s : Int)
              rw [List.length_append]
              omega
            clear CE2 h81 h82 h83 hfarA cA0 cA1 cs cc TS HWA h72A h73 HTK
            generalize sln8 (s : Int) = x0 at *
            generalize lst8 (s : Int) = x1 at *
            generalize mor8 (s : Int) = mo at *
            obtain ⟨k, rfl⟩ : ∃ k : Nat, ct = x1 + (k : Int) := ⟨(ct - x1).toNat, by omega⟩
            rw [show x1 + (k : Int) - x1 = (k : Int) by omega, Int.toNat_natCast] at hctl HRB
            have hkb : k ≤ 127 := by
              have : 2 ^ mo ≤ 2 ^ 7 := Nat.pow_le_pow_right (by omega) hm1
              omega
            have hlt7 : wr.heap.size < w7.heap.size := World.block_lt_of_cell? w7 _ c70
            have h07 : 0 < w7.heap.size := by omega
            have HI9 : WrI w6 w7 bw B v6 (MM ++ putB Z (s : Int)) := ⟨v9, h91, h92, h93⟩
            have HI10 := HI9.old (below_box8 w7 (.cells #[.int .i64 x0, .int .i64 x1, .int .i64 (mo : Int)] 92))
            have CPU := put8 HI10 k mo hctl (by omega) (by omega)
            rw [← HRB.out] at CPU
            clear HI9 HI10 h91 h92 h93 HRB
            go_wp2_with fail
            rw [show x1 + (k : Int) - x1 = (k : Int) by omega]
            refine CPU.mono ?_
            rintro e w8 ⟨rfl, HI8⟩
            go_wp2_with fail
            go_roundw
            case rel => exact ⟨i + 1, by omega, by go_num, HI8⟩
            case measure => simp [intOf]; omega
          · have hge : ¬ (i : Int) < (nR : Int) := by omega
            have hTA : R.take i = R := List.take_of_length_le (by rw [HNR.out]; omega)
            rw [hTA] at HI
            have HF := HJ.out wr HI
            clear HJ HK2
            go_wp2_with fail
            go_ret
            exact HF
  · have HF : Hid (∀ w', Below w.heap.size w w' → WtQ w bw B v L lit dist (.returned (.int .i64 80)) w') := fun w' hb => by
      unfold WtQ
      rw [if_neg ht, if_neg ht, List.append_nil]
      exact ⟨rfl, (WrI.start HWR.out).old hb⟩
    go_enter Tryd.func14, Tryd.ntmps14
    go_wp2_with fail
    refine CP.mono ?_
    rintro e w1 ⟨_, hno, B1⟩
    obtain rfl := hno ht
    clear CP hno ht
    go_wp2_with fail
    go_ret
    exact HF.out _ (B1.trans ((below_box8 w1 _).mono B1.size))
end Go.Proofs.YthcmebmohhajaaaDoor

namespace Go.Proofs.YthcmebmohhajaaaDoor
open Go.RowKit
set_option linter.unusedVariables false

/-! What a head's bits say, as mathematics (P8.8): a reader that is given a head's bits comes to its end. -/
theorem cP_cong {a b : List Int} (h : ∀ l, cC a l = cC b l) : ∀ l, cP a l = cP b l
  | 0 => rfl
  | l + 1 => by rw [cP_succ, cP_succ, cP_cong h l, h l]
theorem cS_cong {a b : List Int} (h : ∀ l, cC a l = cC b l) : ∀ l, cS a l = cS b l
  | 0 => rfl
  | l + 1 => by rw [cS_succ, cS_succ, cS_cong h l, h l]
theorem errR_cong {a b : List Int} (h : ∀ l, cC a l = cC b l) : errR a = errR b := by
  unfold errR spc tot
  rw [cP_cong h, cS_cong h, h 1]
theorem cC_rep (P : List Int) (k l : Nat) : cC (P ++ List.replicate k 0) l = cC P l := by
  by_cases hl : l = 0
  · subst hl; rfl
  · rw [cC_pos _ (by omega), cC_pos _ (by omega), List.count_append, List.count_replicate]
    have : ¬ ((0 : Int) == (l : Int)) = true := by rw [beq_iff_eq]; omega
    simp [this]
theorem sht8_get (zs : List Int) (k i : Nat) : (sht8 zs k).getD i 0 = zs.getD i 0 := by
  obtain ⟨hc, hz⟩ := cut8_zero zs zs.length
  unfold sht8
  by_cases h1 : i < cut8 zs zs.length
  · have hl : i < (zs.take (cut8 zs zs.length)).length := by rw [List.length_take]; omega
    simp only [List.getD]
    rw [List.getElem?_append_left hl, List.getElem?_take_of_lt h1]
  · have e1 : zs.getD i 0 = 0 := by
      by_cases h2 : i < zs.length
      · exact hz i (by omega) h2
      · simp only [List.getD, List.getElem?_eq_none (show zs.length ≤ i by omega), Option.getD_none]
    rw [e1]
    simp only [List.getD]
    rw [List.getElem?_append_right (by rw [List.length_take]; omega), List.getElem?_replicate]
    split <;> rfl
theorem sht8_split (zs : List Int) : zs = zs.take (cut8 zs zs.length) ++ List.replicate (zs.length - cut8 zs zs.length) 0 := by
  obtain ⟨hc, hz⟩ := cut8_zero zs zs.length
  conv => lhs; rw [← List.take_append_drop (cut8 zs zs.length) zs]
  congr 1
  rw [List.eq_replicate_iff]
  refine ⟨List.length_drop, fun z hm => ?_⟩
  obtain ⟨j, hj, rfl⟩ := List.mem_iff_getElem.1 hm
  rw [List.length_drop] at hj
  have := hz (cut8 zs zs.length + j) (by omega) (by omega)
  simp only [List.getD, List.getElem?_eq_getElem (show cut8 zs zs.length + j < zs.length by omega), Option.getD_some] at this
  simpa using this
theorem sht8_errC {zs : List Int} {k : Nat} (h : errC zs = 0) (hk : k ≤ 288) : errC (sht8 zs k) = 0 := by
  obtain ⟨h1, h2⟩ := errC_zero h
  obtain ⟨h3, h4⟩ := errS_zero h1
  have hc := (cut8_zero zs zs.length).1
  have e : errR (sht8 zs k) = 0 := by
    rw [← h2]
    refine errR_cong fun l => ?_
    conv => rhs; rw [sht8_split zs]
    unfold sht8
    rw [cC_rep, cC_rep]
  have e2 : errS (sht8 zs k) = 0 := errS_ok (by unfold sht8; rw [List.length_append, List.length_take, List.length_replicate]; omega) (fun z hz => sht8_mem h4 z hz)
  unfold errC
  rw [if_pos e2, e]
theorem tld8_sht {lit dist : List Int} (h : tld8 errC lit dist) : tld8 errC (sht8 lit 257) (sht8 dist 1) := by
  obtain ⟨_, _, _, la, lb⟩ := tld8_ok h
  exact ⟨la.1, la.2, lb.2, sht8_errC h.2.2.2.1 (by omega), sht8_errC h.2.2.2.2.1 (by omega), by rw [sht8_get]; exact h.2.2.2.2.2⟩
theorem num_cts8 {a b c : Nat} (ha : a < 32) (hb : b < 32) (hc : c < 16) (X : List Bool) : num ((bN a 5 ++ bN b 5 ++ bN c 4 ++ X).take 14) = a + 32 * b + 1024 * c := by
  rw [List.take_append_of_le_length (by simp [bN_len]), List.take_of_length_le (by simp [bN_len]), num_append, num_append, num_bN_lt (n := 5) ha, num_bN_lt (n := 5) hb, num_bN_lt (n := 4) hc]
  simp [bN_len]
/-- The sizes that are there behind k of them. -/
def zk8 (Z : List Int) : Nat → List Int
  | 0 => List.replicate 19 0
  | k + 1 => (zk8 Z k).set (ordL.getD k 0).toNat (Z.getD (ordL.getD k 0).toNat 0)
theorem zk8_len (Z : List Int) : ∀ k, (zk8 Z k).length = 19
  | 0 => List.length_replicate ..
  | k + 1 => by rw [zk8, List.length_set, zk8_len Z k]
theorem zk8_get (Z : List Int) (i : Nat) (hi : i < 19) : ∀ k, (zk8 Z k).getD i 0 = if ∃ j, j < k ∧ (ordL.getD j 0).toNat = i then Z.getD i 0 else 0
  | 0 => by
    rw [if_neg (by rintro ⟨j, h, _⟩; omega), zk8]
    simp only [List.getD, List.getElem?_replicate]
    split <;> rfl
  | k + 1 => by
    rw [zk8]
    by_cases h : (ordL.getD k 0).toNat = i
    · rw [if_pos ⟨k, by omega, h⟩, h]
      simp [List.getD, zk8_len Z k, hi]
    · have e : ∀ (p : Nat) (x : Int), p ≠ i → ((zk8 Z k).set p x).getD i 0 = (zk8 Z k).getD i 0 := fun p x hp => by
        simp only [List.getD]
        rw [List.getElem?_set_ne hp]
      rw [e _ _ h, zk8_get Z i hi k]
      have : (∃ j, j < k + 1 ∧ (ordL.getD j 0).toNat = i) ↔ ∃ j, j < k ∧ (ordL.getD j 0).toNat = i := by
        constructor
        · rintro ⟨j, h1, h2⟩
          refine ⟨j, ?_, h2⟩
          by_cases hj : j = k
          · subst hj; exact absurd h2 h
          · omega
        · rintro ⟨j, h1, h2⟩
          exact ⟨j, by omega, h2⟩
      simp only [this]
theorem ord_all8 : ∀ i : Fin 19, ∃ j : Fin 19, (ordL.getD j.val 0).toNat = i.val := by decide
theorem tol8_zero (Z : List Int) : ∀ n j, tol8 Z n ≤ j → j < n → Z.getD (ordL.getD j 0).toNat 0 = 0
  | 0, j, _, h => by omega
  | n + 1, j, h1, h2 => by
    rw [tol8] at h1
    split at h1
    · rename_i hq
      by_cases hj : j = n
      · rw [hj]; exact hq.2
      · exact tol8_zero Z n j h1 (by omega)
    · omega
theorem ext_get8 {a b : List Int} (h : a.length = b.length) (hg : ∀ i, i < a.length → a.getD i 0 = b.getD i 0) : a = b := by
  refine List.ext_getElem h fun i h1 h2 => ?_
  have := hg i h1
  simpa [List.getD, h1, h2] using this
theorem zk8_all {Z : List Int} (hZ : Z.length = 19) : zk8 Z (tol8 Z 19) = Z := by
  refine ext_get8 (by rw [zk8_len, hZ]) fun i hi => ?_
  rw [zk8_len] at hi
  rw [zk8_get Z i hi]
  split
  · rfl
  · rename_i hn
    obtain ⟨j, hj⟩ := ord_all8 ⟨i, hi⟩
    simp only at hj
    have := tol8_zero Z 19 j.val (by
      by_cases h : j.val < tol8 Z 19
      · exact absurd ⟨j.val, h, hj⟩ hn
      · omega) j.isLt
    rw [hj] at this
    exact this.symm
def szf8 (Z : List Int) (k : Nat) : Nat → List Bool
  | 0 => []
  | m + 1 => bN (Z.getD (ordL.getD k 0).toNat 0).toNat 3 ++ szf8 Z (k + 1) m
theorem szf8_split (Z : List Int) : ∀ m k, szb8 Z (k + m) = szb8 Z k ++ szf8 Z k m
  | 0, k => by simp [szf8]
  | m + 1, k => by
    have := szf8_split Z m (k + 1)
    rw [show k + (m + 1) = k + 1 + m by omega, this, szb8, szf8, List.append_assoc]
theorem szf8_len (Z : List Int) : ∀ m k, (szf8 Z k m).length = 3 * m
  | 0, k => rfl
  | m + 1, k => by rw [szf8, List.length_append, bN_len, szf8_len Z m (k + 1)]; omega
theorem num_bN_take {v k : Nat} (h : v < 2 ^ k) (X : List Bool) : num ((bN v k ++ X).take k) = v := by
  rw [List.take_append_of_le_length (by rw [bN_len]; omega), List.take_of_length_le (by rw [bN_len]; omega), num_bN_lt h]
theorem drop_bN (v k : Nat) (X : List Bool) : (bN v k ++ X).drop k = X := by
  exact List.drop_left' (bN_len v k)
/-- All sizes are taken. -/
theorem run_siz8 {Z : List Int} (hZ : Z.length = 19) (hb : ∀ i, i < 19 → 0 ≤ Z.getD i 0 ∧ Z.getD i 0 ≤ 7) (hc : errC Z = 0) (hn : ¬ ∀ z ∈ Z, z = 0) (l d : Nat) (X : List Bool) : ∀ m k, 1 ≤ m → k + m = tol8 Z 19 → Run8 ⟨1, l, d, tol8 Z 19, k, 0, zk8 Z k, []⟩ (szf8 Z k m ++ X) ⟨2, l, d, tol8 Z 19, tol8 Z 19, 0, Z, []⟩ (3 * m)
  | 0, k, h, _ => by omega
  | m + 1, k, _, hk => by
    have hT := (tol8_bd Z 19 (by omega)).2
    have ho := ord_bd8 ⟨k, by omega⟩
    simp only at ho
    obtain ⟨v, hv⟩ : ∃ v, v = (Z.getD (ordL.getD k 0).toNat 0).toNat := ⟨_, rfl⟩
    have hvb := hb (ordL.getD k 0).toNat (by omega)
    have hvi : (v : Int) = Z.getD (ordL.getD k 0).toNat 0 := by omega
    have hv8 : v < 2 ^ 3 := by show v < 8; omega
    have one : One8 ⟨1, l, d, tol8 Z 19, k, 0, zk8 Z k, []⟩ (szf8 Z k (m + 1) ++ X) (siz8 ⟨1, l, d, tol8 Z 19, k, 0, zk8 Z k, []⟩ v) 3 := by
      have := One8.siz (s := ⟨1, l, d, tol8 Z 19, k, 0, zk8 Z k, []⟩) (H := szf8 Z k (m + 1) ++ X) rfl (by rw [List.length_append, szf8_len]; omega)
      rw [szf8, ← hv, List.append_assoc, num_bN_take hv8] at this
      rw [szf8, ← hv, List.append_assoc]
      exact this
    have hdr : (szf8 Z k (m + 1) ++ X).drop 3 = szf8 Z (k + 1) m ++ X := by
      rw [szf8, List.append_assoc]
      exact drop_bN _ 3 _
    have hsz : ssz8 ⟨1, l, d, tol8 Z 19, k, 0, zk8 Z k, []⟩ v = zk8 Z (k + 1) := by
      unfold ssz8
      rw [hvi]
      rfl
    by_cases hm : m = 0
    · subst hm
      have hkT : k + 1 = tol8 Z 19 := hk
      have e : siz8 ⟨1, l, d, tol8 Z 19, k, 0, zk8 Z k, []⟩ v = ⟨2, l, d, tol8 Z 19, tol8 Z 19, 0, Z, []⟩ := by
        unfold siz8
        rw [hsz, hkT, zk8_all hZ, if_pos rfl, if_neg (by rintro (h | h); exact hn h; exact h hc)]
      rw [e] at one
      show Run8 _ _ _ (3 + 0)
      exact .cons one .nil
    · have hkT : ¬ k + 1 = tol8 Z 19 := by omega
      have e : siz8 ⟨1, l, d, tol8 Z 19, k, 0, zk8 Z k, []⟩ v = ⟨1, l, d, tol8 Z 19, k + 1, 0, zk8 Z (k + 1), []⟩ := by
        unfold siz8
        rw [hsz, if_neg hkT]
      rw [e] at one
      have := run_siz8 hZ hb hc hn l d X m (k + 1) (by omega) (by omega)
      rw [← hdr] at this
      have h2 := Run8.cons one this
      rw [show 3 * (m + 1) = 3 + 3 * m by omega]
      exact h2
theorem end8_last : ∀ out : List Int, end8 out = out.getLastD 0
  | [] => rfl
  | [x] => rfl
  | x :: y :: r => by
    have := end8_last (y :: r)
    rw [end8, this]
    · simp [List.getLastD]
    · intro h; cases h
theorem lng8_le : ∀ (R : List Rn8) (out full : List Int), lng8 R out = some full → out.length ≤ full.length ∧ (R ≠ [] → (∀ r ∈ R, ok8 r) → out.length < full.length)
  | [], out, full, h => by
    rw [lng8] at h
    cases h
    exact ⟨Nat.le_refl _, fun h => absurd rfl h⟩
  | r :: R, out, full, h => by
    rw [lng8] at h
    split at h
    · cases h
    · split at h
      · cases h
      · have := (lng8_le R _ full h).1
        rw [List.length_append, List.length_replicate] at this
        refine ⟨by omega, fun _ hr => ?_⟩
        obtain ⟨h1, h2, h3, h4⟩ := hr r (List.mem_cons_self ..)
        have : 1 ≤ lst8 r.sy := by unfold lst8; split <;> (try split) <;> omega
        omega
theorem beg_put8 {Z : List Int} (hc : errC Z = 0) {x : Nat} (hx : x < Z.length) (h0 : Z.getD x 0 ≠ 0) (X : List Bool) : Beg Z (putB Z (x : Int) ++ X) x := by
  have : Beg Z (putB Z (x : Int)) x := ⟨hx, h0, by rw [putB_lenIn hc hx]; exact Nat.le_refl _, putB_vB hc hx⟩
  exact this.app X
/-- All runs are taken. -/
theorem run_rns8 {Z : List Int} (hZ : Z.length = 19) (hc : errC Z = 0) (l d T : Nat) (full : List Int) (hf : full.length = l + d) (ht : tld8 errC (full.take l) (full.drop l)) (X : List Bool) : ∀ (R : List Rn8) (out : List Int) (sy : Nat), R ≠ [] → lng8 R out = some full → (∀ r ∈ R, ok8 r) → (∀ r ∈ R, Z.getD r.sy.toNat 0 ≠ 0) → ∃ sy', Run8 ⟨2, l, d, T, T, sy, Z, out⟩ (rnb8 Z R ++ X) ⟨4, l, d, T, T, sy', Z, full⟩ (rnb8 Z R).length
  | [], _, _, h, _, _, _ => absurd rfl h
  | r :: R, out, sy, _, hl, hok, hnz => by
    obtain ⟨h1, h2, h3, h4⟩ := hok r (List.mem_cons_self ..)
    obtain ⟨x, hx⟩ : ∃ x : Nat, (x : Int) = r.sy := ⟨r.sy.toNat, by omega⟩
    have hxt : r.sy.toNat = x := by omega
    have hz := hnz r (List.mem_cons_self ..)
    rw [hxt] at hz
    rw [lng8] at hl
    split at hl
    · cases hl
    rename_i hb
    split at hl
    · cases hl
    rename_i h320
    obtain ⟨out', ho'⟩ : ∃ o, o = out ++ List.replicate r.ct.toNat (val8 r out) := ⟨_, rfl⟩
    rw [← ho'] at hl h320
    have hlen : out'.length = out.length + r.ct.toNat := by rw [ho', List.length_append, List.length_replicate]
    obtain ⟨g1, g2⟩ := lng8_le R out' full hl
    have hl1 : 1 ≤ lst8 r.sy := by unfold lst8; split <;> (try split) <;> omega
    -- what is laid down
    have hlay : lay8 ⟨3, l, d, T, T, x, Z, out⟩ r.ct.toNat = ⟨if R = [] then 4 else 2, l, d, T, T, x, Z, out'⟩ ∧ lay8 ⟨2, l, d, T, T, x, Z, out⟩ r.ct.toNat = ⟨if R = [] then 4 else 2, l, d, T, T, x, Z, out'⟩ := by
      have hv : ∀ n, vls8 ⟨n, l, d, T, T, x, Z, out⟩ = val8 r out := by
        intro n
        unfold vls8 val8
        simp only
        by_cases q : x = 16
        · rw [if_pos q, if_pos (show r.sy = 16 by omega), end8_last]
        · rw [if_neg q, if_neg (show ¬ r.sy = 16 by omega)]
          by_cases q2 : 16 < x
          · rw [if_pos q2, if_pos (show 15 < r.sy by omega)]
          · rw [if_neg q2, if_neg (show ¬ 15 < r.sy by omega)]; exact hx
      have key : ∀ n, lay8 ⟨n, l, d, T, T, x, Z, out⟩ r.ct.toNat = ⟨if R = [] then 4 else 2, l, d, T, T, x, Z, out'⟩ := by
        intro n
        unfold lay8
        simp only [hv n]
        rw [if_neg (by omega), ← ho']
        by_cases q : R = []
        · subst q
          rw [lng8] at hl
          cases hl
          rw [if_pos (by omega), if_pos ht, if_pos rfl]
        · have := g2 q (fun r hr => hok r (List.mem_cons_of_mem _ hr))
          rw [if_neg (by omega), if_neg q]
      exact ⟨key 3, key 2⟩
    have hout16 : ¬ (x = 16 ∧ out = []) := by
      rintro ⟨e1, e2⟩
      refine hb ?_
      unfold bad8
      rw [e2]
      right; right; right; right
      exact ⟨by omega, rfl⟩
    have hbeg := beg_put8 hc (x := x) (by omega) hz (bN (r.ct - lst8 r.sy).toNat (mor8 r.sy) ++ (rnb8 Z R ++ X))
    have hbits : rnb8 Z (r :: R) ++ X = putB Z (x : Int) ++ (bN (r.ct - lst8 r.sy).toNat (mor8 r.sy) ++ (rnb8 Z R ++ X)) := by
      rw [rnb8, hx]
      simp only [List.append_assoc]
    have hpl : (putB Z (x : Int)).length = ln Z x := putB_lenIn hc (by omega)
    have o1 := One8.sym (s := ⟨2, l, d, T, T, sy, Z, out⟩) rfl hbeg
    simp only at o1
    have hdr1 : (putB Z (x : Int) ++ (bN (r.ct - lst8 r.sy).toNat (mor8 r.sy) ++ (rnb8 Z R ++ X))).drop (ln Z x) = bN (r.ct - lst8 r.sy).toNat (mor8 r.sy) ++ (rnb8 Z R ++ X) := List.drop_left' hpl
    have hrl : (rnb8 Z (r :: R)).length = ln Z x + (mor8 r.sy + (rnb8 Z R).length) := by
      rw [rnb8, List.length_append, List.length_append, bN_len, ← hx, hpl]
      omega
    -- to the end of this run
    have hrun : Run8 ⟨2, l, d, T, T, sy, Z, out⟩ (rnb8 Z (r :: R) ++ X) ⟨if R = [] then 4 else 2, l, d, T, T, x, Z, out'⟩ (ln Z x + mor8 r.sy) := by
      rw [hbits]
      by_cases q : 16 ≤ x
      · have e : sym8 ⟨2, l, d, T, T, sy, Z, out⟩ x = ⟨3, l, d, T, T, x, Z, out⟩ := by unfold sym8; rw [if_neg hout16, if_pos q]
        rw [e] at o1
        have o2 := One8.mor (s := ⟨3, l, d, T, T, x, Z, out⟩) (H := bN (r.ct - lst8 r.sy).toNat (mor8 r.sy) ++ (rnb8 Z R ++ X)) rfl (by simp only; rw [hx, List.length_append, bN_len]; omega)
        simp only [hx] at o2
        rw [num_bN_take (ct8_lt ⟨h1, h2, h3, h4⟩), show (lst8 r.sy).toNat + (r.ct - lst8 r.sy).toNat = r.ct.toNat by omega, hlay.1] at o2
        refine .cons o1 ?_
        rw [hdr1]
        have := Run8.cons o2 .nil
        simpa using this
      · have e : sym8 ⟨2, l, d, T, T, sy, Z, out⟩ x = lay8 ⟨2, l, d, T, T, x, Z, out⟩ 1 := by unfold sym8; rw [if_neg hout16, if_neg q]
        have hls : lst8 r.sy = 1 := by unfold lst8; rw [if_neg (by omega), if_neg (by omega)]
        have hgr : grt8 r.sy = 1 := by unfold grt8; rw [if_neg (by omega), if_neg (by omega), if_neg (by omega)]
        have hmo : mor8 r.sy = 0 := by unfold mor8; rw [if_neg (by omega), if_neg (by omega), if_neg (by omega)]
        have hct : r.ct.toNat = 1 := by omega
        have hl2 := hlay.2
        rw [hct] at hl2
        rw [e, hl2] at o1
        have h2 := Run8.cons o1 .nil
        rw [show ln Z x + mor8 r.sy = ln Z x + 0 by rw [hmo]]
        exact h2
    by_cases q : R = []
    · rw [if_pos q] at hrun
      subst q
      rw [lng8] at hl
      cases hl
      refine ⟨x, ?_⟩
      rw [hrl]
      simpa [rnb8] using hrun
    · rw [if_neg q] at hrun
      obtain ⟨sy', h⟩ := run_rns8 hZ hc l d T full hf ht X R out' x q hl (fun r hr => hok r (List.mem_cons_of_mem _ hr)) (fun r hr => hnz r (List.mem_cons_of_mem _ hr))
      refine ⟨sy', ?_⟩
      rw [hrl, ← Nat.add_assoc]
      refine hrun.trans ?_
      have hdr2 : (rnb8 Z (r :: R) ++ X).drop (ln Z x + mor8 r.sy) = rnb8 Z R ++ X := by
        rw [hbits, ← List.drop_drop, hdr1]
        exact drop_bN _ _ _
      rw [hdr2]
      exact h
set_option maxHeartbeats 1000000 in
/-- THE HEAD's BITS COME BACK: a reader that has read nothing comes to the end of a head just behind its bits. -/
theorem hd_run8 {lit dist : List Int} (h : tld8 errC lit dist) (X : List Bool) : ∃ sy, Run8 ini8 (hd8 lit dist ++ X) ⟨4, (sht8 lit 257).length, (sht8 dist 1).length, tol8 (sz8 lit dist) 19, tol8 (sz8 lit dist) 19, sy, sz8 lit dist, rw8 lit dist⟩ (hd8 lit dist).length := by
  obtain ⟨_, _, hm, la, lb⟩ := tld8_ok h
  obtain ⟨z1, z2, z3, z4⟩ := sz8_ok h
  have hT := tol8_bd (sz8 lit dist) 19 (by omega)
  have hro := (runs8_ok hm).1
  have hrl := lens8_runs8 hm.2 hm.1
  have hne : rs8 lit dist ≠ [] := by
    intro e
    have hq : lens8 (rs8 lit dist) = some (rw8 lit dist) := by unfold rs8; exact hrl
    rw [e] at hq
    have hnil : ∀ o : List Int, lens8 [] = some o → o = [] := fun o h => by unfold lens8 at h; rw [lng8] at h; injection h with h; exact h.symm
    have := hnil _ hq
    have := congrArg List.length this
    unfold rw8 at this
    rw [List.length_append] at this
    simp only [List.length_nil] at this
    omega
  have hnz : ¬ ∀ z ∈ sz8 lit dist, z = 0 := by
    intro hq
    obtain ⟨r, hr⟩ := List.exists_mem_of_ne_nil _ hne
    refine z4 r hr ?_
    by_cases hi : r.sy.toNat < (sz8 lit dist).length
    · have hm2 : (sz8 lit dist).getD r.sy.toNat 0 ∈ sz8 lit dist := by simp only [List.getD, List.getElem?_eq_getElem hi, Option.getD_some]; exact List.getElem_mem hi
      exact hq _ hm2
    · simp only [List.getD, List.getElem?_eq_none (Nat.le_of_not_lt hi), Option.getD_none]
  have hts := tld8_sht h
  generalize hA : (sht8 lit 257).length = a at *
  generalize hB : (sht8 dist 1).length = b at *
  generalize hTT : tol8 (sz8 lit dist) 19 = T at *
  have htake : (rw8 lit dist).take a = sht8 lit 257 := by unfold rw8; exact List.take_left' hA
  have hdrop : (rw8 lit dist).drop a = sht8 dist 1 := by unfold rw8; exact List.drop_left' hA
  obtain ⟨sy, hruns⟩ := run_rns8 z2 z1 a b T (rw8 lit dist) (by unfold rw8; rw [List.length_append, hA, hB]) (by rw [htake, hdrop]; exact hts) X (rs8 lit dist) [] 0 hne (by unfold rs8; exact hrl) (by unfold rs8; exact hro) z4
  have hsizes := run_siz8 z2 z3 z1 hnz a b (rnb8 (sz8 lit dist) (rs8 lit dist) ++ X) T 0 (by omega) (by rw [hTT]; omega)
  rw [hTT] at hsizes
  have hspl := szf8_split (sz8 lit dist) T 0
  rw [Nat.zero_add] at hspl
  have hbits : hd8 lit dist ++ X = bN (a - 257) 5 ++ bN (b - 1) 5 ++ bN (T - 4) 4 ++ (szf8 (sz8 lit dist) 0 T ++ (rnb8 (sz8 lit dist) (rs8 lit dist) ++ X)) := by
    unfold hd8
    rw [hA, hB, hTT, hspl]
    simp [szb8]
  have o1 := One8.cts (s := ini8) (H := bN (a - 257) 5 ++ bN (b - 1) 5 ++ bN (T - 4) 4 ++ (szf8 (sz8 lit dist) 0 T ++ (rnb8 (sz8 lit dist) (rs8 lit dist) ++ X))) rfl (by simp only [List.length_append, bN_len]; omega)
  rw [num_cts8 (by omega) (by omega) (by omega)] at o1
  have e : cts8 ini8 (a - 257 + 32 * (b - 1) + 1024 * (T - 4)) = ⟨1, a, b, T, 0, 0, zk8 (sz8 lit dist) 0, []⟩ := by
    have e1 : (a - 257 + 32 * (b - 1) + 1024 * (T - 4)) % 32 = a - 257 := by omega
    have e2 : (a - 257 + 32 * (b - 1) + 1024 * (T - 4)) / 32 % 32 = b - 1 := by omega
    have e3 : (a - 257 + 32 * (b - 1) + 1024 * (T - 4)) / 1024 = T - 4 := by omega
    unfold cts8 ini8
    rw [e1, e2, e3, if_neg (by omega), show 257 + (a - 257) = a by omega, show 1 + (b - 1) = b by omega, show 4 + (T - 4) = T by omega]
    rfl
  rw [e] at o1
  refine ⟨sy, ?_⟩
  have hlen : (hd8 lit dist).length = 14 + (3 * T + (rnb8 (sz8 lit dist) (rs8 lit dist)).length) := by
    unfold hd8
    rw [hTT]
    simp only [List.length_append, bN_len, szb8_len]
    omega
  rw [hlen, hbits]
  refine .cons o1 ?_
  have hdr : (bN (a - 257) 5 ++ bN (b - 1) 5 ++ bN (T - 4) 4 ++ (szf8 (sz8 lit dist) 0 T ++ (rnb8 (sz8 lit dist) (rs8 lit dist) ++ X))).drop 14 = szf8 (sz8 lit dist) 0 T ++ (rnb8 (sz8 lit dist) (rs8 lit dist) ++ X) := List.drop_left' (by simp [bN_len])
  rw [hdr]
  refine hsizes.trans ?_
  rw [List.drop_left' (szf8_len _ T 0)]
  exact hruns
end Go.Proofs.YthcmebmohhajaaaDoor

namespace Go.Proofs.YthcmebmohhajaaaDoor
open Go.RowKit
set_option linter.unusedVariables false

/-! A head's bits, counted. -/
theorem rnb8_cost {Z : List Int} (h : errC Z = 0) (hl : Z.length = 19) : ∀ R : List Rn8, (∀ r ∈ R, ok8 r) → (rnb8 Z R).length = cb8 Z R
  | [], _ => rfl
  | r :: R, hr => by
    have hok := hr r (by simp)
    have h1 := putB_cost h r.sy
    obtain ⟨s, hs⟩ : ∃ s : Nat, r.sy = (s : Int) := ⟨r.sy.toNat, by unfold ok8 at hok; omega⟩
    have hs19 : s < 19 := by unfold ok8 at hok; omega
    rw [hs, costV_in (by omega)] at h1
    rw [rnb8, cb8, List.length_append, List.length_append, bN_len, rnb8_cost h hl R fun x hx => hr x (by simp [hx]), hs, Int.toNat_natCast]
    omega
theorem hd8_len {lit dist : List Int} (h : tld8 errC lit dist) : (hd8 lit dist).length = cst8 lit dist := by
  have hZ := sz8_ok h
  have hR := (runs8_ok (tld8_ok h).2.2.1).1
  unfold hd8 cst8
  simp only [List.length_append, bN_len, szb8_len]
  have hc := rnb8_cost hZ.1 hZ.2.1 (rs8 lit dist) hR
  omega
end Go.Proofs.YthcmebmohhajaaaDoor

namespace Go.Proofs.YthcmebmohhajaaaDoor
open Go.RowKit
set_option linter.unusedVariables false

/-! The law's helpers: told (at lengths that can't be told), begins. -/
set_option maxRecDepth 100000 in
set_option maxHeartbeats 1000000 in
theorem told8n (L D : List Int) (a1 a2 : Option Addr) (l d c1 c2 : Nat) (hl : Hid (L.length = l)) (hd : Hid (D.length = d)) (w : World) (s1 : SegZ w a1 L) (s2 : SegZ w a2 D) (hl1 : l ≤ 1000000000000) (hd1 : d ≤ 1000000000000) (ht : ¬ tld8 errC L D) :
    Calls Tryd.prog 15 #[.slice a1 l c1, .slice a2 d c2] w fun e w' => e = .returned (.bool false) ∧ Below w.heap.size w w' := by
  have hl' := hl.out
  have hd' := hd.out
  have HT : Hid (¬ tld8 errC L D) := ht
  clear ht
  have C1 := check_any a1 L l c1 hl w s1 (by omega)
  by_cases t1 : 257 ≤ l
  · have i1 : (257 : Int) ≤ (l : Int) := by omega
    by_cases t2 : l ≤ 286
    · have i2 : (l : Int) ≤ 286 := by omega
      by_cases t3 : d ≤ 30
      · have i3 : (d : Int) ≤ 30 := by omega
        by_cases t4 : errC L = 0
        · rw [t4] at C1
          go_enter Tryd.func15, Tryd.ntmps15
          go_wp2_with fail
          refine C1.mono ?_
          rintro e w1 ⟨rfl, b1⟩
          have C2 := check_any a2 D d c2 hd w1 (s2.old b1) (by omega)
          clear C1
          by_cases t5 : errC D = 0
          · rw [t5] at C2
            go_wp2_with fail
            refine C2.mono ?_
            rintro e w2 ⟨rfl, b2⟩
            have b12 := b1.trans (b2.mono b1.size)
            obtain ⟨g, o, rfl, c0⟩ := (s1.old b12).at_ 256 (by omega)
            have hz : L.getD 256 0 = 0 := by
              by_cases h : L.getD 256 0 = 0
              · exact h
              · exact absurd ⟨by omega, by omega, by omega, t4, t5, h⟩ HT.out
            rw [hz] at c0
            clear C2 t4 t5 s1 s2 HT
            go_wp2_with fail
            go_ret
            exact ⟨rfl, b12⟩
          · generalize errC D = E at C2 t5
            go_wp2_with fail
            refine C2.mono ?_
            rintro e w2 ⟨rfl, b2⟩
            have b12 := b1.trans (b2.mono b1.size)
            clear C2 s1 s2 HT
            go_wp2_with fail
            go_ret
            exact ⟨rfl, b12⟩
        · generalize errC L = E at C1 t4
          go_enter Tryd.func15, Tryd.ntmps15
          go_wp2_with fail
          refine C1.mono ?_
          rintro e w1 ⟨rfl, b1⟩
          clear C1 s1 s2 HT
          go_wp2_with fail
          go_ret
          exact ⟨rfl, b1⟩
      · have i3 : ¬ (d : Int) ≤ 30 := by omega
        go_enter Tryd.func15, Tryd.ntmps15
        go_wp2_with fail
        go_ret
        exact ⟨rfl, Below.refl _ _⟩
    · have i2 : ¬ (l : Int) ≤ 286 := by omega
      go_enter Tryd.func15, Tryd.ntmps15
      go_wp2_with fail
      go_ret
      exact ⟨rfl, Below.refl _ _⟩
  · have i1 : ¬ (257 : Int) ≤ (l : Int) := by omega
    go_enter Tryd.func15, Tryd.ntmps15
    go_wp2_with fail
    go_ret
    exact ⟨rfl, Below.refl _ _⟩
set_option maxRecDepth 100000 in
set_option maxHeartbeats 1000000 in
theorem begins8 (L D : List Int) (a1 a2 : Option Addr) (l d c1 c2 : Nat) (hl : Hid (L.length = l)) (hd : Hid (D.length = d)) (w : World) (s1 : SegZ w a1 L) (s2 : SegZ w a2 D) (hl1 : l ≤ 1000000000000) (h : ∀ i, i < l → L.getD i 0 = D.getD i 0) :
    Calls Tryd.prog 21 #[.slice a1 l c1, .slice a2 d c2] w fun e w' => e = .returned (.bool true) ∧ w' = w := by
  have HH : Hid (∀ i, i < l → L.getD i 0 = D.getD i 0) := h
  clear h
  go_enter Tryd.func21, Tryd.ntmps21
  go_wp2_with fail
  go_loopw [5] (fun ti wr => ∃ i : Nat, i ≤ l ∧ ti = .int .i64 (i : Int) ∧ wr = w) (fun ti _ => l - (intOf ti).toNat)
  case atStart => exact ⟨0, by omega, rfl, rfl⟩
  case round =>
    obtain ⟨i, hin, rfl, hwr⟩ := hrel
    have hwr2 : w = wr := hwr.symm
    subst hwr2
    clear hwr
    by_cases hlt : i < l
    · have hlti : (i : Int) < (l : Int) := by omega
      obtain ⟨g, o, rfl, c0⟩ := s1.at_ i (by have := hl.out; omega)
      have he := HH.out i hlt
      by_cases hd2 : i < d
      · have hdi : (i : Int) < (d : Int) := by omega
        obtain ⟨g2, o2, rfl, e0⟩ := s2.at_ i (by have := hd.out; omega)
        rw [he] at c0
        generalize D.getD i 0 = z at c0 e0
        clear he
        go_wp2_with fail
        go_roundw
        case rel => exact ⟨i + 1, by omega, by go_num, trivial⟩
        case measure => simp [intOf]; omega
      · have hdi : ¬ (i : Int) < (d : Int) := by omega
        have hz : D.getD i 0 = 0 := by simp only [List.getD, List.getElem?_eq_none (show D.length ≤ i by have := hd.out; omega), Option.getD_none]
        rw [he, hz] at c0
        clear he hz
        go_wp2_with fail
        go_roundw
        case rel => exact ⟨i + 1, by omega, by go_num, trivial⟩
        case measure => simp [intOf]; omega
    · obtain rfl : i = l := by omega
      go_wp2_with fail
      go_ret
      exact ⟨rfl, rfl⟩
end Go.Proofs.YthcmebmohhajaaaDoor

namespace Go.Proofs.YthcmebmohhajaaaDoor
open Go.RowKit
set_option linter.unusedVariables false

def lentZ (zs : List Int) : List Int := zs ++ [71, 72, 73, 74]
theorem lentZ_bd {zs : List Int} (h : ∀ z ∈ zs, -9223372036854775808 ≤ z ∧ z ≤ 9223372036854775807) : ∀ z ∈ lentZ zs, -9223372036854775808 ≤ z ∧ z ≤ 9223372036854775807 := by
  intro z hz
  unfold lentZ at hz
  rw [List.mem_append] at hz
  rcases hz with hz | hz
  · exact h z hz
  · simp at hz; omega
theorem seg_four (w : World) : SegZ (w.alloc (.cells #[.int .i64 71, .int .i64 72, .int .i64 73, .int .i64 74] 3)) (some ⟨w.heap.size, 0, none⟩) [71, 72, 73, 74] := by
  refine ⟨fun i hi => ⟨w.heap.size, 0, rfl, ?_⟩, getD_bdz (by intro z hz; simp at hz; omega)⟩
  simp only [List.length_cons, List.length_nil] at hi
  match i, hi with
  | 0, _ => simp
  | 1, _ => simp
  | 2, _ => simp
  | 3, _ => simp

end Go.Proofs.YthcmebmohhajaaaDoor

namespace Go.Proofs.YthcmebmohhajaaaDoor
open Go.RowKit
set_option linter.unusedVariables false

/-! Layer 8's helpers: Same, lend, alike. -/
theorem below_drewN8 {B : Nat} {w w' : World} (h : Below B w w') (n : Nat) : Below B w (w'.drewN n) := ⟨h.os, h.tape, h.output, h.size, h.block⟩
set_option maxRecDepth 100000 in
set_option maxHeartbeats 400000 in
theorem same8 (a b : Option Addr) (xs ys : List Int) (ca cb : Nat) (w : World) (hx : SegZ w a xs) (hy : SegZ w b ys) (hl : xs.length ≤ 9223372036854775807) (hl2 : ys.length ≤ 9223372036854775807) :
    Calls Tryd.prog 45 #[.slice a xs.length ca, .slice b ys.length cb] w fun e w' => e = .returned (.bool (xs == ys)) ∧ Below w.heap.size w w' := by
  go_enter Tryd.func45, Tryd.ntmps45
  go_wp2
  go_loopw [5] (fun ti wr => ∃ k : Nat, k ≤ xs.length ∧ k ≤ ys.length ∧ ti = .int .i64 k ∧ Hid (xs.take k = ys.take k) ∧ Below w.heap.size w wr) (fun ti _ => xs.length - (intOf ti).toNat)
  case atStart => exact ⟨0, Nat.zero_le _, Nat.zero_le _, rfl, (by simp : _ = _), Below.refl _ _⟩
  case round =>
    obtain ⟨k, hk, hk2, rfl, HE, hb⟩ := hrel
    have hx := hx.old hb
    have hy := hy.old hb
    by_cases h1 : k < xs.length
    · have h1i : (k : Int) < (xs.length : Int) := by omega
      by_cases h2 : k < ys.length
      · have h2i : (k : Int) < (ys.length : Int) := by omega
        obtain ⟨b1, o1, rfl, c1⟩ := hx.at_ k h1
        obtain ⟨b2, o2, rfl, c2⟩ := hy.at_ k h2
        have b1 := hx.bd k
        have b2 := hy.bd k
        have HT : Hid (xs.take (k + 1) = xs.take k ++ [xs.getD k 0] ∧ ys.take (k + 1) = ys.take k ++ [ys.getD k 0]) := ⟨take_snocZ h1, take_snocZ h2⟩
        have HN : Hid (xs.getD k 0 ≠ ys.getD k 0 → xs ≠ ys) := by
          intro hne e; rw [e] at hne; exact hne rfl
        generalize xs.getD k 0 = z1 at *
        generalize ys.getD k 0 = z2 at *
        by_cases hz : z1 = z2
        · subst hz
          go_wp2
          go_region
          go_wp2
          go_roundw
          case rel => exact ⟨k + 1, by omega, by omega, by go_num, (by rw [HT.out.1, HT.out.2, HE.out] : _ = _), hb.drew⟩
          case measure => simp [intOf]; omega
        · go_wp2
          go_region
          go_wp2
          go_ret
          exact ⟨by have := HN.out hz; simp [this], hb.drew⟩
      · have h2i : ¬ (k : Int) < (ys.length : Int) := by omega
        obtain rfl : k = ys.length := by omega
        have hlen : ¬ xs.length = ys.length := by omega
        have hne : xs ≠ ys := by intro e; rw [e] at hlen; exact hlen rfl
        go_wp2
        go_ret
        refine ⟨?_, hb⟩
        have : (xs == ys) = false := by simp [hne]
        rw [this]
        have : ¬ (xs.length : Int) = (ys.length : Int) := by omega
        simp [this]
    · have h1i : ¬ (k : Int) < (xs.length : Int) := by omega
      obtain rfl : k = xs.length := by omega
      go_wp2
      go_ret
      refine ⟨?_, hb⟩
      by_cases hlen : xs.length = ys.length
      · have : xs = ys := take_all_eq hlen (.inl rfl) HE.out
        subst this
        simp
      · have hne : xs ≠ ys := by intro e; rw [e] at hlen; exact hlen rfl
        have : (xs == ys) = false := by simp [hne]
        rw [this]
        have : ¬ (xs.length : Int) = (ys.length : Int) := by omega
        simp [this]
theorem snocR {R : List Rn8} {x : Nat} (h : x < R.length) : R.take (x + 1) = R.take x ++ [R.getD x ⟨0, 0⟩] := by
  rw [List.take_succ_eq_append_getElem h]; simp [List.getD, h]
def AlQ (xs ys : List Rn8) (w : World) (e : Ending) (w' : World) : Prop := ∃ r, e = .returned (.bool r) ∧ (r = true ↔ xs = ys) ∧ Below w.heap.size w w'
end Go.Proofs.YthcmebmohhajaaaDoor
