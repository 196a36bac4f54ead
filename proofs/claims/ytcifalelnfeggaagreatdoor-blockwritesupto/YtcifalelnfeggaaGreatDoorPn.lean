import Derived.Test.YtcifalelnfeggaaGreatDoorPm
import Derived.Deep.RegionHeld3
import Derived.Test.YtcifalelnfeggaaGreatDoorPh
import Derived.Test.YtcifalelnfeggaaGreatDoorPl
import Derived.Lib.SlBytesConst
import Derived.Test.YtcifalelnfeggaaGreatDoorPa
import Derived.Test.YtcifalelnfeggaaGreatDoorPg
import Derived.Test.YtcifalelnfeggaaGreatDoorPb
namespace Go.Proofs.YtcifalelnfeggaaGreatDoor
open Go.RowKit
set_option linter.unusedVariables false

/-! The landed head: Write. -/
def WtQ (w : World) (bw B : Nat) (v : Value) (L : List Bool) (lit dist : List Int) (e : Ending) (w' : World) : Prop := e = .returned (.int .i64 (if tld8 errC lit dist then 0 else 80)) ∧ WrI w w' bw B v (L ++ if tld8 errC lit dist then hd8 lit dist else [])
set_option maxRecDepth 100000 in
theorem pwrite_nil8 (a b : Option Addr) (n m ca cb : Nat) (w : World) : Calls Tryz.prog 105 #[.pointer none, .slice a n ca, .slice b m cb] w fun e w' => e = .returned (.int .i64 2) ∧ w' = w := by
  go_enter Tryz.func105, Tryz.ntmps105
  go_wp2_with fail
  go_ret
  exact ⟨rfl, rfl⟩
theorem WrI.drew8 {W wr : World} {bw B : Nat} {v : Value} {M : List Bool} (h : WrI W wr bw B v M) : WrI W wr.drew bw B v M := h.old ((Below.refl wr.heap.size wr).drew)
theorem own_blk28 {w : World} {base n cap : Nat} {e : TypeId} {b : Option Addr} {xs : List Value} (h : w.ownsRow base e 2 (.slice b n cap) n xs) : ∀ x, b = some x → base ≤ x.block := by
  rcases h.2 with ⟨h1, _⟩ | ⟨g, cp, cur, h1, hb, _⟩
  · simp only [Value.slice.injEq] at h1
    intro x e; rw [h1.1] at e; cases e
  · simp only [Value.slice.injEq] at h1
    intro x e; rw [h1.1] at e; cases e; exact hb
theorem WrI.up {w W wr : World} {bw B : Nat} {v : Value} {M : List Bool} (hb : Below w.heap.size w W) (h : WrI W wr bw B v M) : WrI w wr bw B v M := by
  obtain ⟨v', h1, h2, h3⟩ := h
  refine ⟨v', h1, (kp_of_below hb (WS bw v)).trans (S' := WS bw v) h2 (fun _ _ e => e), fun k e => ?_⟩
  rcases h3 k e with e2 | e2
  · exact .inl e2
  · exact .inr (Nat.le_trans hb.size e2)
set_option maxRecDepth 100000 in
set_option maxHeartbeats 4000000 in
theorem pwrite8 (bw B : Nat) (v : Value) (L : List Bool) (lit dist : List Int) (a b : Option Addr) (n m ca cb : Nat) (hn : Hid (lit.length = n)) (hm : Hid (dist.length = m)) (w : World) (hw : WrL w bw B v L) (hL : L.length ≤ 1125899906800000) (hx : SegZ w a lit) (hy : SegZ w b dist) (hca : n ≤ ca) (hcb : m ≤ cb) (T : TabS w) (O : TabO w) (hbw : 2 ≤ bw) (hB : 2 ≤ B) :
    Calls Tryz.prog 105 #[.pointer (some ⟨bw, 0, none⟩), .slice a n ca, .slice b m cb] w (WtQ w bw B v L lit dist) := by
  have CP := pplan8 lit dist a b n m ca cb hn hm w hx hy hca hcb T O
  have HTS : Hid (TabS w) := T
  have HTO : Hid (TabO w) := O
  have HWR : Hid (WrL w bw B v L) := hw
  have hbl := hw.b_lt
  have HOW := hw.own_lt
  clear hx hy T O hw
  by_cases ht : tld8 errC lit dist
  · have hZ := sz8_ok ht
    have hR := runs8_ok (tld8_ok ht).2.2.1
    have hR3 : (rs8 lit dist).length ≤ 320 := by have := (tld8_ok ht).2.2.1.1; unfold rs8; omega
    have hto := tol8_bd (sz8 lit dist) 19 (by omega)
    have HHD : Hid (hd8 lit dist = bN ((sht8 lit 257).length - 257) 5 ++ bN ((sht8 dist 1).length - 1) 5 ++ bN (tol8 (sz8 lit dist) 19 - 4) 4 ++ szb8 (sz8 lit dist) (tol8 (sz8 lit dist) 19) ++ rnb8 (sz8 lit dist) (rs8 lit dist)) := rfl
    obtain ⟨_, _, _, hla, hlb⟩ := tld8_ok ht
    have HQ : Hid (∀ w', WrI w w' bw B v (L ++ hd8 lit dist) → WtQ w bw B v L lit dist (.returned (.int .i64 0)) w') := fun w' h => by
      unfold WtQ
      rw [if_pos ht, if_pos ht]
      exact ⟨rfl, h⟩
    go_enter Tryz.func105, Tryz.ntmps105
    go_wp2_with fail
    refine CP.mono ?_
    rintro e w1 ⟨hyes, _, B1⟩
    obtain ⟨za, zc, ra, rc, rfl, OZ, OR⟩ := hyes ht
    have HOKR : Hid (∀ r ∈ rs8 lit dist, ok8 r) := fun r hr => hR.1 r hr
    clear hyes ht CP hR
    generalize (sht8 lit 257).length = nA at *
    generalize (sht8 dist 1).length = nB at *
    obtain ⟨Z, hZe⟩ : ∃ Z, Z = sz8 lit dist := ⟨_, rfl⟩
    obtain ⟨R, hRe⟩ : ∃ R, R = rs8 lit dist := ⟨_, rfl⟩
    rw [← hZe, ← hRe] at HHD
    rw [← hZe] at hZ hto OZ ⊢
    rw [← hRe] at hZ hR3 OR HOKR ⊢
    clear hZe hRe
    generalize tol8 Z 19 = tq at *
    obtain ⟨kA, rfl⟩ : ∃ kA, nA = kA + 257 := ⟨nA - 257, by omega⟩
    obtain ⟨kB, rfl⟩ : ∃ kB, nB = kB + 1 := ⟨nB - 1, by omega⟩
    obtain ⟨kt, rfl⟩ : ∃ kt, tq = kt + 4 := ⟨tq - 4, by omega⟩
    rw [show kA + 257 - 257 = kA by omega, show kB + 1 - 1 = kB by omega, show kt + 4 - 4 = kt by omega] at HHD
    obtain ⟨nR, hnR⟩ : ∃ nR, nR = R.length := ⟨_, rfl⟩
    have HNR : Hid (R.length = nR) := hnR.symm
    rw [← hnR] at hR3 OR ⊢
    clear hnR
    obtain ⟨zg, rfl, hzc, hzg, hzl⟩ := own_shape1 OZ (by omega)
    obtain ⟨hZC, hZ19, hZb, _⟩ := hZ
    have HZC : Hid (errC Z = 0) := hZC
    have SZ1 : SegZ w1 (some ⟨zg, 0, none⟩) Z := own_segZ OZ (fun z hz => by
      obtain ⟨i, hi, rfl⟩ := List.mem_iff_getElem.1 hz
      have := hZb i (by rw [hZ19] at hi; exact hi)
      simp only [List.getD, List.getElem?_eq_getElem hi, Option.getD_some] at this
      omega)
    have SR1 : SegN w1 ra R := own_segN OR HNR.out
    have hrg : ∀ g o, ra = some ⟨g, o, none⟩ → w.heap.size ≤ g := fun g o e => own_blk28 OR _ e
    obtain ⟨W, hW⟩ : ∃ W, W = w1.alloc (.cells #[.int .i64 ((kA : Int) + 257), .int .i64 ((kB : Int) + 1), .slice (some ⟨zg, 0, none⟩) 19 zc, .int .i64 ((kt : Int) + 4), .slice ra nR rc] 208) := ⟨_, rfl⟩
    have HWE : Hid (w1.alloc (.cells #[.int .i64 ((kA : Int) + 257), .int .i64 ((kB : Int) + 1), .slice (some ⟨zg, 0, none⟩) 19 zc, .int .i64 ((kt : Int) + 4), .slice ra nR rc] 208) = W) := hW.symm
    have BW : Below w1.heap.size w1 W := by rw [hW]; exact below_box8 _ _
    have hPW : W.heap[w1.heap.size]? = some (.cells #[.int .i64 ((kA : Int) + 257), .int .i64 ((kB : Int) + 1), .slice (some ⟨zg, 0, none⟩) 19 zc, .int .i64 ((kt : Int) + 4), .slice ra nR rc] 208 (0, 0)) := by rw [hW]; exact heap_alloc_new _ _
    have hlW : w1.heap.size < W.heap.size := (Array.getElem?_eq_some_iff.1 hPW).1
    obtain ⟨⟨p0, p1, p2, p3, p4⟩, _⟩ := five_cells hPW
    have SZW := SZ1.old BW
    have SRW := SR1.old BW
    have xW : Below w.heap.size w W := B1.trans (BW.mono B1.size)
    have TW : TabS W := SegZ.old HTS.out xW
    have OW : TabO W := SegZ.old HTO.out xW
    have HI0 : WrI W W bw B v L := WrI.start ((show WrL w bw B v L from HWR.out).below8 xW)
    have hPs : w.heap.size ≤ w1.heap.size := B1.size
    -- what stays while the writer writes
    have HK : Hid (∀ wr, Kp (WS bw v) W wr → (wr.cell? ⟨w1.heap.size, 0, none⟩ = some (.int .i64 ((kA : Int) + 257)) ∧ wr.cell? ⟨w1.heap.size, 1, none⟩ = some (.int .i64 ((kB : Int) + 1)) ∧ wr.cell? ⟨w1.heap.size, 2, none⟩ = some (.slice (some ⟨zg, 0, none⟩) 19 zc) ∧ wr.cell? ⟨w1.heap.size, 3, none⟩ = some (.int .i64 ((kt : Int) + 4)) ∧ wr.cell? ⟨w1.heap.size, 4, none⟩ = some (.slice ra nR rc)) ∧ SegZ wr (some ⟨zg, 0, none⟩) Z ∧ SegN wr ra R ∧ TabS wr ∧ TabO wr) := fun wr hk => by
      have hfar : ∀ k, w.heap.size ≤ k → ¬ WS bw v k := fun k hk2 e => by
        rcases e with e | e
        · omega
        · have := (HOW k e).2.1; omega
      have hlow : ∀ k, k < 2 → ¬ WS bw v k := fun k hk2 e => by
        rcases e with e | e
        · omega
        · have := (HOW k e).1; omega
      refine ⟨⟨hk.cellN p0 (hfar w1.heap.size hPs), hk.cellN p1 (hfar w1.heap.size hPs), hk.cellN p2 (hfar w1.heap.size hPs), hk.cellN p3 (hfar w1.heap.size hPs), hk.cellN p4 (hfar w1.heap.size hPs)⟩, SZW.kp hk (fun g o e _ => by cases e; exact hfar _ hzg), SRW.kp hk (fun g o e => hfar _ (hrg g o e)), SegZ.kp TW hk (fun g o e _ => by cases e; exact hlow 0 (by omega)), SegZ.kp OW hk (fun g o e _ => by cases e; exact hlow 1 (by omega))⟩
    clear OZ OR SZ1 SR1 hPW p0 p1 p2 p3 p4 SZW SRW TW OW BW hW
    have HKA : Hid (kA < 2 ^ 5 ∧ kB < 2 ^ 5 ∧ kt < 2 ^ 4) := ⟨by omega, by omega, by omega⟩
    go_wp2_with fail
    rw [HWE.out]
    refine (put8 HI0 kA 5 HKA.out.1 (by omega) (by omega)).mono ?_
    rintro e w2 ⟨rfl, HI1⟩
    obtain ⟨⟨q0, q1, q2, q3, q4⟩, _⟩ := HK.out w2 HI1.kp
    clear HWE HI0
    go_wp2_with fail
    refine (put8 HI1 kB 5 HKA.out.2.1 (by omega) (by simp [bN_len]; omega)).mono ?_
    rintro e w3 ⟨rfl, HI2⟩
    obtain ⟨⟨q0, q1, q2, q3, q4⟩, _⟩ := HK.out w3 HI2.kp
    clear HI1
    go_wp2_with fail
    refine (put8 HI2 kt 4 HKA.out.2.2 (by omega) (by simp [bN_len]; omega)).mono ?_
    rintro e w4 ⟨rfl, HI3⟩
    obtain ⟨⟨q0, q1, q2, q3, q4⟩, _⟩ := HK.out w4 HI3.kp
    clear HI2
    obtain ⟨M3, hM3⟩ : ∃ M3, M3 = L ++ bN kA 5 ++ bN kB 5 ++ bN kt 4 := ⟨_, rfl⟩
    have HM3 : Hid (M3 = L ++ bN kA 5 ++ bN kB 5 ++ bN kt 4) := hM3
    have hM3l : M3.length = L.length + 14 := by rw [hM3]; simp [bN_len]
    rw [← hM3] at HI3
    clear hM3
    go_wp2_with fail
    go_loopw [46] (fun ti wr => ∃ i : Nat, i ≤ kt + 4 ∧ ti = .int .i64 (i : Int) ∧ WrI W wr bw B v (M3 ++ szb8 Z i)) (fun ti _ => kt + 4 - (intOf ti).toNat)
    case atStart => exact ⟨0, by omega, rfl, by rw [szb8, List.append_nil]; exact HI3⟩
    case round =>
      obtain ⟨i, hit, rfl, HI⟩ := hrel
      clear HI3 q0 q1 q2 q3 q4
      obtain ⟨⟨q0, q1, q2, q3, q4⟩, SZ, SR, TS, TO⟩ := HK.out wr HI.kp
      by_cases hlt : i < kt + 4
      · have hlti : (i : Int) < (kt : Int) + 4 := by omega
        have c0 := TabO.at8 TO i (by omega)
        have hob := ord_bd ⟨i, by omega⟩
        simp only at hob
        have KR2 : Hid (∀ w' M, WrI W w' bw B v M → w'.cell? ⟨w1.heap.size, 2, none⟩ = some (.slice (some ⟨zg, 0, none⟩) 19 zc) ∧ w'.cell? ⟨1, i, none⟩ = some (.int .i64 (ordL.getD i 0)) ∧ w'.cell? ⟨zg, (ordL.getD i 0).toNat, none⟩ = some (.int .i64 (Z.getD (ordL.getD i 0).toNat 0))) := fun w' M h => by
          obtain ⟨⟨_, _, r2, _⟩, RZ, _, _, RO⟩ := HK.out w' h.kp
          obtain ⟨zg', off', ez, cz⟩ := RZ.at_ (ordL.getD i 0).toNat (by omega)
          cases ez
          rw [Nat.zero_add] at cz
          exact ⟨r2, TabO.at8 RO i (by omega), cz⟩
        have HSB : Hid (szb8 Z (i + 1) = szb8 Z i ++ bN (Z.getD (ordL.getD i 0).toNat 0).toNat 3) := rfl
        have hl3 := szb8_len Z i
        generalize ordL.getD i 0 = oq at *
        obtain ⟨s, rfl⟩ : ∃ s : Nat, oq = (s : Int) := ⟨oq.toNat, by omega⟩
        rw [Int.toNat_natCast] at HSB KR2
        obtain ⟨zg', off', ez, cz⟩ := SZ.at_ s (by omega)
        cases ez
        rw [Nat.zero_add] at cz
        have hzb := hZb s (by omega)
        generalize Z.getD s 0 = z at *
        obtain ⟨zn, rfl⟩ : ∃ zn : Nat, z = (zn : Int) := ⟨z.toNat, by omega⟩
        rw [Int.toNat_natCast] at HSB
        have hs19 : (s : Int) < 19 := by omega
        have hi19 : (i : Int) < 19 := by omega
        have CPU := put8 (HI.drew8) zn 3 (by omega) (by omega) (by rw [List.length_append, hl3]; omega)
        rw [List.append_assoc, ← HSB.out] at CPU
        have KR : Hid (wr.cell? ⟨w1.heap.size, 2, none⟩ = some (.slice (some ⟨zg, 0, none⟩) 19 zc) ∧ wr.cell? ⟨1, i, none⟩ = some (.int .i64 (s : Int)) ∧ wr.cell? ⟨zg, s, none⟩ = some (.int .i64 (zn : Int))) := ⟨q2, c0, cz⟩
        clear HI SZ SR TS TO q0 q1 q3 q4 HSB
        go_wp2_with fail
        have r2 : wr.drew.cell? ⟨w1.heap.size, 2, none⟩ = some (.slice (some ⟨zg, 0, none⟩) 19 zc) := KR.out.1
        have r3 : wr.drew.cell? ⟨1, i, none⟩ = some (.int .i64 (s : Int)) := KR.out.2.1
        have r4 : wr.drew.cell? ⟨zg, s, none⟩ = some (.int .i64 (zn : Int)) := KR.out.2.2
        have HCV : Hid (IntKind.u64.wrap (zn : Int) = (zn : Int)) := IntWalk.u64_in _ (by omega)
        clear KR KR2 q2 c0 cz HK HOW
        go_region_law (first | (go_simp; go_at_call 29; rw [HCV.out]; refine CPU.mono ?_; rintro e w5 ⟨rfl, HI5⟩))
        all_goals
          go_wp2_with fail
          go_roundw
          case rel => exact ⟨i + 1, by omega, by go_num, HI5⟩
          case measure => simp [intOf]; omega
      · have hge : ¬ (i : Int) < (kt : Int) + 4 := by omega
        obtain rfl : i = kt + 4 := by omega
        have hl3 := szb8_len Z (kt + 4)
        obtain ⟨M4, hM4⟩ : ∃ M4, M4 = M3 ++ szb8 Z (kt + 4) := ⟨_, rfl⟩
        have HM4 : Hid (M4 = M3 ++ szb8 Z (kt + 4)) := hM4
        have hM4l : M4.length ≤ L.length + 80 := by rw [hM4, List.length_append, hl3]; omega
        rw [← hM4] at HI
        clear hM4
        have CE := newEnc_far (some ⟨zg, 0, none⟩) Z 19 zc hZ19 wr SZ (fun h => by cases h) (by omega)
        have hws := HI.size
        generalize wr = w5 at *
        clear SZ SR TS TO
        go_wp2_with fail
        refine CE.mono ?_
        rintro e w6 ⟨hE, _, B6⟩
        obtain ⟨eb, rfl, heb, hEn, hEK⟩ := hE HZC.out
        obtain ⟨v6, hw5, K5, F5⟩ := HI
        have K6 : Kp (WS bw v) W w6 := K5.trans (S' := fun _ => False) (kp_of_below B6 _) (fun _ _ e => e.elim)
        have hw6 := hw5.below8 B6
        have hb5 := hw5.b_lt
        have ho5 := hw5.own_lt
        have HK2 : Hid (∀ wr, Kp (WS bw v6) w6 wr → SegN wr ra R ∧ TabS wr ∧ En wr eb w6.heap.size Z) := fun wr hk => by
          have hk2 : Kp (WS bw v) W wr := K6.trans (S' := WS bw v6) hk (fun k hlt e => by
            rcases e with e | e
            · exact .inl e
            · rcases F5 k e with e2 | e2
              · exact .inr e2
              · omega)
          obtain ⟨_, _, h1, h2, _⟩ := HK.out wr hk2
          refine ⟨h1, h2, hEK wr ((Kp.refl (fun k => k < w5.heap.size) w6).trans (S' := WS bw v6) hk (fun k hlt e => ?_))⟩
          rcases e with e | e
          · omega
          · exact (ho5 k e).2.1
        obtain ⟨⟨r0, r1, r2, r3, r4⟩, _⟩ := HK.out w6 K6
        have HJ : Hid (∀ wr, WrI w6 wr bw B v6 (M4 ++ rnb8 Z R) → WtQ w bw B v L lit dist (.returned (.int .i64 0)) wr) := fun wr h => by
          refine HQ.out wr ?_
          have e : L ++ hd8 lit dist = M4 ++ rnb8 Z R := by
            rw [HHD.out, HM4.out, HM3.out]
            simp only [List.append_assoc]
          rw [e]
          obtain ⟨v7, h1, h2, h3⟩ := h
          exact WrI.up xW (WrI.next K6 F5 h1 h2 h3)
        have HI6 : WrI w6 w6 bw B v6 M4 := WrI.start hw6
        clear hE CE hEK hEn K5 hw5 K6 F5 HK HQ HHD HM3 HM4 r0 r1 r2 r3 hw6 B6 hws
        have hs5 : bw < w6.heap.size := by have := HI6.kp.size; obtain ⟨_, h, _⟩ := HI6; exact h.b_lt
        go_wp2_with fail
        clear r4
        go_loopw [69] (fun ti wr => ∃ i : Nat, i ≤ nR ∧ ti = .int .i64 (i : Int) ∧ WrI w6 wr bw B v6 (M4 ++ rnb8 Z (R.take i))) (fun ti _ => nR - (intOf ti).toNat)
        case atStart => exact ⟨0, by omega, rfl, by rw [List.take_zero, rnb8, List.append_nil]; exact HI6⟩
        case round =>
          obtain ⟨i, hin, rfl, HI⟩ := hrel
          clear HI6
          by_cases hlt : i < nR
          · have hlti : (i : Int) < (nR : Int) := by omega
            have hil : i < R.length := by rw [HNR.out]; exact hlt
            obtain ⟨SR, TS, hEn⟩ := HK2.out wr HI.kp
            obtain ⟨rb, off, rfl, cs, cc⟩ := SR.at_ i hil
            have HTK : Hid (R.take (i + 1) = R.take i ++ [R.getD i ⟨0, 0⟩]) := take_snocN hil
            have hok := HOKR.out (R.getD i ⟨0, 0⟩) (by simp [List.getD, hil])
            have hml : (M4 ++ rnb8 Z (R.take i)).length ≤ L.length + 8000 := by
              have := rnb8_len HZC.out (R.take i)
              rw [List.length_take] at this
              rw [List.length_append]
              omega
            have hctl := ct8_lt hok
            have HRB : Hid (M4 ++ rnb8 Z (R.take (i + 1)) = (M4 ++ rnb8 Z (R.take i)) ++ putB Z (R.getD i ⟨0, 0⟩).sy ++ bN ((R.getD i ⟨0, 0⟩).ct - lst8 (R.getD i ⟨0, 0⟩).sy).toNat (mor8 (R.getD i ⟨0, 0⟩).sy)) := by
              show _ = _
              rw [HTK.out, rnb8_app, rnb8, rnb8, List.append_nil]
              simp only [List.append_assoc]
            generalize M4 ++ rnb8 Z (R.take i) = MM at *
            generalize R.getD i ⟨0, 0⟩ = r at *
            obtain ⟨sy, ct⟩ := r
            simp only [ok8] at cs cc hok hctl HRB
            obtain ⟨s, rfl⟩ : ∃ s : Nat, sy = (s : Int) := ⟨sy.toNat, by omega⟩
            have hs19 : (s : Int) < 19 := by omega
            obtain ⟨v7, h71, h72, h73⟩ := HI
            have hb7 := h71.b_lt
            have ho7 := h71.own_lt
            obtain ⟨wA, hwA⟩ : ∃ wA, wA = wr.alloc (.cells #[.int .i64 (s : Int), .int .i64 ct] 211) := ⟨_, rfl⟩
            have HWA : Hid (wr.alloc (.cells #[.int .i64 (s : Int), .int .i64 ct] 211) = wA) := hwA.symm
            have hA : wA.heap[wr.heap.size]? = some (.cells #[.int .i64 (s : Int), .int .i64 ct] 211 (0, 0)) := by rw [hwA]; exact heap_alloc_new wr _
            have bA : Below wr.heap.size wr wA := by rw [hwA]; exact below_box8 wr _
            have cA0 : wA.cell? ⟨wr.heap.size, 0, none⟩ = some (.int .i64 (s : Int)) := (cell_of_row wA _ 0 _ _ _ hA).trans rfl
            have cA1 : wA.cell? ⟨wr.heap.size, 1, none⟩ = some (.int .i64 ct) := (cell_of_row wA _ 1 _ _ _ hA).trans rfl
            have hEA := hEn.old (bA.mono (by have := h72.size; omega))
            have CE2 := put5_any eb w6.heap.size Z (s : Int) bw B v7 MM wA hEA (h71.below8 bA) (by omega)
            have h72A : Kp (WS bw v6) w6 wA := h72.trans (S' := fun _ => False) (kp_of_below bA _) (fun _ _ e => e.elim)
            clear hwA hA bA SR TS hEn hEA h71 h72
            go_wp2_with fail
            rw [HWA.out]
            refine CE2.mono ?_
            rintro e w7 ⟨rfl, v8, h81, h82, h83⟩
            have hfarA : ¬ WS bw v7 wr.heap.size := fun e => by
              rcases e with e | e
              · omega
              · have := (ho7 _ e).2.1; omega
            have c70 := h82.cellN cA0 hfarA
            have c71 := h82.cellN cA1 hfarA
            obtain ⟨v9, h91, h92, h93⟩ := WrI.next h72A h73 h81 h82 h83
            obtain ⟨_, TS, _⟩ := HK2.out w7 h92
            obtain ⟨t0, t1, t2⟩ := TabS.at8 TS s (by omega)
            have hl1 := lst8_bd (s : Int)
            have hm1 := mor8_le (s : Int)
            have hl7 : (MM ++ putB Z (s : Int)).length ≤ L.length + 9000 := by
              have := putB_le HZC.out (s : Int)
              rw [List.length_append]
              omega
            clear CE2 h81 h82 h83 hfarA cA0 cA1 cs cc TS HWA h72A h73 HTK
            generalize sln8 (s : Int) = x0 at *
            generalize lst8 (s : Int) = x1 at *
            generalize mor8 (s : Int) = mo at *
            obtain ⟨k, rfl⟩ : ∃ k : Nat, ct = x1 + (k : Int) := ⟨(ct - x1).toNat, by omega⟩
            rw [show x1 + (k : Int) - x1 = (k : Int) by omega, Int.toNat_natCast] at hctl HRB
            have hkb : k ≤ 127 := by
              have : 2 ^ mo ≤ 2 ^ 7 := Nat.pow_le_pow_right (by omega) hm1
              omega
            have hlt7 : wr.heap.size < w7.heap.size := World.block_lt_of_cell? w7 _ c70
            have h07 : 0 < w7.heap.size := by omega
            have HI9 : WrI w6 w7 bw B v6 (MM ++ putB Z (s : Int)) := ⟨v9, h91, h92, h93⟩
            have HI10 := HI9.old (below_box8 w7 (.cells #[.int .i64 x0, .int .i64 x1, .int .i64 (mo : Int)] 213))
            have CPU := put8 HI10 k mo hctl (by omega) (by omega)
            rw [← HRB.out] at CPU
            clear HI9 HI10 h91 h92 h93 HRB
            go_wp2_with fail
            rw [show x1 + (k : Int) - x1 = (k : Int) by omega]
            refine CPU.mono ?_
            rintro e w8 ⟨rfl, HI8⟩
            go_wp2_with fail
            go_roundw
            case rel => exact ⟨i + 1, by omega, by go_num, HI8⟩
            case measure => simp [intOf]; omega
          · have hge : ¬ (i : Int) < (nR : Int) := by omega
            have hTA : R.take i = R := List.take_of_length_le (by rw [HNR.out]; omega)
            rw [hTA] at HI
            have HF := HJ.out wr HI
            clear HJ HK2
            go_wp2_with fail
            go_ret
            exact HF
  · have HF : Hid (∀ w', Below w.heap.size w w' → WtQ w bw B v L lit dist (.returned (.int .i64 80)) w') := fun w' hb => by
      unfold WtQ
      rw [if_neg ht, if_neg ht, List.append_nil]
      exact ⟨rfl, (WrI.start HWR.out).old hb⟩
    go_enter Tryz.func105, Tryz.ntmps105
    go_wp2_with fail
    refine CP.mono ?_
    rintro e w1 ⟨_, hno, B1⟩
    obtain rfl := hno ht
    clear CP hno ht
    go_wp2_with fail
    go_ret
    exact HF.out _ (B1.trans ((below_box8 w1 _).mono B1.size))
end Go.Proofs.YtcifalelnfeggaaGreatDoor

namespace Go.Proofs.YtcifalelnfeggaaGreatDoor
open Go.RowKit
set_option linter.unusedVariables false

/-! The landed block: writeTokens, of bytes alone. -/
def tkb9 (Z : List Int) (l : List Tok7) : List Bool := l.flatMap fun t => putB Z t.lit
theorem tkb9_snoc (Z : List Int) (l : List Tok7) (t : Tok7) : tkb9 Z (l ++ [t]) = tkb9 Z l ++ putB Z t.lit := by simp [tkb9]
theorem tkb9_len {Z : List Int} (h : errC Z = 0) : ∀ l : List Tok7, (tkb9 Z l).length ≤ 15 * l.length
  | [] => by simp [tkb9]
  | t :: r => by
    have h1 := putB_le h t.lit
    have h2 := tkb9_len h r
    have e : tkb9 Z (t :: r) = putB Z t.lit ++ tkb9 Z r := rfl
    rw [e, List.length_append, List.length_cons]
    omega
set_option maxRecDepth 100000 in
set_option maxHeartbeats 4000000 in
theorem pwtok9_lit (bw B : Nat) (v : Value) (L : List Bool) (l : List Tok7) (a : Option Addr) (n cap : Nat) (hn : Hid (l.length = n)) (ZL ZD : List Int) (la da : Option Addr) (nl lc nd dc : Nat) (hnl : Hid (ZL.length = nl)) (hnd : Hid (ZD.length = nd)) (w : World) (hw : WrL w bw B v L) (hL : L.length ≤ 1000000000000) (hs : SegT w a l) (sL : SegZ w la ZL) (sD : SegZ w da ZD) (nlL : la = none → lc = 0) (nlD : da = none → dc = 0) (hl1 : nl ≤ 1000) (hd1 : nd ≤ 1000) (hcL : errC ZL = 0) (hcD : errC ZD = 0) (hl : n ≤ 65536) (hlit : ∀ t ∈ l, t.len = 0) (hfar : ∀ g o, a = some ⟨g, o, none⟩ → 0 < n → ¬ WS bw v g) :
    Calls Tryz.prog 102 #[.pointer (some ⟨bw, 0, none⟩), .slice a n cap, .slice la nl lc, .slice da nd dc] w fun e w' => e = .returned (.tuple #[]) ∧ ∃ w2, Below w.heap.size w w2 ∧ WrI w2 w' bw B v (L ++ (tkb9 ZL l ++ putB ZL 256)) := by
  have HW : Hid (WrL w bw B v L) := hw
  have HS : Hid (SegT w a l) := hs
  have HLIT : Hid (∀ t ∈ l, t.len = 0) := hlit
  have HFAR : Hid (∀ g o, a = some ⟨g, o, none⟩ → 0 < n → ¬ WS bw v g) := hfar
  have HSD : Hid (SegZ w da ZD) := sD
  have HCL : Hid (errC ZL = 0) := hcL
  have CE1 := newEnc_far la ZL nl lc hnl w sL nlL (by omega)
  have hbl := hw.b_lt
  have hol := hw.own_lt
  clear hw hs hlit hfar sD sL
  go_enter Tryz.func102, Tryz.ntmps102
  go_wp2_with fail
  refine CE1.mono ?_
  rintro e w1 ⟨hE, _, b1⟩
  obtain ⟨e1, rfl, he1, _, hEK1⟩ := hE hcL
  have CE2 := newEnc_far da ZD nd dc hnd w1 (HSD.out.old b1) nlD (by omega)
  clear CE1 hE
  go_wp2_with fail
  refine CE2.mono ?_
  rintro e w2 ⟨hE, _, b2⟩
  obtain ⟨e2, rfl, he2, _, hEK2⟩ := hE hcD
  have B2 : Below w.heap.size w w2 := b1.trans (b2.mono b1.size)
  have HI0 : WrI w2 w2 bw B v L := WrI.start (HW.out.below8 B2)
  have HK : Hid (∀ wr, Kp (WS bw v) w2 wr → En wr e1 w1.heap.size ZL ∧ SegT wr a l) := fun wr hk => by
    refine ⟨hEK1 wr ?_, ?_⟩
    · refine (kp_of_below b2 (fun k => k < w.heap.size)).trans hk (fun k hlt e => ?_)
      rcases e with e | e
      · omega
      · exact (hol k e).2.1
    · refine (HS.out.old B2).kp hk (fun g o e h => ?_)
      exact HFAR.out g o e (by have := hn.out; omega)
  have HB2 : Hid (Below w.heap.size w w2) := B2
  have HSZ2 : Hid (w1.heap.size ≤ w2.heap.size) := b2.size
  clear CE2 hE hEK1 hEK2 b1 b2 B2 hol
  go_wp2_with fail
  go_loopw [30] (fun ti wr => ∃ i : Nat, i ≤ n ∧ ti = .int .i64 (i : Int) ∧ WrI w2 wr bw B v (L ++ tkb9 ZL (l.take i))) (fun ti _ => n - (intOf ti).toNat)
  case atStart => exact ⟨0, by omega, rfl, by rw [List.take_zero]; simpa [tkb9] using HI0⟩
  case round =>
    obtain ⟨i, hin, rfl, HI⟩ := hrel
    clear HI0
    obtain ⟨EN, ST⟩ := HK.out wr HI.kp
    have hML : (L ++ tkb9 ZL (l.take i)).length ≤ 1000001000000 := by
      have := tkb9_len hcL (l.take i)
      rw [List.length_take] at this
      rw [List.length_append]
      omega
    by_cases hlt : i < n
    · have hlti : (i : Int) < (n : Int) := by omega
      have hil : i < l.length := by rw [hn.out]; exact hlt
      obtain ⟨g, o, rfl, tk⟩ := ST.at_ i hil
      have hmem : l.getD i tk0 ∈ l := by simp only [List.getD, List.getElem?_eq_getElem hil, Option.getD_some]; exact List.getElem_mem hil
      have hfit := HS.out.fit (l.getD i tk0) hmem
      have hl0 := HLIT.out _ hmem
      have HTK : Hid (l.take (i + 1) = l.take i ++ [l.getD i tk0]) := by
        show _ = _
        rw [List.take_succ_eq_append_getElem hil]
        simp only [List.getD, List.getElem?_eq_getElem hil, Option.getD_some]
      clear hmem
      generalize l.getD i tk0 = t at *
      obtain ⟨lit, len, dist⟩ := t
      obtain ⟨x0, x1, x2⟩ := tk
      simp only at x0 x1 x2 hl0
      subst hl0
      have hlb : 0 ≤ lit ∧ lit ≤ 255 := hfit.1
      have HBW : Hid (L ++ tkb9 ZL (l.take (i + 1)) = (L ++ tkb9 ZL (l.take i)) ++ putB ZL lit) := by show _ = _; rw [HTK.out, tkb9_snoc, List.append_assoc]
      have HII : Hid (WrI w2 wr bw B v (L ++ tkb9 ZL (l.take i))) := HI
      have HEN : Hid (En wr e1 w1.heap.size ZL) := EN
      clear HI EN ST
      go_wp2_with fail
      have b3 := below_box8 wr (.cells #[.int .u8 lit, .int .i64 0, .int .i64 dist] 97)
      generalize wr.alloc (.cells #[.int .u8 lit, .int .i64 0, .int .i64 dist] 97) = wa at *
      have CP := eput8 lit (HII.out.old b3) (HEN.out.old (b3.mono (by have := HII.out.size; have := HSZ2.out; omega))) (by omega)
      rw [← HBW.out] at CP
      clear b3
      refine CP.mono ?_
      rintro e w5 ⟨rfl, HI5⟩
      have i7 : IntKind.i64.wrap ((i : Int) + 1) = (i : Int) + 1 := IntWalk.i64_in _ (by omega)
      clear CP HII HEN
      generalize errP ZL lit = E at *
      go_wp2_with fail
      go_roundw
      case rel => exact ⟨i + 1, by omega, by go_num, HI5⟩
      case measure => simp [intOf]; omega
    · obtain rfl : i = n := by omega
      have hta : l.take i = l := List.take_of_length_le (by rw [hn.out]; exact Nat.le_refl _)
      rw [hta] at HI hML
      have CP := eput8 256 HI EN (by omega)
      rw [List.append_assoc] at CP
      clear HI EN ST hta
      go_wp2_with fail
      refine CP.mono ?_
      rintro e w5 ⟨rfl, HI5⟩
      clear CP
      generalize errP ZL 256 = E at *
      go_wp2_with fail
      refine bodyPost_end (results_none rfl _ _ _) rfl ?_
      exact ⟨rfl, w2, HB2.out, HI5⟩
end Go.Proofs.YtcifalelnfeggaaGreatDoor

namespace Go.Proofs.YtcifalelnfeggaaGreatDoor
open Go.RowKit
set_option linter.unusedVariables false

/-! The landed block: a Plain block of bytes. -/
set_option maxRecDepth 100000 in
theorem pln_ok9 : errC plnL9 = 0 ∧ errC plnD9 = 0 := ⟨by kernel_rfl, by kernel_rfl⟩
theorem plnL9_bd : ∀ z ∈ plnL9, -9223372036854775808 ≤ z ∧ z ≤ 9223372036854775807 := fun z hz => by
  have := (errS_zero (errC_zero pln_ok9.1).1).2 z hz
  omega
theorem plnD9_bd : ∀ z ∈ plnD9, -9223372036854775808 ≤ z ∧ z ≤ 9223372036854775807 := fun z hz => by
  have := (errS_zero (errC_zero pln_ok9.2).1).2 z hz
  omega
theorem plnL9_len : plnL9.length = 288 := by kernel_rfl
set_option maxRecDepth 100000 in
set_option maxHeartbeats 4000000 in
theorem pwpl9_lit (bw B : Nat) (v : Value) (L : List Bool) (l : List Tok7) (a : Option Addr) (n cap : Nat) (hn : Hid (l.length = n)) (dv tv : Value) (w : World) (hw : WrL w bw B v L) (hL : L.length ≤ 1000000000000) (hs : SegT w a l) (hl : n ≤ 65536) (hlit : ∀ t ∈ l, t.len = 0) (hfar : ∀ g o, a = some ⟨g, o, none⟩ → 0 < n → ¬ WS bw v g) :
    Calls Tryz.prog 78 #[.pointer (some ⟨bw, 0, none⟩), dv, .slice a n cap, tv] w fun e w' => e = .returned (.tuple #[]) ∧ ∃ w2, Below w.heap.size w w2 ∧ WrI w2 w' bw B v (L ++ (tkb9 plnL9 l ++ putB plnL9 256)) := by
  go_enter Tryz.func78, Tryz.ntmps78
  go_wp2_with fail
  refine (pplain9 w).mono ?_
  rintro e w1 ⟨la, lc, da, rfl, o1, o2, _, b1⟩
  have s1 : SegZ w1 la plnL9 := own_segZ o1 plnL9_bd
  have s2 : SegZ w1 (some ⟨da, 0, none⟩) plnD9 := own_segZ o2 plnD9_bd
  have n1 : la = none → lc = 0 := fun h => by
    obtain ⟨g, cp, hv, _⟩ := own_shape o1 (by omega)
    injection hv with h1 _ _
    rw [h1] at h
    cases h
  have CT := pwtok9_lit bw B v L l a n cap hn plnL9 plnD9 la (some ⟨da, 0, none⟩) 288 lc 32 32 plnL9_len rfl w1 (hw.below8 b1) hL (hs.old b1) s1 s2 n1 (fun h => by cases h) (by omega) (by omega) pln_ok9.1 pln_ok9.2 hl hlit hfar
  clear o1 o2 s1 s2
  go_wp2_with fail
  refine CT.mono ?_
  rintro e w3 ⟨rfl, w2, b2, HI⟩
  clear CT
  go_wp2_with fail
  refine bodyPost_end (results_none rfl _ _ _) rfl ?_
  exact ⟨rfl, w2, b1.trans (b2.mono b1.size), HI⟩
end Go.Proofs.YtcifalelnfeggaaGreatDoor

namespace Go.Proofs.YtcifalelnfeggaaGreatDoor
open Go.RowKit
set_option linter.unusedVariables false

/-! The landed block: Write, a Plain block of bytes, the stream's last, as a writer's first. -/
set_option maxRecDepth 100000 in
set_option maxHeartbeats 4000000 in
theorem pwr9_lit (bw B : Nat) (l : List Tok7) (a : Option Addr) (n cap : Nat) (hn : Hid (l.length = n)) (xa : Option Addr) (nx xc : Nat) (w : World) (hw : WrL w bw B (.slice none 0 0) []) (hs : SegT w a l) (hl : n ≤ 65536) (hlit : ∀ t ∈ l, t.len = 0) (hmay : ∀ t ∈ l, may7 t) (hsz : (tal9 l).getD 0 0 = (nx : Int)) (hm : (nx : Int) ≤ 16908288) (hfar : ∀ g o, a = some ⟨g, o, none⟩ → 0 < n → g ≠ bw) :
    Calls Tryz.prog 34 #[.pointer (some ⟨bw, 0, none⟩), .int .i64 1, .bool true, .slice xa nx xc, .slice a n cap] w fun e w' => e = .returned (.int .i64 0) ∧ (∃ v', WrL w' bw B v' (bN 3 3 ++ (tkb9 plnL9 l ++ putB plnL9 256))) ∧ Kp (fun k => k = bw) w w' := by
  have CL := len_any bw B (.slice none 0 0) [] w hw (by simp)
  rw [show (([] : List Bool).length : Int) = 0 from rfl] at CL
  have HW : Hid (WrL w bw B (.slice none 0 0) []) := hw
  have HS : Hid (SegT w a l) := hs
  have HSZ : Hid ((tal9 l).getD 0 0 = (nx : Int)) := hsz
  have HFAR : Hid (∀ g o, a = some ⟨g, o, none⟩ → 0 < n → g ≠ bw) := hfar
  have hbl := hw.b_lt
  clear hw hs hsz hfar
  go_enter Tryz.func34, Tryz.ntmps34
  go_wp2_with fail
  refine CL.mono ?_
  rintro e w1 ⟨rfl, b1⟩
  have CP := pplan9_ok l a n cap hn 1 (by omega) 0 (by omega) w1 (HS.out.old b1) hl hmay (by rw [HSZ.out]; exact hm)
  clear CL
  go_wp2_with fail
  refine CP.mono ?_
  rintro e w2 ⟨tb, htb, rfl, TA, b2⟩
  have B2 : Below w.heap.size w w2 := b1.trans (b2.mono b1.size)
  obtain ⟨fi, fs, fo, f0⟩ := fk9_facts 1 (by omega)
  have f2 : (fk9 1)[2]? = some (fnv9 78) := by kernel_rfl
  have q3 := setRow_heap _ w2.heap.size _ (fk9 1) _ _ (heap_alloc_new w2 (.cells #[.int .i64 0, .nilFunc, .nilFunc, .nilFunc] 111))
  have b3 : Below w2.heap.size w2 ((w2.alloc (.cells #[.int .i64 0, .nilFunc, .nilFunc, .nilFunc] 111)).setRow w2.heap.size (fk9 1)) := ((Below.refl w2.heap.size w2).alloc (Nat.le_refl _) _).grown (grown_setRow _ _ _) (by simp) (fun j e => by cases e; exact Nat.le_refl _)
  have c0 := (TA.keep (b3.block tb TA.lt)).cell (i := 0) (by omega)
  rw [HSZ.out] at c0
  have i3 : bits .or .u64 2 1 = 3 := by decide
  have HB3 : Hid (Below w.heap.size w ((w2.alloc (.cells #[.int .i64 0, .nilFunc, .nilFunc, .nilFunc] 111)).setRow w2.heap.size (fk9 1))) := B2.trans (b3.mono B2.size)
  have HQ3 : Hid (((w2.alloc (.cells #[.int .i64 0, .nilFunc, .nilFunc, .nilFunc] 111)).setRow w2.heap.size (fk9 1)).heap[w2.heap.size]? = some (.cells (fk9 1) 111 (0, 0))) := q3
  have hw2 : w.heap.size ≤ w2.heap.size := B2.size
  clear CP b1 b2 b3 q3 TA B2
  go_wp2_with (refine wpList_store_row rfl 111 (.tmp 11) (.tmp 24) rfl w2.heap.size (fk9 1) rfl rfl _ _ (heap_alloc_new w2 _) fi fs fo ?_)
  generalize (w2.alloc (.cells #[.int .i64 0, .nilFunc, .nilFunc, .nilFunc] 111)).setRow w2.heap.size (fk9 1) = w3 at *
  have HI0 : WrI w3 w3 bw B (.slice none 0 0) [] := WrI.start (HW.out.below8 HB3.out)
  have CPU := put8 HI0 3 3 (by decide) (by omega) (by simp)
  rw [List.nil_append] at CPU
  refine CPU.mono ?_
  rintro e w4 ⟨rfl, v4, W4, K4, F4⟩
  have hww : w2.heap.size < w3.heap.size := (Array.getElem?_eq_some_iff.1 HQ3.out).1
  have K4' : Kp (fun k => k = bw) w3 w4 := K4.mono (fun k _ e => by rcases e with e | e; exact e; simp [Value.ownBlock] at e)
  have q4 := K4'.heap HQ3.out (by omega)
  have d2 : w4.cell? ⟨w2.heap.size, 2, none⟩ = some (.func (.func 78) #[] #[]) := (cell_of_row w4 _ 2 _ _ _ q4).trans f2
  have hown : ∀ k, v4.ownBlock = some k → w3.heap.size ≤ k := fun k hk => by
    rcases F4 k hk with e | e
    · simp [Value.ownBlock] at e
    · exact e
  have CT := fun dv tv => pwpl9_lit bw B v4 (bN 3 3) l a n cap hn dv tv w4 W4 (by simp [bN_len]) (((HS.out.old HB3.out)).kp K4' (fun g o e h => HFAR.out g o e (by have := hn.out; omega))) hl hlit (fun g o e h => by
    rintro (q | q)
    · exact HFAR.out g o e h q
    · have h1 := hown g q
      have h2 := HS.out.lt g o e (by have := hn.out; omega)
      have := HB3.out.size
      omega)
  clear HI0 CPU K4 F4 c0 i3 q4
  go_wp2_with fail
  refine (CT _ _).mono ?_
  rintro e w6 ⟨rfl, w5, b5, v6, W6, K6, F6⟩
  have HE : Hid ((∃ v', WrL w6 bw B v' (bN 3 3 ++ (tkb9 plnL9 l ++ putB plnL9 256))) ∧ Kp (fun k => k = bw) w w6) := by
    refine ⟨⟨v6, W6⟩, ?_⟩
    refine (((Kp.of_below (S := fun k => k = bw) HB3.out).trans K4' (fun _ _ e => e)).trans (Kp.of_below (S := fun _ => False) b5) (fun _ _ e => e.elim)).trans K6 (fun k hk e => ?_)
    rcases e with e | e
    · exact e
    · have h1 := hown k e
      have := HB3.out.size
      omega
  clear CT W6 K6 F6 b5 W4
  go_wp2_with fail
  go_ret
  exact ⟨rfl, HE.out.1, HE.out.2⟩
end Go.Proofs.YtcifalelnfeggaaGreatDoor

namespace Go.Proofs.YtcifalelnfeggaaGreatDoor
open Go.RowKit
set_option linter.unusedVariables false

/-! The law's lives. -/
def livM9 : List Bool := bN 3 3 ++ (tkb9 plnL9 [⟨97, 0, 0⟩] ++ putB plnL9 256)
set_option maxRecDepth 100000 in
theorem livM9_is : toB livM9 = [75, 4, 0] ∧ livM9.length = 18 := ⟨by kernel_rfl, by kernel_rfl⟩
theorem livT9 : (tal9 [⟨97, 0, 0⟩]).getD 0 0 = 1 := by kernel_rfl
set_option maxRecDepth 100000 in
set_option maxHeartbeats 4000000 in
theorem plives9 (w : World) :
    Calls Tryz.prog 16 #[] w fun e w' => e = .returned (.bool true) ∧ Below w.heap.size w w' := by
  have hz1 : (w.alloc (.cells #[.slice none 0 0, .int .u64 0, .int .i64 0] 64)).heap.size = w.heap.size + 1 := by simp
  have hcv : (convert 59 59 (.slice (some ⟨w.heap.size + 1, 0, none⟩) 1 1)).run Tryz.prog ((w.alloc (.cells #[.slice none 0 0, .int .u64 0, .int .i64 0] 64)).alloc (.cells #[.int .u8 97] 5)) = .ok (.slice (some ⟨w.heap.size + 1, 0, none⟩) 1 1) ((w.alloc (.cells #[.slice none 0 0, .int .u64 0, .int .i64 0] 64)).alloc (.cells #[.int .u8 97] 5 (1, 2))) := by
    have := Lib.run_convert_bytes_const (P := Tryz.prog) (w.alloc (.cells #[.slice none 0 0, .int .u64 0, .int .i64 0] 64)) 59 5 #[.int .u8 97] 1 1 Tryz.underlying59 Tryz.underlying5
    rw [hz1] at this
    exact this
  clear hz1
  go_enter Tryz.func16, Tryz.ntmps16
  go_wp2_with fail
  obtain ⟨W, hW⟩ : ∃ W, W = (((w.alloc (.cells #[.slice none 0 0, .int .u64 0, .int .i64 0] 64)).alloc (.cells #[.int .u8 97] 5 (1, 2))).alloc (.cells #[.int .u8 97, .int .i64 0, .int .i64 0] 97)) := ⟨_, rfl⟩
  rw [← hW]
  have g0 : W.heap[w.heap.size]? = some (.cells #[.slice none 0 0, .int .u64 0, .int .i64 0] 64 (0, 0)) := by
    rw [hW, heap_alloc_old _ _ (by simp; omega), heap_alloc_old _ _ (by simp)]
    exact heap_alloc_new _ _
  have g2 : W.heap[w.heap.size + 1 + 1]? = some (.cells #[.int .u8 97, .int .i64 0, .int .i64 0] 97 (0, 0)) := by
    have := heap_alloc_new ((w.alloc (.cells #[.slice none 0 0, .int .u64 0, .int .i64 0] 64)).alloc (.cells #[.int .u8 97] 5 (1, 2))) (.cells #[.int .u8 97, .int .i64 0, .int .i64 0] 97)
    rw [show ((w.alloc (.cells #[.slice none 0 0, .int .u64 0, .int .i64 0] 64)).alloc (.cells #[.int .u8 97] 5 (1, 2))).heap.size = w.heap.size + 1 + 1 by simp, ← hW] at this
    exact this
  have BW : Below w.heap.size w W := by
    rw [hW]
    exact ((below_box8 w _).trans ((below_box8 _ _).mono (by simp))).trans ((below_box8 _ _).mono (by simp; omega))
  have hWs : W.heap.size = w.heap.size + 3 := by rw [hW]; simp
  have sg : SegT W (some ⟨w.heap.size + 1 + 1, 0, none⟩) [⟨97, 0, 0⟩] := by
    refine ⟨fun j hj => ?_, fun t ht => by rw [List.mem_singleton.1 ht]; exact ⟨by decide, by decide, by decide⟩⟩
    have hj0 : j = 0 := by simpa using hj
    subst hj0
    exact ⟨_, _, rfl, ⟨(cell_of_row W _ 0 _ _ _ g2).trans rfl, (cell_of_row W _ 1 _ _ _ g2).trans rfl, (cell_of_row W _ 2 _ _ _ g2).trans rfl⟩⟩
  have WL : WrL W w.heap.size (w.heap.size + 3) (.slice none 0 0) [] := WrL.new g0 (by omega)
  have CW := pwr9_lit w.heap.size (w.heap.size + 3) [⟨97, 0, 0⟩] (some ⟨w.heap.size + 1 + 1, 0, none⟩) 1 1 rfl (some ⟨w.heap.size + 1, 0, none⟩) 1 1 W WL sg (by omega) (fun t ht => by rw [List.mem_singleton.1 ht]) (fun t ht => by rw [List.mem_singleton.1 ht]; decide) livT9 (by decide) (fun g o e _ => by cases e; omega)
  clear hW g0 g2 sg WL hcv
  refine CW.mono ?_
  rintro e w1 ⟨rfl, ⟨v1, WL1⟩, k1⟩
  have WL1 : WrL w1 w.heap.size (w.heap.size + 3) v1 livM9 := WL1
  have B1 : Below w.heap.size w w1 := BW.trans (k1.below (fun k e => by omega) BW.size)
  have CB := bytes_any w.heap.size (w.heap.size + 3) v1 livM9 w1 WL1 (by rw [livM9_is.2]; omega)
  have HWL : Hid (WrL w1 w.heap.size (w.heap.size + 3) v1 livM9) := WL1
  rw [livM9_is.1] at CB
  clear CW k1 WL1 BW
  go_wp2_with fail
  refine CB.mono ?_
  rintro e w2 ⟨a2, c2, rfl, o2, b2⟩
  obtain ⟨_, a3, cp, hv, s2, _⟩ := own_seg (M := 255) o2 (by omega) (by intro z hz; simp at hz; omega)
  injection hv with hv1 hv2 hv3
  rw [← hv1] at s2
  have B2 : Below w.heap.size w w2 := B1.trans (b2.mono B1.size)
  have s3 : Seg (w2.alloc (.cells #[.int .u8 75, .int .u8 4, .int .u8 0] 5)) (some ⟨w2.heap.size, 0, none⟩) [75, 4, 0] := by
    refine ⟨fun i hi => ⟨w2.heap.size, 0, rfl, ?_⟩, by decide, getD_bd (by decide) (by intro z hz; simp at hz; omega)⟩
    simp only [List.length_cons, List.length_nil] at hi
    rw [Nat.zero_add, World.cell?_alloc_mark]
    match i, hi with
    | 0, _ => rfl
    | 1, _ => rfl
    | 2, _ => rfl
  have b3 := below_box8 w2 (.cells #[.int .u8 75, .int .u8 4, .int .u8 0] 5)
  have CS := bsame_any a2 (some ⟨w2.heap.size, 0, none⟩) [75, 4, 0] [75, 4, 0] c2 3 _ (s2.old b3) s3
  rw [show (([75, 4, 0] : List Int) == [75, 4, 0]) = true by decide] at CS
  have HL2 : Hid (WrL (w2.alloc (.cells #[.int .u8 75, .int .u8 4, .int .u8 0] 5)) w.heap.size (w.heap.size + 3) v1 livM9) := (HWL.out.below8 b2).below8 b3
  have B3 : Below w.heap.size w (w2.alloc (.cells #[.int .u8 75, .int .u8 4, .int .u8 0] 5)) := B2.trans (b3.mono B2.size)
  clear CB o2 b2 b3 s2 s3 hv1 hv2 hv3 HWL B1
  go_wp2_with fail
  generalize w2.alloc (.cells #[.int .u8 75, .int .u8 4, .int .u8 0] 5) = w3 at *
  refine CS.mono ?_
  rintro e w3' ⟨rfl, hw3⟩
  rw [hw3]
  have CL := len_any w.heap.size (w.heap.size + 3) v1 livM9 w3 HL2.out (by rw [livM9_is.2]; omega)
  rw [livM9_is.2] at CL
  clear CS hw3 w3' HL2
  go_wp2_with fail
  refine CL.mono ?_
  rintro e w4 ⟨rfl, b4⟩
  clear CL
  go_wp2_with fail
  go_ret
  exact ⟨rfl, B3.trans (b4.mono B3.size)⟩
end Go.Proofs.YtcifalelnfeggaaGreatDoor

namespace Go.Proofs.YtcifalelnfeggaaGreatDoor
open Go.RowKit
set_option linter.unusedVariables false

/-! BlockSplits. -/
set_option maxRecDepth 100000 in
theorem wide_ln9 : ∀ i : Fin 28, lnS9.getD ((i.val + 1) * 2) 0 - lnS9.getD (i.val * 2) 0 ≤ 2 ^ (lnS9.getD (i.val * 2 + 1) 0).toNat := by decide
set_option maxRecDepth 100000 in
theorem wide_ds9 : ∀ i : Fin 29, dsS9.getD ((i.val + 1) * 2) 0 - dsS9.getD (i.val * 2) 0 ≤ 2 ^ (dsS9.getD (i.val * 2 + 1) 0).toNat := by decide
theorem ln_in9 {x : Int} {i : Nat} (hx : x ≤ 258) (hi : i < 29) (h1 : lnS9.getD (i * 2) 0 ≤ x) (h2 : ∀ k, i < k → k < 29 → x < lnS9.getD (k * 2) 0) : x - lnS9.getD (i * 2) 0 < 2 ^ (lnS9.getD (i * 2 + 1) 0).toNat := by
  by_cases h : i < 28
  · have := wide_ln9 ⟨i, h⟩
    have h3 := h2 (i + 1) (by omega) (by omega)
    simp only at this
    omega
  · obtain rfl : i = 28 := by omega
    have e1 : lnS9.getD (28 * 2) 0 = 258 := by decide
    have e2 : lnS9.getD (28 * 2 + 1) 0 = 0 := by decide
    rw [e1, e2]
    simp
    omega
theorem ds_in9 {x : Int} {i : Nat} (hx : x ≤ 32768) (hi : i < 30) (h1 : dsS9.getD (i * 2) 0 ≤ x) (h2 : ∀ k, i < k → k < 30 → x < dsS9.getD (k * 2) 0) : x - dsS9.getD (i * 2) 0 < 2 ^ (dsS9.getD (i * 2 + 1) 0).toNat := by
  by_cases h : i < 29
  · have := wide_ds9 ⟨i, h⟩
    have h3 := h2 (i + 1) (by omega) (by omega)
    simp only at this
    omega
  · obtain rfl : i = 29 := by omega
    have e1 : dsS9.getD (29 * 2) 0 = 24577 := by decide
    have e2 : dsS9.getD (29 * 2 + 1) 0 = 13 := by decide
    rw [e1, e2]
    have : (2 : Int) ^ (13 : Int).toNat = 8192 := by decide
    omega
theorem shl9 (M : Fin 14) : wrap64 (2 ^ M.val) = 2 ^ M.val := by
  have h : (2 : Nat) ^ M.val ≤ 2 ^ 13 := Nat.pow_le_pow_right (by omega) (by have := M.isLt; omega)
  have e : ((2 : Int) ^ M.val) = ((2 ^ M.val : Nat) : Int) := by norm_cast
  have h13 : (2 : Nat) ^ 13 = 8192 := rfl
  rw [e]
  generalize (2 : Nat) ^ M.val = p at h
  unfold wrap64
  omega
set_option maxRecDepth 100000 in
set_option maxHeartbeats 8000000 in
theorem blockSplits_walk (w : World) (tab : TabS w ∧ TabO w) (n : Int) (hn : -9223372036854775808 ≤ n) (hn2 : n ≤ 9223372036854775807) (d : Int) (hd : -9223372036854775808 ≤ d) (hd2 : d ≤ 9223372036854775807) :
    Calls Tryz.prog 4 #[.int .i64 n, .int .i64 d] w fun e w' => e = .returned (.bool true) ∧ Below w.heap.size w w' := by
  by_cases h1 : 3 ≤ n ∧ n ≤ 258
  · have j1 := h1.1
    have j2 := h1.2
    go_enter Tryz.func4, Tryz.ntmps4
    go_wp2_with fail
    refine (plsy9_ok n j1 j2 w).mono ?_
    rintro e w1 ⟨i, hi, s1, s2, rfl, b1⟩
    have hv := ln_in9 j2 hi s1 s2
    have bl := bd_plsy9 ⟨i, hi⟩
    simp only at bl
    have CO := plof9_ok (257 + (i : Int)) i (by omega) hi w1
    generalize lnS9.getD (i * 2) 0 = z0 at *
    generalize lnS9.getD (i * 2 + 1) 0 = m at *
    obtain ⟨M, rfl⟩ : ∃ M : Nat, m = (M : Int) := ⟨m.toNat, by omega⟩
    rw [Int.toNat_natCast] at hv
    obtain ⟨Q, hQ⟩ : ∃ Q : Int, wrap64 (2 ^ M) = Q := ⟨_, rfl⟩
    rw [← (shl9 ⟨M, by omega⟩), hQ] at hv
    have e1 : z0 + (n - z0) = n := by omega
    have f1 : 0 ≤ n - z0 := by omega
    have g1 : 257 + (i : Int) ≤ 285 := by omega
    have g2 : 257 ≤ 257 + (i : Int) := by omega
    clear s2
    go_wp2_with fail
    refine CO.mono ?_
    rintro e w2 ⟨rfl, b2⟩
    have B2 : Below w.heap.size w w2 := b1.trans (b2.mono b1.size)
    clear CO b1 b2
    go_wp2_with fail
    clear e1 f1 g1 g2 hv bl hQ s1 j1 j2
    by_cases h2 : 1 ≤ d ∧ d ≤ 32768
    · have k1 := h2.1
      have k2 := h2.2
      refine (pdsy9_ok d k1 k2 w2).mono ?_
      rintro e w3 ⟨j, hj, t1, t2, rfl, b3⟩
      have hv3 := ds_in9 k2 hj t1 t2
      have bl3 := bd_pdsy9 ⟨j, hj⟩
      simp only at bl3
      have CO := pdof9_ok (j : Int) j rfl hj w3
      generalize dsS9.getD (j * 2) 0 = z3 at *
      generalize dsS9.getD (j * 2 + 1) 0 = m3 at *
      obtain ⟨M3, rfl⟩ : ∃ M : Nat, m3 = (M : Int) := ⟨m3.toNat, by omega⟩
      rw [Int.toNat_natCast] at hv3
      obtain ⟨Q3, hQ3⟩ : ∃ Q : Int, wrap64 (2 ^ M3) = Q := ⟨_, rfl⟩
      rw [← (shl9 ⟨M3, by omega⟩), hQ3] at hv3
      have e3 : z3 + (d - z3) = d := by omega
      have f3 : 0 ≤ d - z3 := by omega
      have g3 : (j : Int) ≤ 29 := by omega
      clear t2
      go_wp2_with fail
      refine CO.mono ?_
      rintro e w4 ⟨rfl, b4⟩
      have B4 : Below w.heap.size w w4 := (B2.trans (b3.mono B2.size)).trans (b4.mono (by have := B2.size; have := b3.size; omega))
      clear CO b3 b4
      go_wp2_with fail
      refine (plives9 w4).mono ?_
      rintro e w5 ⟨rfl, b5⟩
      go_wp2_with fail
      go_ret
      exact ⟨rfl, B4.trans (b5.mono B4.size)⟩
    · refine (pdsy9_no d (by omega) w2).mono ?_
      rintro e w3 ⟨rfl, hw3⟩
      rw [hw3]
      clear hw3 w3
      by_cases k1 : 1 ≤ d
      · have k2 : ¬ d ≤ 32768 := by omega
        go_wp2_with fail
        refine (plives9 w2).mono ?_
        rintro e w5 ⟨rfl, b5⟩
        go_wp2_with fail
        go_ret
        exact ⟨rfl, B2.trans (b5.mono B2.size)⟩
      · go_wp2_with fail
        refine (plives9 w2).mono ?_
        rintro e w5 ⟨rfl, b5⟩
        go_wp2_with fail
        go_ret
        exact ⟨rfl, B2.trans (b5.mono B2.size)⟩
  · by_cases j1 : 3 ≤ n
    · have j2 : ¬ n ≤ 258 := by omega
      go_enter Tryz.func4, Tryz.ntmps4
      go_wp2_with fail
      refine (plsy9_no n (by omega) w).mono ?_
      rintro e w2 ⟨rfl, hw2⟩
      have B2 : Below w.heap.size w w2 := by rw [hw2]; exact Below.refl _ _
      clear hw2
      go_wp2_with fail
      by_cases h2 : 1 ≤ d ∧ d ≤ 32768
      · have k1 := h2.1
        have k2 := h2.2
        refine (pdsy9_ok d k1 k2 w2).mono ?_
        rintro e w3 ⟨j, hj, t1, t2, rfl, b3⟩
        have hv3 := ds_in9 k2 hj t1 t2
        have bl3 := bd_pdsy9 ⟨j, hj⟩
        simp only at bl3
        have CO := pdof9_ok (j : Int) j rfl hj w3
        generalize dsS9.getD (j * 2) 0 = z3 at *
        generalize dsS9.getD (j * 2 + 1) 0 = m3 at *
        obtain ⟨M3, rfl⟩ : ∃ M : Nat, m3 = (M : Int) := ⟨m3.toNat, by omega⟩
        rw [Int.toNat_natCast] at hv3
        obtain ⟨Q3, hQ3⟩ : ∃ Q : Int, wrap64 (2 ^ M3) = Q := ⟨_, rfl⟩
        rw [← (shl9 ⟨M3, by omega⟩), hQ3] at hv3
        have e3 : z3 + (d - z3) = d := by omega
        have f3 : 0 ≤ d - z3 := by omega
        have g3 : (j : Int) ≤ 29 := by omega
        clear t2
        go_wp2_with fail
        refine CO.mono ?_
        rintro e w4 ⟨rfl, b4⟩
        have B4 : Below w.heap.size w w4 := (B2.trans (b3.mono B2.size)).trans (b4.mono (by have := B2.size; have := b3.size; omega))
        clear CO b3 b4
        go_wp2_with fail
        refine (plives9 w4).mono ?_
        rintro e w5 ⟨rfl, b5⟩
        go_wp2_with fail
        go_ret
        exact ⟨rfl, B4.trans (b5.mono B4.size)⟩
      · refine (pdsy9_no d (by omega) w2).mono ?_
        rintro e w3 ⟨rfl, hw3⟩
        rw [hw3]
        clear hw3 w3
        by_cases k1 : 1 ≤ d
        · have k2 : ¬ d ≤ 32768 := by omega
          go_wp2_with fail
          refine (plives9 w2).mono ?_
          rintro e w5 ⟨rfl, b5⟩
          go_wp2_with fail
          go_ret
          exact ⟨rfl, B2.trans (b5.mono B2.size)⟩
        · go_wp2_with fail
          refine (plives9 w2).mono ?_
          rintro e w5 ⟨rfl, b5⟩
          go_wp2_with fail
          go_ret
          exact ⟨rfl, B2.trans (b5.mono B2.size)⟩
    · go_enter Tryz.func4, Tryz.ntmps4
      go_wp2_with fail
      refine (plsy9_no n (by omega) w).mono ?_
      rintro e w2 ⟨rfl, hw2⟩
      have B2 : Below w.heap.size w w2 := by rw [hw2]; exact Below.refl _ _
      clear hw2
      go_wp2_with fail
      by_cases h2 : 1 ≤ d ∧ d ≤ 32768
      · have k1 := h2.1
        have k2 := h2.2
        refine (pdsy9_ok d k1 k2 w2).mono ?_
        rintro e w3 ⟨j, hj, t1, t2, rfl, b3⟩
        have hv3 := ds_in9 k2 hj t1 t2
        have bl3 := bd_pdsy9 ⟨j, hj⟩
        simp only at bl3
        have CO := pdof9_ok (j : Int) j rfl hj w3
        generalize dsS9.getD (j * 2) 0 = z3 at *
        generalize dsS9.getD (j * 2 + 1) 0 = m3 at *
        obtain ⟨M3, rfl⟩ : ∃ M : Nat, m3 = (M : Int) := ⟨m3.toNat, by omega⟩
        rw [Int.toNat_natCast] at hv3
        obtain ⟨Q3, hQ3⟩ : ∃ Q : Int, wrap64 (2 ^ M3) = Q := ⟨_, rfl⟩
        rw [← (shl9 ⟨M3, by omega⟩), hQ3] at hv3
        have e3 : z3 + (d - z3) = d := by omega
        have f3 : 0 ≤ d - z3 := by omega
        have g3 : (j : Int) ≤ 29 := by omega
        clear t2
        go_wp2_with fail
        refine CO.mono ?_
        rintro e w4 ⟨rfl, b4⟩
        have B4 : Below w.heap.size w w4 := (B2.trans (b3.mono B2.size)).trans (b4.mono (by have := B2.size; have := b3.size; omega))
        clear CO b3 b4
        go_wp2_with fail
        refine (plives9 w4).mono ?_
        rintro e w5 ⟨rfl, b5⟩
        go_wp2_with fail
        go_ret
        exact ⟨rfl, B4.trans (b5.mono B4.size)⟩
      · refine (pdsy9_no d (by omega) w2).mono ?_
        rintro e w3 ⟨rfl, hw3⟩
        rw [hw3]
        clear hw3 w3
        by_cases k1 : 1 ≤ d
        · have k2 : ¬ d ≤ 32768 := by omega
          go_wp2_with fail
          refine (plives9 w2).mono ?_
          rintro e w5 ⟨rfl, b5⟩
          go_wp2_with fail
          go_ret
          exact ⟨rfl, B2.trans (b5.mono B2.size)⟩
        · go_wp2_with fail
          refine (plives9 w2).mono ?_
          rintro e w5 ⟨rfl, b5⟩
          go_wp2_with fail
          go_ret
          exact ⟨rfl, B2.trans (b5.mono B2.size)⟩
end Go.Proofs.YtcifalelnfeggaaGreatDoor

namespace Go.Proofs.YtcifalelnfeggaaGreatDoor
open Go.RowKit
set_option linter.unusedVariables false

/-! The document's tables of spans: Lens, Dists. -/
theorem info_beg9 : (Tryz.prog.info? 30).map (fun i => (i.zero, i.size, i.bytes)) = some (some (.agg #[.int .i64 0, .int .i64 0]), 2, 16) := by kernel_rfl
def bg9 (L : List Int) (i : Nat) : Rn8 := ⟨L.getD (i * 2) 0, L.getD (i * 2 + 1) 0⟩
def br9 (L : List Int) (k : Nat) : List Rn8 := (List.range k).map (bg9 L)
theorem br9_len (L : List Int) (k : Nat) : (br9 L k).length = k := by simp [br9]
theorem br9_succ (L : List Int) (k : Nat) : br9 L (k + 1) = br9 L k ++ [bg9 L k] := by simp [br9, List.range_succ]
theorem br9_get (L : List Int) {k i : Nat} (h : i < k) : (br9 L k).getD i ⟨0, 0⟩ = bg9 L i := by simp [br9, List.getD, h]
theorem wr9 {x : Int} (h : 0 ≤ x) (h2 : x ≤ 100000) : wrap64 x = x := by unfold wrap64; omega
theorem shb9 {M : Nat} (h : M ≤ 13) : 0 ≤ wrap64 (2 ^ M) ∧ wrap64 (2 ^ M) ≤ 8192 := by
  rw [shl9 ⟨M, by omega⟩]
  have h2 : (2 : Nat) ^ M ≤ 2 ^ 13 := Nat.pow_le_pow_right (by omega) h
  have e : ((2 : Int) ^ M) = ((2 ^ M : Nat) : Int) := by norm_cast
  have h13 : (2 : Nat) ^ 13 = 8192 := rfl
  show 0 ≤ (2 : Int) ^ M ∧ (2 : Int) ^ M ≤ 8192
  rw [e]
  generalize (2 : Nat) ^ M = p at h2
  omega

def nn9 (i : Nat) : Int := if i < 28 then lnS9.getD (i * 2) 0 else 259
set_option maxRecDepth 100000 in
theorem st_nn9 : ∀ i : Fin 28, (if 8 ≤ i.val then ((i.val : Int) - 4) / 4 else 0) = lnS9.getD (i.val * 2 + 1) 0 ∧ nn9 i.val + 2 ^ (lnS9.getD (i.val * 2 + 1) 0).toNat = nn9 (i.val + 1) ∧ nn9 i.val = lnS9.getD (i.val * 2) 0 ∧ 0 ≤ nn9 i.val ∧ nn9 i.val ≤ 40000 := by decide
set_option maxRecDepth 100000 in
set_option maxHeartbeats 4000000 in
theorem rlens9 (w : World) :
    Calls Tryz.prog 14 #[] w fun e w' => ∃ la lc, e = .returned (.slice la 29 lc) ∧ w'.ownsRow w.heap.size 30 2 (.slice la 29 lc) 29 (flatN (br9 lnS9 29)) ∧ Below w.heap.size w w' := by
  obtain ⟨i0, hi, hz0, hz1, hz2⟩ := info_parts info_beg9
  go_enter Tryz.func14, Tryz.ntmps14
  go_wp2_with fail
  go_loopw [1, 2, 3] (fun tl tn ti wr => ∃ (i : Nat) (la : Option Addr) (lc : Nat), i ≤ 28 ∧ tl = .slice la i lc ∧ tn = .int .i64 (nn9 i) ∧ ti = .int .i64 (i : Int) ∧ wr.ownsRow w.heap.size 30 2 (.slice la i lc) i (flatN (br9 lnS9 i)) ∧ Below w.heap.size w wr) (fun _ _ ti _ => 28 - (intOf ti).toNat)
  case atStart => exact ⟨0, none, 0, by omega, rfl, rfl, rfl, World.ownsRow_nil _ _ _ _, Below.refl _ _⟩
  case round =>
    obtain ⟨i, la, lc, hin, rfl, rfl, rfl, OO, BR⟩ := hrel
    have hsz := BR.size
    by_cases hlt : i < 28
    · have hlti : (i : Int) < 28 := by omega
      obtain ⟨q1, q2, q3, q4, q5⟩ := st_nn9 ⟨i, hlt⟩
      simp only at q1 q2 q3 q4 q5
      have bl : 0 ≤ lnS9.getD (i * 2 + 1) 0 ∧ lnS9.getD (i * 2 + 1) 0 ≤ 13 := lnb9 i
      have HL : Hid (br9 lnS9 (i + 1) = br9 lnS9 i ++ [⟨nn9 i, lnS9.getD (i * 2 + 1) 0⟩]) := by show _ = _; rw [br9_succ]; unfold bg9; rw [← q3]
      obtain ⟨N1, hN1⟩ : ∃ N1, N1 = nn9 (i + 1) := ⟨_, rfl⟩
      have HN1 : Hid (N1 = nn9 (i + 1)) := hN1
      rw [← hN1] at q2
      clear q3 hN1
      generalize nn9 i = N at *
      generalize lnS9.getD (i * 2 + 1) 0 = m at *
      obtain ⟨M, rfl⟩ : ∃ M : Nat, m = (M : Int) := ⟨m.toNat, by omega⟩
      rw [Int.toNat_natCast, ← shl9 ⟨M, by omega⟩] at q2
      have hS2 := shb9 (M := M) (by omega)
      obtain ⟨S, hS⟩ : ∃ S : Int, wrap64 (2 ^ M) = S := ⟨_, rfl⟩
      have HQ : Hid (N + S = N1) := by show _ = _; rw [← hS]; exact q2
      rw [hS] at hS2
      clear q2
      have HW : Hid (wrap64 (N + S) = N + S) := wr9 (Int.add_nonneg q4 hS2.1) (Int.le_trans (Int.add_le_add q5 hS2.2) (by decide))
      have hMb : (M : Int) ≤ 13 := bl.2
      by_cases h8 : 8 ≤ i
      · rw [if_pos h8] at q1
        have h8i : (8 : Int) ≤ (i : Int) := by omega
        have i5 : ((i : Int) - 4).tdiv 4 = (M : Int) := by rw [← q1]; exact Int.tdiv_eq_ediv_of_nonneg (by omega)
        go_wp2_with (first | (at_builtin; refine wpList_appN rfl (.tmp 14) (.tmp 18) 31 rfl w.heap.size 30 i0 _ 16 Tryz.underlying31 hi hz0 hz1 hz2 rfl wr ⟨N, (M : Int)⟩ OO rfl rfl (by omega) (by omega) hsz ?_; intro ga gc w3 own3 hk3 hat3))
        have B3 : Below w.heap.size w w3 := BR.trans (hk3.below (fun q e => (OO.lt q e).1) hsz)
        have O3 : w3.ownsRow w.heap.size 30 2 (.slice (some ⟨ga, 0, none⟩) (i + 1) gc) (i + 1) (flatN (br9 lnS9 (i + 1))) := by rw [HL.out]; exact own3
        clear hk3 hat3 HL own3 OO BR
        go_wp2_with fail
        go_roundw
        case rel => exact ⟨i + 1, _, gc, by omega, rfl, by (first | (rw [← HN1.out, ← HQ.out]; done) | (rw [← HN1.out, ← HQ.out]; exact congrArg _ HW.out)), by go_num, O3, B3⟩
        case measure => simp [intOf]; omega
      · rw [if_neg h8] at q1
        have h8i : ¬ (8 : Int) ≤ (i : Int) := by omega
        have hM0 : M = 0 := by omega
        subst hM0
        have hS1 : S = 1 := by rw [← hS]; have := shl9 ⟨0, by omega⟩; simpa using this
        subst hS1
        clear hS q1 bl hMb hS2
        go_wp2_with (first | (at_builtin; refine wpList_appN rfl (.tmp 14) (.tmp 18) 31 rfl w.heap.size 30 i0 _ 16 Tryz.underlying31 hi hz0 hz1 hz2 rfl wr ⟨N, 0⟩ OO rfl rfl (by omega) (by omega) hsz ?_; intro ga gc w3 own3 hk3 hat3))
        have B3 : Below w.heap.size w w3 := BR.trans (hk3.below (fun q e => (OO.lt q e).1) hsz)
        have O3 : w3.ownsRow w.heap.size 30 2 (.slice (some ⟨ga, 0, none⟩) (i + 1) gc) (i + 1) (flatN (br9 lnS9 (i + 1))) := by rw [HL.out]; exact own3
        clear hk3 hat3 HL own3 OO BR
        go_wp2_with fail
        go_roundw
        case rel => exact ⟨i + 1, _, gc, by omega, rfl, by (first | (rw [← HN1.out, ← HQ.out]; done) | (rw [← HN1.out, ← HQ.out]; exact congrArg _ HW.out)), by go_num, O3, B3⟩
        case measure => simp [intOf]; omega
    · have hge : ¬ (i : Int) < 28 := by omega
      obtain rfl : i = 28 := by omega
      go_wp2_with (first | (at_builtin; refine wpList_appN rfl (.tmp 24) (.tmp 26) 31 rfl w.heap.size 30 i0 _ 16 Tryz.underlying31 hi hz0 hz1 hz2 rfl wr ⟨258, 0⟩ OO rfl rfl (by omega) (by omega) hsz ?_; intro ga gc w3 own3 hk3 hat3))
      have B3 : Below w.heap.size w w3 := BR.trans (hk3.below (fun q e => (OO.lt q e).1) hsz)
      clear hk3 hat3 OO BR
      go_wp2_with fail
      go_ret
      refine ⟨some ⟨ga, 0, none⟩, gc, rfl, ?_, B3⟩
      rw [show br9 lnS9 29 = br9 lnS9 28 ++ [⟨258, 0⟩] from br9_succ _ _]
      exact own3

def nd9 (i : Nat) : Int := if i < 30 then dsS9.getD (i * 2) 0 else 32769
set_option maxRecDepth 100000 in
theorem st_nd9 : ∀ i : Fin 30, (if 4 ≤ i.val then ((i.val : Int) - 2) / 2 else 0) = dsS9.getD (i.val * 2 + 1) 0 ∧ nd9 i.val + 2 ^ (dsS9.getD (i.val * 2 + 1) 0).toNat = nd9 (i.val + 1) ∧ nd9 i.val = dsS9.getD (i.val * 2) 0 ∧ 0 ≤ nd9 i.val ∧ nd9 i.val ≤ 40000 := by decide
set_option maxRecDepth 100000 in
set_option maxHeartbeats 4000000 in
theorem rdists9 (w : World) :
    Calls Tryz.prog 17 #[] w fun e w' => ∃ la lc, e = .returned (.slice la 30 lc) ∧ w'.ownsRow w.heap.size 30 2 (.slice la 30 lc) 30 (flatN (br9 dsS9 30)) ∧ Below w.heap.size w w' := by
  obtain ⟨i0, hi, hz0, hz1, hz2⟩ := info_parts info_beg9
  go_enter Tryz.func17, Tryz.ntmps17
  go_wp2_with fail
  go_loopw [1, 2, 3] (fun tl tn ti wr => ∃ (i : Nat) (la : Option Addr) (lc : Nat), i ≤ 30 ∧ tl = .slice la i lc ∧ tn = .int .i64 (nd9 i) ∧ ti = .int .i64 (i : Int) ∧ wr.ownsRow w.heap.size 30 2 (.slice la i lc) i (flatN (br9 dsS9 i)) ∧ Below w.heap.size w wr) (fun _ _ ti _ => 30 - (intOf ti).toNat)
  case atStart => exact ⟨0, none, 0, by omega, rfl, rfl, rfl, World.ownsRow_nil _ _ _ _, Below.refl _ _⟩
  case round =>
    obtain ⟨i, la, lc, hin, rfl, rfl, rfl, OO, BR⟩ := hrel
    have hsz := BR.size
    by_cases hlt : i < 30
    · have hlti : (i : Int) < 30 := by omega
      obtain ⟨q1, q2, q3, q4, q5⟩ := st_nd9 ⟨i, hlt⟩
      simp only at q1 q2 q3 q4 q5
      have bl : 0 ≤ dsS9.getD (i * 2 + 1) 0 ∧ dsS9.getD (i * 2 + 1) 0 ≤ 13 := dsb9 i
      have HL : Hid (br9 dsS9 (i + 1) = br9 dsS9 i ++ [⟨nd9 i, dsS9.getD (i * 2 + 1) 0⟩]) := by show _ = _; rw [br9_succ]; unfold bg9; rw [← q3]
      obtain ⟨N1, hN1⟩ : ∃ N1, N1 = nd9 (i + 1) := ⟨_, rfl⟩
      have HN1 : Hid (N1 = nd9 (i + 1)) := hN1
      rw [← hN1] at q2
      clear q3 hN1
      generalize nd9 i = N at *
      generalize dsS9.getD (i * 2 + 1) 0 = m at *
      obtain ⟨M, rfl⟩ : ∃ M : Nat, m = (M : Int) := ⟨m.toNat, by omega⟩
      rw [Int.toNat_natCast, ← shl9 ⟨M, by omega⟩] at q2
      have hS2 := shb9 (M := M) (by omega)
      obtain ⟨S, hS⟩ : ∃ S : Int, wrap64 (2 ^ M) = S := ⟨_, rfl⟩
      have HQ : Hid (N + S = N1) := by show _ = _; rw [← hS]; exact q2
      rw [hS] at hS2
      clear q2
      have HW : Hid (wrap64 (N + S) = N + S) := wr9 (Int.add_nonneg q4 hS2.1) (Int.le_trans (Int.add_le_add q5 hS2.2) (by decide))
      have hMb : (M : Int) ≤ 13 := bl.2
      by_cases h8 : 4 ≤ i
      · rw [if_pos h8] at q1
        have h8i : (4 : Int) ≤ (i : Int) := by omega
        have i5 : ((i : Int) - 2).tdiv 2 = (M : Int) := by rw [← q1]; exact Int.tdiv_eq_ediv_of_nonneg (by omega)
        go_wp2_with (first | (at_builtin; refine wpList_appN rfl (.tmp 14) (.tmp 18) 31 rfl w.heap.size 30 i0 _ 16 Tryz.underlying31 hi hz0 hz1 hz2 rfl wr ⟨N, (M : Int)⟩ OO rfl rfl (by omega) (by omega) hsz ?_; intro ga gc w3 own3 hk3 hat3))
        have B3 : Below w.heap.size w w3 := BR.trans (hk3.below (fun q e => (OO.lt q e).1) hsz)
        have O3 : w3.ownsRow w.heap.size 30 2 (.slice (some ⟨ga, 0, none⟩) (i + 1) gc) (i + 1) (flatN (br9 dsS9 (i + 1))) := by rw [HL.out]; exact own3
        clear hk3 hat3 HL own3 OO BR
        go_wp2_with fail
        go_roundw
        case rel => exact ⟨i + 1, _, gc, by omega, rfl, by (first | (rw [← HN1.out, ← HQ.out]; done) | (rw [← HN1.out, ← HQ.out]; exact congrArg _ HW.out)), by go_num, O3, B3⟩
        case measure => simp [intOf]; omega
      · rw [if_neg h8] at q1
        have h8i : ¬ (4 : Int) ≤ (i : Int) := by omega
        have hM0 : M = 0 := by omega
        subst hM0
        have hS1 : S = 1 := by rw [← hS]; have := shl9 ⟨0, by omega⟩; simpa using this
        subst hS1
        clear hS q1 bl hMb hS2
        go_wp2_with (first | (at_builtin; refine wpList_appN rfl (.tmp 14) (.tmp 18) 31 rfl w.heap.size 30 i0 _ 16 Tryz.underlying31 hi hz0 hz1 hz2 rfl wr ⟨N, 0⟩ OO rfl rfl (by omega) (by omega) hsz ?_; intro ga gc w3 own3 hk3 hat3))
        have B3 : Below w.heap.size w w3 := BR.trans (hk3.below (fun q e => (OO.lt q e).1) hsz)
        have O3 : w3.ownsRow w.heap.size 30 2 (.slice (some ⟨ga, 0, none⟩) (i + 1) gc) (i + 1) (flatN (br9 dsS9 (i + 1))) := by rw [HL.out]; exact own3
        clear hk3 hat3 HL own3 OO BR
        go_wp2_with fail
        go_roundw
        case rel => exact ⟨i + 1, _, gc, by omega, rfl, by (first | (rw [← HN1.out, ← HQ.out]; done) | (rw [← HN1.out, ← HQ.out]; exact congrArg _ HW.out)), by go_num, O3, B3⟩
        case measure => simp [intOf]; omega
    · have hge : ¬ (i : Int) < 30 := by omega
      obtain rfl : i = 30 := by omega
      go_wp2_with fail
      go_ret
      exact ⟨la, lc, rfl, OO, BR⟩
end Go.Proofs.YtcifalelnfeggaaGreatDoor

namespace Go.Proofs.YtcifalelnfeggaaGreatDoor
open Go.RowKit
set_option linter.unusedVariables false

/-! The document's find, LenSymbol, DistSymbol; both sides' symbols in closed form. -/
def fnd9 (R : List Rn8) (x : Int) : Nat → Nat
  | 0 => 0
  | k + 1 => if (R.getD k ⟨0, 0⟩).sy ≤ x then k else fnd9 R x k
theorem fnd9_ok (R : List Rn8) (x : Int) (h0 : (R.getD 0 ⟨0, 0⟩).sy ≤ x) : ∀ k, 0 < k → fnd9 R x k < k ∧ (R.getD (fnd9 R x k) ⟨0, 0⟩).sy ≤ x ∧ ∀ j, fnd9 R x k < j → j < k → x < (R.getD j ⟨0, 0⟩).sy
  | 0, h => by omega
  | k + 1, _ => by
    rw [fnd9]
    by_cases h : (R.getD k ⟨0, 0⟩).sy ≤ x
    · rw [if_pos h]
      exact ⟨by omega, h, fun j h1 h2 => by omega⟩
    · rw [if_neg h]
      have hk : 0 < k := by
        rcases Nat.eq_zero_or_pos k with rfl | hk
        · exact absurd h0 h
        · exact hk
      obtain ⟨a, b, c⟩ := fnd9_ok R x h0 k hk
      refine ⟨by omega, b, fun j h1 h2 => ?_⟩
      by_cases hj : j < k
      · exact c j h1 hj
      · obtain rfl : j = k := by omega
        omega
theorem spec9 (S : List Int) (n : Nat) (x : Int) (hn : 0 < n) (hm : ∀ a b, a ≤ b → b < n → S.getD (a * 2) 0 ≤ S.getD (b * 2) 0) (h0 : S.getD 0 0 ≤ x) : fnd9 (br9 S n) x n = ixo9 S n x ∧ ixo9 S n x < n ∧ S.getD (ixo9 S n x * 2) 0 ≤ x ∧ ∀ k, ixo9 S n x < k → k < n → x < S.getD (k * 2) 0 := by
  obtain ⟨a, b, c⟩ := fnd9_ok (br9 S n) x (by rw [br9_get S hn]; simpa [bg9] using h0) n hn
  rw [br9_get S a] at b
  have c' : ∀ k, fnd9 (br9 S n) x n < k → k < n → x < S.getD (k * 2) 0 := fun k h1 h2 => by
    have := c k h1 h2
    rw [br9_get S h2] at this
    exact this
  have e := ixo9_eq hm a b c'
  rw [e]
  exact ⟨rfl, a, b, c'⟩
theorem lspec9 {x : Int} (h1 : 3 ≤ x) : fnd9 (br9 lnS9 29) x 29 = lix9 x ∧ lix9 x < 29 ∧ lnS9.getD (lix9 x * 2) 0 ≤ x ∧ ∀ k, lix9 x < k → k < 29 → x < lnS9.getD (k * 2) 0 :=
  spec9 lnS9 29 x (by omega) (fun a b h1 h2 => mono_plsy9 ⟨b, h2⟩ ⟨a, by omega⟩ h1) (by show 3 ≤ x; omega)
theorem dspec9 {x : Int} (h1 : 1 ≤ x) : fnd9 (br9 dsS9 30) x 30 = dix9 x ∧ dix9 x < 30 ∧ dsS9.getD (dix9 x * 2) 0 ≤ x ∧ ∀ k, dix9 x < k → k < 30 → x < dsS9.getD (k * 2) 0 :=
  spec9 dsS9 30 x (by omega) (fun a b h1 h2 => mono_pdsy9 ⟨b, h2⟩ ⟨a, by omega⟩ h1) (by show 1 ≤ x; omega)
theorem plsy9_is (x : Int) (h1 : 3 ≤ x) (h2 : x ≤ 258) (w : World) :
    Calls Tryz.prog 9 #[.int .i64 x] w fun e w' => e = .returned (.tuple #[.int .i64 (257 + (lix9 x : Int)), .int .i64 (lnS9.getD (lix9 x * 2 + 1) 0), .int .i64 (x - lnS9.getD (lix9 x * 2) 0), .int .i64 0]) ∧ Below w.heap.size w w' := by
  refine (plsy9_ok x h1 h2 w).mono ?_
  rintro e w1 ⟨i, hi, s1, s2, rfl, b1⟩
  have HI : lix9 x = i := ixo9_eq (fun a b h1 h2 => mono_plsy9 ⟨b, h2⟩ ⟨a, by omega⟩ h1) hi s1 s2
  rw [HI]
  exact ⟨rfl, b1⟩
theorem pdsy9_is (x : Int) (h1 : 1 ≤ x) (h2 : x ≤ 32768) (w : World) :
    Calls Tryz.prog 11 #[.int .i64 x] w fun e w' => e = .returned (.tuple #[.int .i64 (dix9 x : Int), .int .i64 (dsS9.getD (dix9 x * 2 + 1) 0), .int .i64 (x - dsS9.getD (dix9 x * 2) 0), .int .i64 0]) ∧ Below w.heap.size w w' := by
  refine (pdsy9_ok x h1 h2 w).mono ?_
  rintro e w1 ⟨i, hi, s1, s2, rfl, b1⟩
  have HI : dix9 x = i := ixo9_eq (fun a b h1 h2 => mono_pdsy9 ⟨b, h2⟩ ⟨a, by omega⟩ h1) hi s1 s2
  rw [HI]
  exact ⟨rfl, b1⟩
set_option maxRecDepth 100000 in
set_option maxHeartbeats 4000000 in
theorem rfind9 (R : List Rn8) (a : Option Addr) (n cap : Nat) (x : Int) (hn : Hid (R.length = n)) (w : World) (hs : SegN w a R) (hl : n ≤ 1000) :
    Calls Tryz.prog 44 #[.slice a n cap, .int .i64 x] w fun e w' => e = .returned (.int .i64 (fnd9 R x n : Int)) ∧ Below w.heap.size w w' := by
  have HS : Hid (SegN w a R) := hs
  clear hs
  go_enter Tryz.func44, Tryz.ntmps44
  go_wp2_with fail
  go_loopw [5, 10] (fun tk ti wr => ∃ (i k : Nat), i ≤ n ∧ ti = .int .i64 (i : Int) ∧ tk = .int .i64 (k : Int) ∧ Hid (k = fnd9 R x i) ∧ Below w.heap.size w wr) (fun _ ti _ => n - (intOf ti).toNat)
  case atStart => exact ⟨0, 0, by omega, rfl, rfl, rfl, Below.refl _ _⟩
  case round =>
    obtain ⟨i, k, hin, rfl, rfl, HK, BR⟩ := hrel
    by_cases hlt : i < n
    · have hlti : (i : Int) < (n : Int) := by omega
      have hil : i < R.length := by rw [hn.out]; exact hlt
      obtain ⟨b, off, rfl, cs, cc⟩ := ((show SegN w a R from HS.out).old BR).at_ i hil
      have HF : Hid (fnd9 R x (i + 1) = if (R.getD i ⟨0, 0⟩).sy ≤ x then i else fnd9 R x i) := rfl
      generalize R.getD i ⟨0, 0⟩ = r at *
      obtain ⟨sy, ct⟩ := r
      simp only at cs cc HF
      have HB : Hid (Below w.heap.size w (wr.alloc (.cells #[.int .i64 sy, .int .i64 ct] 30))) := BR.trans ((below_box8 wr _).mono BR.size)
      by_cases hx : sy ≤ x
      · rw [if_pos hx] at HF
        go_wp2_with fail
        go_roundw
        case rel => exact ⟨i + 1, i, by omega, by go_num, rfl, HF.out.symm, HB.out⟩
        case measure => simp [intOf]; omega
      · rw [if_neg hx] at HF
        go_wp2_with fail
        go_roundw
        case rel => exact ⟨i + 1, k, by omega, by go_num, rfl, HK.out.trans HF.out.symm, HB.out⟩
        case measure => simp [intOf]; omega
    · have hge : ¬ (i : Int) < (n : Int) := by omega
      have HE : Hid (fnd9 R x n = k) := by show _ = _; rw [HK.out, show i = n by omega]
      go_wp2_with fail
      go_ret
      exact ⟨by rw [HE.out]; rfl, BR⟩

set_option maxRecDepth 100000 in
set_option maxHeartbeats 4000000 in
theorem rlsy9_no (x : Int) (h : x < 3 ∨ 258 < x) (w : World) :
    Calls Tryz.prog 10 #[.int .i64 x] w fun e w' => e = .returned (.tuple #[.int .i64 0, .int .i64 0, .int .i64 0, .int .i64 1]) ∧ w' = w := by
  by_cases h1 : x < 3
  · go_enter Tryz.func10, Tryz.ntmps10
    go_wp2_with fail
    refine bodyPost_ret (results_tmp49 rfl _ _) rfl ?_
    exact ⟨rfl, rfl⟩
  · have h2 : 258 < x := by omega
    go_enter Tryz.func10, Tryz.ntmps10
    go_wp2_with fail
    refine bodyPost_ret (results_tmp49 rfl _ _) rfl ?_
    exact ⟨rfl, rfl⟩
set_option maxRecDepth 100000 in
set_option maxHeartbeats 4000000 in
theorem rlsy9_is (x : Int) (h1 : 3 ≤ x) (h2 : x ≤ 258) (w : World) :
    Calls Tryz.prog 10 #[.int .i64 x] w fun e w' => e = .returned (.tuple #[.int .i64 (257 + (lix9 x : Int)), .int .i64 (lnS9.getD (lix9 x * 2 + 1) 0), .int .i64 (x - lnS9.getD (lix9 x * 2) 0), .int .i64 0]) ∧ Below w.heap.size w w' := by
  have j1 : ¬ x < 3 := by omega
  have j2 : ¬ (258 : Int) < x := by omega
  obtain ⟨s0, s1, s2, _⟩ := lspec9 h1
  have bb := bd_plsy9 ⟨lix9 x, s1⟩
  simp only at bb
  obtain ⟨i, hi⟩ : ∃ i, i = lix9 x := ⟨_, rfl⟩
  obtain ⟨z0, hz0⟩ : ∃ z, z = lnS9.getD (i * 2) 0 := ⟨_, rfl⟩
  obtain ⟨z1, hz1⟩ : ∃ z, z = lnS9.getD (i * 2 + 1) 0 := ⟨_, rfl⟩
  rw [← hi] at bb s0 s1 s2
  rw [← hz0] at bb s2
  rw [← hz1] at bb
  rw [← hi, ← hz0, ← hz1]
  have HZ : Hid (lnS9.getD (i * 2) 0 = z0 ∧ lnS9.getD (i * 2 + 1) 0 = z1) := ⟨hz0.symm, hz1.symm⟩
  clear hz0 hz1 hi
  go_enter Tryz.func10, Tryz.ntmps10
  go_wp2_with fail
  refine (rlens9 w).mono ?_
  rintro e w1 ⟨la, lc, rfl, O1, b1⟩
  have sg := own_segN O1 (br9_len _ _)
  have CF := rfind9 (br9 lnS9 29) la 29 lc x (br9_len _ _) w1 sg (by omega)
  rw [s0] at CF
  clear O1 s0
  go_wp2_with fail
  refine CF.mono ?_
  rintro e w2 ⟨rfl, b2⟩
  obtain ⟨b, off, rfl, cs, cc⟩ := (sg.old b2).at_ i (by rw [br9_len]; exact s1)
  rw [br9_get _ s1] at cs cc
  unfold bg9 at cs cc
  simp only at cs cc
  rw [HZ.out.1] at cs
  rw [HZ.out.2] at cc
  have B2 : Below w.heap.size w w2 := b1.trans (b2.mono b1.size)
  clear CF sg b1 b2 HZ
  have hii : (i : Int) < 29 := by omega
  have i2 : IntKind.i64.wrap (x - z0) = x - z0 := IntWalk.i64_in _ (by omega)
  have i3 : IntKind.i64.wrap (257 + (i : Int)) = 257 + (i : Int) := IntWalk.i64_in _ (by omega)
  go_wp2_with fail
  go_region_held3 (fun w' => w'.cell? ⟨b, off + i * 2, none⟩ = some (.int .i64 z0) ∧ w'.cell? ⟨b, off + i * 2 + 1, none⟩ = some (.int .i64 z1)) (exact ⟨cs, cc⟩) (fail)
  go_wp2_with fail
  refine bodyPost_ret (results_tmp49 rfl _ _) rfl ?_
  exact ⟨rfl, B2.drew⟩

set_option maxRecDepth 100000 in
set_option maxHeartbeats 4000000 in
theorem rdsy9_no (x : Int) (h : x < 1 ∨ 32768 < x) (w : World) :
    Calls Tryz.prog 12 #[.int .i64 x] w fun e w' => e = .returned (.tuple #[.int .i64 0, .int .i64 0, .int .i64 0, .int .i64 1]) ∧ w' = w := by
  by_cases h1 : x < 1
  · go_enter Tryz.func12, Tryz.ntmps12
    go_wp2_with fail
    refine bodyPost_ret (results_tmp49 rfl _ _) rfl ?_
    exact ⟨rfl, rfl⟩
  · have h2 : 32768 < x := by omega
    go_enter Tryz.func12, Tryz.ntmps12
    go_wp2_with fail
    refine bodyPost_ret (results_tmp49 rfl _ _) rfl ?_
    exact ⟨rfl, rfl⟩
set_option maxRecDepth 100000 in
set_option maxHeartbeats 4000000 in
theorem rdsy9_is (x : Int) (h1 : 1 ≤ x) (h2 : x ≤ 32768) (w : World) :
    Calls Tryz.prog 12 #[.int .i64 x] w fun e w' => e = .returned (.tuple #[.int .i64 ((dix9 x : Int)), .int .i64 (dsS9.getD (dix9 x * 2 + 1) 0), .int .i64 (x - dsS9.getD (dix9 x * 2) 0), .int .i64 0]) ∧ Below w.heap.size w w' := by
  have j1 : ¬ x < 1 := by omega
  have j2 : ¬ (32768 : Int) < x := by omega
  obtain ⟨s0, s1, s2, _⟩ := dspec9 h1
  have bb := bd_pdsy9 ⟨dix9 x, s1⟩
  simp only at bb
  obtain ⟨i, hi⟩ : ∃ i, i = dix9 x := ⟨_, rfl⟩
  obtain ⟨z0, hz0⟩ : ∃ z, z = dsS9.getD (i * 2) 0 := ⟨_, rfl⟩
  obtain ⟨z1, hz1⟩ : ∃ z, z = dsS9.getD (i * 2 + 1) 0 := ⟨_, rfl⟩
  rw [← hi] at bb s0 s1 s2
  rw [← hz0] at bb s2
  rw [← hz1] at bb
  rw [← hi, ← hz0, ← hz1]
  have HZ : Hid (dsS9.getD (i * 2) 0 = z0 ∧ dsS9.getD (i * 2 + 1) 0 = z1) := ⟨hz0.symm, hz1.symm⟩
  clear hz0 hz1 hi
  go_enter Tryz.func12, Tryz.ntmps12
  go_wp2_with fail
  refine (rdists9 w).mono ?_
  rintro e w1 ⟨la, lc, rfl, O1, b1⟩
  have sg := own_segN O1 (br9_len _ _)
  have CF := rfind9 (br9 dsS9 30) la 30 lc x (br9_len _ _) w1 sg (by omega)
  rw [s0] at CF
  clear O1 s0
  go_wp2_with fail
  refine CF.mono ?_
  rintro e w2 ⟨rfl, b2⟩
  obtain ⟨b, off, rfl, cs, cc⟩ := (sg.old b2).at_ i (by rw [br9_len]; exact s1)
  rw [br9_get _ s1] at cs cc
  unfold bg9 at cs cc
  simp only at cs cc
  rw [HZ.out.1] at cs
  rw [HZ.out.2] at cc
  have B2 : Below w.heap.size w w2 := b1.trans (b2.mono b1.size)
  clear CF sg b1 b2 HZ
  have hii : (i : Int) < 30 := by omega
  have i2 : IntKind.i64.wrap (x - z0) = x - z0 := IntWalk.i64_in _ (by omega)
  have i3 : IntKind.i64.wrap (257 + (i : Int)) = 257 + (i : Int) := IntWalk.i64_in _ (by omega)
  go_wp2_with fail
  go_region_held3 (fun w' => w'.cell? ⟨b, off + i * 2, none⟩ = some (.int .i64 z0) ∧ w'.cell? ⟨b, off + i * 2 + 1, none⟩ = some (.int .i64 z1)) (exact ⟨cs, cc⟩) (fail)
  go_wp2_with fail
  refine bodyPost_ret (results_tmp49 rfl _ _) rfl ?_
  exact ⟨rfl, B2.drew⟩
end Go.Proofs.YtcifalelnfeggaaGreatDoor

namespace Go.Proofs.YtcifalelnfeggaaGreatDoor
open Go.RowKit
set_option linter.unusedVariables false

/-! The document's may, PlainLens. -/
def mer9 (l : List Tok7) : Int := if 65536 < l.length then 90 else if ∀ t ∈ l, may7 t then 0 else 91
theorem mer9_ok {l : List Tok7} (h1 : l.length ≤ 65536) (h2 : ∀ t ∈ l, may7 t) : mer9 l = 0 := by unfold mer9; rw [if_neg (by omega), if_pos h2]
theorem mer9_zero {l : List Tok7} (h : mer9 l = 0) : l.length ≤ 65536 ∧ ∀ t ∈ l, may7 t := by
  unfold mer9 at h
  split at h
  · omega
  · split at h
    · rename_i h1 h2; exact ⟨by omega, h2⟩
    · omega
theorem mer9_no {l : List Tok7} (h : mer9 l ≠ 0) : mer9 l = 90 ∨ mer9 l = 91 := by
  unfold mer9 at *
  split
  · exact .inl rfl
  · split
    · rename_i h1 h2; rw [if_neg h1, if_pos h2] at h; omega
    · exact .inr rfl
set_option maxRecDepth 100000 in
set_option maxHeartbeats 4000000 in
theorem rmay9 (l : List Tok7) (a : Option Addr) (n cap : Nat) (hn : Hid (l.length = n)) (w : World) (hs : SegT w a l) (hl : n ≤ 5864062014634) :
    Calls Tryz.prog 48 #[.slice a n cap] w fun e w' => e = .returned (.int .i64 (mer9 l)) ∧ Below w.heap.size w w' := by
  have HS : Hid (SegT w a l) := hs
  clear hs
  by_cases hlong : 65536 < n
  · have hli : (65536 : Int) < (n : Int) := by omega
    have HE : Hid (mer9 l = 90) := by show _ = _; unfold mer9; rw [if_pos (by rw [hn.out]; exact hlong)]
    go_enter Tryz.func48, Tryz.ntmps48
    go_wp2_with fail
    go_ret
    exact ⟨by rw [HE.out]; rfl, Below.refl _ _⟩
  · have hli : ¬ (65536 : Int) < (n : Int) := by omega
    have HL : Hid (¬ 65536 < l.length) := by show ¬ _; rw [hn.out]; exact hlong
    go_enter Tryz.func48, Tryz.ntmps48
    go_wp2_with fail
    go_loopw [10] (fun ti wr => ∃ i : Nat, i ≤ n ∧ ti = .int .i64 (i : Int) ∧ Hid (∀ t ∈ l.take i, may7 t) ∧ Below w.heap.size w wr) (fun ti _ => n - (intOf ti).toNat)
    case atStart => exact ⟨0, by omega, rfl, (by rw [List.take_zero]; intro t h; cases h), Below.refl _ _⟩
    case round =>
      obtain ⟨i, hin, rfl, HM, BR⟩ := hrel
      by_cases hlt : i < n
      · have hlti : (i : Int) < (n : Int) := by omega
        have hil : i < l.length := by rw [hn.out]; exact hlt
        obtain ⟨g, o, rfl, tk⟩ := (HS.out.old BR).at_ i hil
        have HTK : Hid (l.take (i + 1) = l.take i ++ [l.getD i tk0]) := takeT7 hil
        have HMEM : Hid (l.getD i tk0 ∈ l) := by
          show _ ∈ _
          simp only [List.getD, List.getElem?_eq_getElem hil, Option.getD_some]; exact List.getElem_mem hil
        generalize l.getD i tk0 = t at *
        obtain ⟨lit, len, dist⟩ := t
        obtain ⟨x0, x1, x2⟩ := tk
        simp only at x0 x1 x2
        have B1 : Below w.heap.size w (wr.alloc (.cells #[.int .u8 lit, .int .i64 len, .int .i64 dist] 98)) := BR.trans ((below_box8 wr _).mono BR.size)
        have CM := rmay7 ⟨lit, len, dist⟩ (wr.alloc (.cells #[.int .u8 lit, .int .i64 len, .int .i64 dist] 98))
        have HB1 : Hid (Below w.heap.size w (wr.alloc (.cells #[.int .u8 lit, .int .i64 len, .int .i64 dist] 98))) := B1
        have HCM : Hid (Calls Tryz.prog 69 #[(⟨lit, len, dist⟩ : Tok7).val] (wr.alloc (.cells #[.int .u8 lit, .int .i64 len, .int .i64 dist] 98)) fun e w' => e = .returned (.bool (decide (may7 ⟨lit, len, dist⟩))) ∧ Below (wr.alloc (.cells #[.int .u8 lit, .int .i64 len, .int .i64 dist] 98)).heap.size (wr.alloc (.cells #[.int .u8 lit, .int .i64 len, .int .i64 dist] 98)) w') := CM
        clear B1 CM
        by_cases hm : may7 ⟨lit, len, dist⟩
        · go_wp2_with fail
          refine HCM.out.mono ?_
          rw [decide_eq_true hm]
          rintro e w3 ⟨rfl, b3⟩
          have B3 : Below w.heap.size w w3 := HB1.out.trans (b3.mono HB1.out.size)
          clear b3 HCM HB1
          go_wp2_with fail
          go_roundw
          case rel =>
            refine ⟨i + 1, by omega, by go_num, ?_, B3⟩
            show ∀ t ∈ l.take (i + 1), may7 t
            rw [HTK.out]
            intro t ht
            rcases List.mem_append.1 ht with h | h
            · exact HM.out t h
            · rw [List.mem_singleton.1 h]; exact hm
          case measure => simp [intOf]; omega
        · go_wp2_with fail
          refine HCM.out.mono ?_
          rw [decide_eq_false hm]
          rintro e w3 ⟨rfl, b3⟩
          have B3 : Below w.heap.size w w3 := HB1.out.trans (b3.mono HB1.out.size)
          have HE : Hid (mer9 l = 91) := by show _ = _; unfold mer9; rw [if_neg HL.out, if_neg (fun h => hm (h _ HMEM.out))]
          clear b3 HCM HB1
          go_wp2_with fail
          go_ret
          exact ⟨by rw [HE.out]; rfl, B3⟩
      · have hge : ¬ (i : Int) < (n : Int) := by omega
        have HE : Hid (mer9 l = 0) := by
          show _ = _
          unfold mer9
          rw [if_neg HL.out, if_pos]
          have := HM.out
          rwa [List.take_of_length_le (by rw [hn.out]; omega)] at this
        go_wp2_with fail
        go_ret
        exact ⟨by rw [HE.out]; rfl, BR⟩
theorem own_blk9 {w : World} {base n cap : Nat} {e : TypeId} {b : Option Addr} {xs : List Value} (h : w.ownsRow base e 1 (.slice b n cap) n xs) : ∀ x, b = some x → base ≤ x.block := by
  rcases h.2 with ⟨h1, _⟩ | ⟨g, cp, cur, h1, hb, _⟩
  · simp only [Value.slice.injEq] at h1
    intro x e; rw [h1.1] at e; cases e
  · simp only [Value.slice.injEq] at h1
    intro x e; rw [h1.1] at e; cases e; exact hb
def pln9 (i : Nat) : Int := if 256 ≤ i ∧ i < 280 then 7 else if 144 ≤ i ∧ i < 256 then 9 else 8
set_option maxRecDepth 100000 in
theorem pln9_is : plnL9 = (List.range 288).map pln9 := by kernel_rfl
theorem pln9_snoc {i : Nat} (h : i < 288) : plnL9.take (i + 1) = plnL9.take i ++ [pln9 i] := by
  rw [List.take_succ_eq_append_getElem (by rw [plnL9_len]; exact h)]
  congr 2
  simp [pln9_is]
def RpQ (w : World) (e : Ending) (w' : World) : Prop := ∃ la lc da dc, e = .returned (.tuple #[.slice la 288 lc, .slice da 32 dc]) ∧ SegZ w' la plnL9 ∧ SegZ w' da plnD9 ∧ (∀ x, la = some x → w.heap.size ≤ x.block) ∧ (∀ x, da = some x → w.heap.size ≤ x.block) ∧ Below w.heap.size w w'
set_option maxRecDepth 100000 in
set_option maxHeartbeats 4000000 in
theorem rplain9 (w : World) :
    Calls Tryz.prog 24 #[] w (RpQ w) := by
  obtain ⟨i0, hi, hz0, hz1, hz2⟩ := info_parts info_int
  go_enter Tryz.func24, Tryz.ntmps24
  go_wp2_with fail
  go_loopw [2, 4] (fun tl ti wr => ∃ (i : Nat) (la : Option Addr) (lc : Nat), i ≤ 288 ∧ ti = .int .i64 (i : Int) ∧ tl = .slice la i lc ∧ wr.ownsRow w.heap.size 3 1 (.slice la i lc) i ((plnL9.take i).map (Value.int .i64)) ∧ Below w.heap.size w wr) (fun _ ti _ => 288 - (intOf ti).toNat)
  case atStart => exact ⟨0, none, 0, by omega, rfl, rfl, by rw [List.take_zero]; exact World.ownsRow_nil _ _ _ _, Below.refl _ _⟩
  case round =>
    obtain ⟨i, la, lc, hi4, rfl, rfl, OO, BR⟩ := hrel
    have hsz := BR.size
    by_cases hlt : i < 288
    · have hlti : (i : Int) < 288 := by omega
      have HS : Hid (plnL9.take (i + 1) = plnL9.take i ++ [pln9 i]) := pln9_snoc hlt
      unfold pln9 at HS
      by_cases h1 : i < 144
      · have k1 : ¬ (144 : Int) ≤ (i : Int) := by omega
        have k2 : ¬ (256 : Int) ≤ (i : Int) := by omega
        rw [if_neg (by omega), if_neg (by omega)] at HS
        go_wp2_with (first | (at_builtin; refine wpList_appI rfl (.tmp 23) (.tmp 25) 39 rfl w.heap.size 3 i0 _ 8 Tryz.underlying39 hi hz0 hz1 hz2 rfl wr 8 OO rfl rfl (by omega) (by omega) hsz ?_; intro ga gc w3 own3 hk3 hat3))
        have B3 : Below w.heap.size w w3 := BR.trans (hk3.below (fun q e => (OO.lt q e).1) hsz)
        rw [← HS.out] at own3
        clear hk3 hat3 OO BR HS
        go_wp2_with fail
        go_roundw
        case rel => exact ⟨i + 1, _, gc, by omega, by go_num, rfl, own3, B3⟩
        case measure => simp [intOf]; omega
      by_cases h2 : i < 256
      · have k1 : (144 : Int) ≤ (i : Int) := by omega
        have k2 : ¬ (256 : Int) ≤ (i : Int) := by omega
        have k3 : (i : Int) < 256 := by omega
        rw [if_neg (by omega), if_pos (by omega)] at HS
        go_wp2_with (first | (at_builtin; refine wpList_appI rfl (.tmp 23) (.tmp 25) 39 rfl w.heap.size 3 i0 _ 8 Tryz.underlying39 hi hz0 hz1 hz2 rfl wr 9 OO rfl rfl (by omega) (by omega) hsz ?_; intro ga gc w3 own3 hk3 hat3))
        have B3 : Below w.heap.size w w3 := BR.trans (hk3.below (fun q e => (OO.lt q e).1) hsz)
        rw [← HS.out] at own3
        clear hk3 hat3 OO BR HS
        go_wp2_with fail
        go_roundw
        case rel => exact ⟨i + 1, _, gc, by omega, by go_num, rfl, own3, B3⟩
        case measure => simp [intOf]; omega
      by_cases h3 : i < 280
      · have k1 : (144 : Int) ≤ (i : Int) := by omega
        have k2 : (256 : Int) ≤ (i : Int) := by omega
        have k3 : ¬ (i : Int) < 256 := by omega
        have k4 : (i : Int) < 280 := by omega
        rw [if_pos (by omega)] at HS
        go_wp2_with (first | (at_builtin; refine wpList_appI rfl (.tmp 23) (.tmp 25) 39 rfl w.heap.size 3 i0 _ 8 Tryz.underlying39 hi hz0 hz1 hz2 rfl wr 7 OO rfl rfl (by omega) (by omega) hsz ?_; intro ga gc w3 own3 hk3 hat3))
        have B3 : Below w.heap.size w w3 := BR.trans (hk3.below (fun q e => (OO.lt q e).1) hsz)
        rw [← HS.out] at own3
        clear hk3 hat3 OO BR HS
        go_wp2_with fail
        go_roundw
        case rel => exact ⟨i + 1, _, gc, by omega, by go_num, rfl, own3, B3⟩
        case measure => simp [intOf]; omega
      · have k1 : (144 : Int) ≤ (i : Int) := by omega
        have k2 : (256 : Int) ≤ (i : Int) := by omega
        have k3 : ¬ (i : Int) < 256 := by omega
        have k4 : ¬ (i : Int) < 280 := by omega
        rw [if_neg (by omega), if_neg (by omega)] at HS
        go_wp2_with (first | (at_builtin; refine wpList_appI rfl (.tmp 23) (.tmp 25) 39 rfl w.heap.size 3 i0 _ 8 Tryz.underlying39 hi hz0 hz1 hz2 rfl wr 8 OO rfl rfl (by omega) (by omega) hsz ?_; intro ga gc w3 own3 hk3 hat3))
        have B3 : Below w.heap.size w w3 := BR.trans (hk3.below (fun q e => (OO.lt q e).1) hsz)
        rw [← HS.out] at own3
        clear hk3 hat3 OO BR HS
        go_wp2_with fail
        go_roundw
        case rel => exact ⟨i + 1, _, gc, by omega, by go_num, rfl, own3, B3⟩
        case measure => simp [intOf]; omega
    · have hge : ¬ (i : Int) < 288 := by omega
      obtain rfl : i = 288 := by omega
      rw [List.take_of_length_le (by rw [plnL9_len]; omega)] at OO
      have HOO : Hid (wr.ownsRow w.heap.size 3 1 (.slice la 288 lc) 288 (plnL9.map (Value.int .i64))) := OO
      have HBR : Hid (Below w.heap.size w wr) := BR
      clear OO BR hsz
      revert wr
      intro w1 HOO HBR
      go_wp2_with fail
      go_loopw [3, 6] (fun tl ti wr => ∃ (i : Nat) (da : Option Addr) (dc : Nat), i ≤ 32 ∧ ti = .int .i64 (i : Int) ∧ tl = .slice da i dc ∧ wr.ownsRow w1.heap.size 3 1 (.slice da i dc) i ((List.replicate i (5 : Int)).map (Value.int .i64)) ∧ Below w1.heap.size w1 wr) (fun _ ti _ => 32 - (intOf ti).toNat)
      case atStart => exact ⟨0, none, 0, by omega, rfl, rfl, World.ownsRow_nil _ _ _ _, Below.refl _ _⟩
      case round =>
        obtain ⟨i, da, dc, hi4, rfl, rfl, OO, BQ⟩ := hrel
        have hsq := BQ.size
        by_cases hlt : i < 32
        · have hlti : (i : Int) < 32 := by omega
          go_wp2_with (first | (at_builtin; refine wpList_appI rfl (.tmp 31) (.tmp 32) 39 rfl w1.heap.size 3 i0 _ 8 Tryz.underlying39 hi hz0 hz1 hz2 rfl wr 5 OO rfl rfl (by omega) (by omega) hsq ?_; intro ga gc w3 own3 hk3 hat3))
          have B3 : Below w1.heap.size w1 w3 := BQ.trans (hk3.below (fun q e => (OO.lt q e).1) hsq)
          have own3 : w3.ownsRow w1.heap.size 3 1 (.slice (some ⟨ga, 0, none⟩) (i + 1) gc) (i + 1) ((List.replicate (i + 1) (5 : Int)).map (Value.int .i64)) := by rw [List.replicate_succ']; exact own3
          clear hk3 hat3 OO BQ
          go_wp2_with fail
          go_roundw
          case rel => exact ⟨i + 1, _, gc, by omega, by go_num, rfl, own3, B3⟩
          case measure => simp [intOf]; omega
        · have hge : ¬ (i : Int) < 32 := by omega
          obtain rfl : i = 32 := by omega
          have SA := own_segZ (own_below HOO.out BQ) plnL9_bd
          have SD := own_segZ OO plnD9_bd
          go_wp2_with fail
          go_ret2
          refine ⟨la, lc, da, dc, rfl, SA, SD, own_blk9 HOO.out, fun x hx => Nat.le_trans HBR.out.size (own_blk9 OO x hx), HBR.out.trans (BQ.mono HBR.out.size)⟩
end Go.Proofs.YtcifalelnfeggaaGreatDoor
