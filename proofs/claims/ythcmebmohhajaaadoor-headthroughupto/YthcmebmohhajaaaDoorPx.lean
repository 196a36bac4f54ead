import Derived.Test.YthcmebmohhajaaaDoorPv
import Derived.Test.YthcmebmohhajaaaDoorPw
import Derived.Test.YthcmebmohhajaaaDoorPa
import Derived.WalkKit
import Derived.ProofKit
import Derived.OpenShut
import Derived.SizedLaws
import Derived.Test.YthcmebmohhajaaaDoorPb
namespace Go.Proofs.YthcmebmohhajaaaDoor
open Go.RowKit
set_option linter.unusedVariables false

/-! HeadThrough. -/
/-- An argument, as a slice of ints. -/
structure Arg9 (w : World) (a : Option Addr) (zs : List Int) (n cap : Nat) : Prop where
  ln : zs.length = n
  seg : SegZ w a zs
  cap : n ≤ cap
theorem hd8_le {lit dist : List Int} (h : tld8 errC lit dist) : (hd8 lit dist).length ≤ 10000 := by
  obtain ⟨_, _, hm, la, lb⟩ := tld8_ok h
  have h1 := rnb8_len (sz8_ok h).1 (rs8 lit dist)
  have h2 := (runs8_ok hm).2
  have h3 := hm.1
  have h4 := (tol8_bd (sz8 lit dist) 19 (by omega)).2
  have h5 : (rs8 lit dist).length ≤ 320 := by unfold rs8; omega
  unfold hd8
  simp only [List.length_append, bN_len, szb8_len]
  omega
theorem seg_2558 (w : World) : Seg (w.alloc (.cells #[.int .u8 255, .int .u8 255, .int .u8 255] 5)) (some ⟨w.heap.size, 0, none⟩) [255, 255, 255] := by
  refine ⟨fun i hi => ⟨w.heap.size, 0, rfl, ?_⟩, by decide, getD_bd (by decide) (by intro z hz; simp at hz; subst hz; decide)⟩
  simp only [List.length_cons, List.length_nil] at hi
  rw [Nat.zero_add, World.cell?_alloc_mark]
  match i, hi with
  | 0, _ => rfl
  | 1, _ => rfl
  | 2, _ => rfl
/-- What comes of the bits that are fed. -/
theorem th_det8 {B : List Int} {S4 s : S8} {N m f : Nat} (h4 : Run8 ini8 (bB B) S4 N) (hx : 4 ≤ S4.nx) (run : Run8 ini8 (bB (B.take f)) s m) (wt : Wait8 s ((bB (B.take f)).drop m)) (h : 4 ≤ s.nx ∨ B.length ≤ f) : s = S4 ∧ m = N := by
  have w4 : Wait8 S4 ((bB B).drop N) := .inr (.inr (.inr (.inr hx)))
  rcases h with h | h
  · have r2 := run.app (bB (B.drop f))
    rw [← bB_append, List.take_append_drop] at r2
    exact Run8.det ini8_ok r2 (.inr (.inr (.inr (.inr h)))) h4 w4
  · rw [List.take_of_length_le h] at run wt
    exact Run8.det ini8_ok run wt h4 w4
theorem th_next8 {B : List Int} {s s' : S8} {f k mm m' : Nat} (run : Run8 ini8 (bB (B.take f)) s mm) (st : Run8 s ((bB (B.take f)).drop mm ++ bB ((B.drop f).take k)) s' m') : Run8 ini8 (bB (B.take (f + k))) s' (mm + m') ∧ ((bB (B.take f)).drop mm ++ bB ((B.drop f).take k)).drop m' = (bB (B.take (f + k))).drop (mm + m') := by
  have e : bB (B.take (f + k)) = bB (B.take f) ++ bB ((B.drop f).take k) := by rw [List.take_add, bB_append]
  have e2 : (bB (B.take f)).drop mm ++ bB ((B.drop f).take k) = (bB (B.take (f + k))).drop mm := by rw [e, List.drop_append_of_le_length run.le]
  have r2 := run.app (bB ((B.drop f).take k))
  rw [← e] at r2
  rw [e2] at st ⊢
  exact ⟨r2.trans st, List.drop_drop ..⟩
theorem feed_some8 (br : Nat) (H : List Bool) (t : Nat) (g o : Nat) (p : List Int) (k c : Nat) (hk : Hid (p.length = k)) (w : World) (h : Rd w br H t) (hs : Seg w (some ⟨g, o, none⟩) p) (hc : k ≤ c) (hg : g ≠ br) (hH : H.length ≤ 13) (hk3 : k ≤ 3) :
    Calls Tryd.prog 19 #[.pointer (some ⟨br, 0, none⟩), .slice (some ⟨g, o, none⟩) k c] w fun e w' => e = .returned (.int .i64 (k : Int)) ∧ Rd w' br (H ++ bB p) t ∧ Kp (fun k => k = br) w w' := by
  have hp := hk.out
  have := feed_any br H t (some ⟨g, o, none⟩) p c w h hs (by omega) (fun g2 o2 e _ => by cases e; exact hg) (by omega)
  have e : feedN H p.length = k := by unfold feedN; omega
  rw [e, hp, List.take_of_length_le (by omega)] at this
  exact this
set_option maxRecDepth 100000 in
set_option maxHeartbeats 8000000 in
theorem headThrough_walk (w : World) (tab : TabS w ∧ TabO w) (ba : Option Addr) (bc : Nat) (Bs : List Bool) (la : Option Addr) (lc : Nat) (zl : List Int) (da : Option Addr) (dc : Nat) (zd : List Int) (sb : SegB w ba Bs) (sl : SegZ w la zl) (cl : zl.length ≤ lc) (nl : la = none → lc = 0) (sd : SegZ w da zd) (cd : zd.length ≤ dc) (nd : da = none → dc = 0) (hb1 : Bs.length ≤ 1048576) (hb2 : zl.length ≤ 1048576) (hb3 : zd.length ≤ 1048576) (a1 : Option Addr) (z1 : List Int) (cap1 : Nat) (s1 : Seg64 w a1 z1) (c1 : z1.length ≤ cap1) (n1 : a1 = none → cap1 = 0) (l1 : z1.length ≤ 1048576) :
    Calls Tryd.prog 4 #[.agg #[.slice ba Bs.length bc, .slice la zl.length lc, .slice da zd.length dc], .slice a1 z1.length cap1] w fun e w' => e = .returned (.bool true) ∧ Below w.heap.size w w' := by
  have h02 := tabO_two8 tab.2
  have HT : Hid (TabS w ∧ TabO w) := tab
  obtain ⟨nb, hnb⟩ : ∃ nb, nb = Bs.length := ⟨_, rfl⟩
  obtain ⟨n, hn⟩ : ∃ n, n = zl.length := ⟨_, rfl⟩
  obtain ⟨m, hm⟩ : ∃ m, m = zd.length := ⟨_, rfl⟩
  obtain ⟨c, hc⟩ : ∃ c, c = z1.length := ⟨_, rfl⟩
  have HN : Hid (zl.length = n) := hn.symm
  have HM : Hid (zd.length = m) := hm.symm
  have HCN : Hid (z1.length = c) := hc.symm
  have HSL : Hid (SegZ w la zl) := sl
  have HSD : Hid (SegZ w da zd) := sd
  have HS1 : Hid (Seg64 w a1 z1) := s1
  rw [← hnb, ← hn, ← hm, ← hc]
  rw [← hn] at cl hb2
  rw [← hm] at cd hb3
  rw [← hc] at c1 l1
  clear sb sl sd hnb hn hm hb1 s1 hc tab
  go_enter Tryd.func4, Tryd.ntmps4
  go_wp2_with fail
  obtain ⟨W, hW⟩ : ∃ W, W = (w.alloc (.cells #[.slice ba nb bc, .slice la n lc, .slice da m dc] 40)).alloc (.cells #[.slice none 0 0, .int .u64 0, .int .i64 0] 45) := ⟨_, rfl⟩
  rw [← hW]
  have hW3 : W.heap.size = w.heap.size + 2 := by rw [hW]; simp
  have BW : Below w.heap.size w W := by
    rw [hW]
    exact (below_box8 w _).trans ((below_box8 _ _).mono (by simp))
  have g0 : W.heap[w.heap.size]? = some (.cells #[.slice ba nb bc, .slice la n lc, .slice da m dc] 40 (0, 0)) := by
    rw [hW, heap_alloc_old _ _ (by simp)]
    exact heap_alloc_new _ _
  have g1 : W.heap[w.heap.size + 1]? = some (.cells #[.slice none 0 0, .int .u64 0, .int .i64 0] 45 (0, 0)) := by
    have := heap_alloc_new (w.alloc (.cells #[.slice ba nb bc, .slice la n lc, .slice da m dc] 40)) (.cells #[.slice none 0 0, .int .u64 0, .int .i64 0] 45)
    rw [show (w.alloc (.cells #[.slice ba nb bc, .slice la n lc, .slice da m dc] 40)).heap.size = w.heap.size + 1 by simp, ← hW] at this
    exact this
  obtain ⟨X, hX⟩ : ∃ X, X = w.heap.size := ⟨_, rfl⟩
  have HC : Hid (∀ wr, Below (X + 1) W wr → wr.cell? ⟨X, 1, none⟩ = some (.slice la n lc) ∧ wr.cell? ⟨X, 2, none⟩ = some (.slice da m dc)) := fun wr hb => by
    have hh : wr.heap[X]? = some (.cells #[.slice ba nb bc, .slice la n lc, .slice da m dc] 40 (0, 0)) := by rw [hX]; exact (hb.block _ (by omega)).trans g0
    exact ⟨(cell_of_row wr _ 1 _ _ _ hh).trans rfl, (cell_of_row wr _ 2 _ _ _ hh).trans rfl⟩
  have HO : Hid (∀ wr, Below (X + 1) W wr → Below w.heap.size w wr ∧ TabS wr ∧ TabO wr ∧ SegZ wr la zl ∧ SegZ wr da zd ∧ Seg64 wr a1 z1) := fun wr hb => by
    have h : Below w.heap.size w wr := BW.trans (hb.mono (by omega))
    exact ⟨h, SegZ.old HT.out.1 h, SegZ.old HT.out.2 h, HSL.out.old h, HSD.out.old h, HS1.out.old h⟩
  have WL0 : WrL W (X + 1) (X + 2) (.slice none 0 0) [] := WrL.new (by rw [hX]; exact g1) (by omega)
  have hXW : W.heap.size = X + 2 := by omega
  rw [← hX]
  have hX2 : 2 ≤ X := by omega
  have HX : Hid (X = w.heap.size) := hX
  clear hW g0 g1 hX HSL HSD HS1 HT BW hW3 h02
  have BWW : Below (X + 1) W W := Below.refl _ _
  obtain ⟨q1, q2⟩ := HC.out W BWW
  obtain ⟨_, TS, TO, sL, sD, _⟩ := HO.out W BWW
  have CC := pcost8 zl zd la da n m lc dc HN HM W sL sD cl cd TS TO
  unfold CsQ at CC
  have HWL : Hid (WrL W (X + 1) (X + 2) (.slice none 0 0) []) := WL0
  clear TS TO sL sD WL0
  by_cases ht : tld8 errC zl zd
  · rw [if_pos ht] at CC
    have HTL : Hid (tld8 errC zl zd) := ht
    have hlen := hd8_len ht
    obtain ⟨N, hN⟩ : ∃ N, N = cst8 zl zd := ⟨_, rfl⟩
    rw [← hN] at CC hlen
    have HNN : Hid ((hd8 zl zd).length = N) := hlen
    clear hN
    go_wp2_with fail
    refine CC.mono ?_
    rintro e w1 ⟨rfl, b1⟩
    have B1 : Below (X + 1) W w1 := b1.mono (by omega)
    obtain ⟨q1, q2⟩ := HC.out w1 B1
    obtain ⟨_, TS, TO, sL, sD, _⟩ := HO.out w1 B1
    have CW := pwrite8 (X + 1) (X + 2) (.slice none 0 0) [] zl zd la da n m lc dc HN HM w1 (HWL.out.below8 b1) (by simp) sL sD cl cd TS TO (by omega) (by omega)
    unfold WtQ at CW
    rw [if_pos ht, if_pos ht, List.nil_append] at CW
    clear CC TS TO sL sD b1
    go_wp2_with fail
    refine CW.mono ?_
    rintro e w2 ⟨rfl, v2, L2, k2, fr2⟩
    have B2 : Below (X + 1) W w2 := B1.trans (k2.below (fun k e => by rcases e with e | e; omega; simp [Value.ownBlock] at e) (by have := B1.size; omega))
    obtain ⟨_, TS, _, _, _, _⟩ := HO.out w2 B2
    have CA := awake8 w2 TS
    have HL2 : Hid (WrL w2 (X + 1) (X + 2) v2 (hd8 zl zd)) := L2
    clear CW TS k2 fr2 L2 B1 HWL
    go_wp2_with fail
    refine CA.mono ?_
    rintro e w3 ⟨rfl, b3⟩
    have B3 : Below (X + 1) W w3 := B2.trans (b3.mono (by have := B2.size; omega))
    have HL3 : Hid (WrL w3 (X + 1) (X + 2) v2 (hd8 zl zd)) := HL2.out.below8 b3
    obtain ⟨q1, q2⟩ := HC.out w3 B3
    obtain ⟨_, _, _, sL, sD, _⟩ := HO.out w3 B3
    have CT := told8 zl zd la da n m lc dc HN HM w3 sL sD ht
    clear CA b3 HL2 B2 sL sD ht
    go_wp2_with fail
    refine CT.mono ?_
    rintro e w4 ⟨rfl, b4⟩
    have B4 : Below (X + 1) W w4 := B3.trans (b4.mono (by have := B3.size; omega))
    have HL4 : Hid (WrL w4 (X + 1) (X + 2) v2 (hd8 zl zd)) := HL3.out.below8 b4
    clear CT b4 HL3 B3 q1 q2
    go_wp2_with fail
    refine (pnew8 w4).mono ?_
    rintro e w5 ⟨b, hb, rfl, RB, b5⟩
    have B5 : Below (X + 1) W w5 := B4.trans (b5.mono (by have := B4.size; omega))
    have HL5 : Hid (WrL w5 (X + 1) (X + 2) v2 (hd8 zl zd)) := HL4.out.below8 b5
    have hbX : X + 2 ≤ b := by have := B4.size; omega
    have CL := len_any (X + 1) (X + 2) v2 (hd8 zl zd) w5 HL5.out (by have := hd8_le HTL.out; omega)
    rw [HNN.out] at CL
    have HRB : Hid (RdH w5 b ini8) := pnew_rd8 RB
    clear HL4 B4 b5 hb RB
    go_wp2_with fail
    refine CL.mono ?_
    rintro e w6 ⟨rfl, b6⟩
    have B6 : Below (X + 1) W w6 := B5.trans (b6.mono (by have := B5.size; omega))
    have HL6 : Hid (WrL w6 (X + 1) (X + 2) v2 (hd8 zl zd)) := HL5.out.below8 b6
    have HR6 : Hid (RdH w6 b ini8) := HRB.out.keep (b6.block b HRB.out.lt)
    clear CL HL5 B5 b6 HRB
    go_wp2_with fail
    have h7 := heap_alloc_new w6 (.cells #[.int .u64 0, .int .i64 0, .int .i64 0] 52)
    have b7 : Below w6.heap.size w6 (w6.alloc (.cells #[.int .u64 0, .int .i64 0, .int .i64 0] 52)) := below_box8 _ _
    have z7 : (w6.alloc (.cells #[.int .u64 0, .int .i64 0, .int .i64 0] 52)).heap.size = w6.heap.size + 1 := by simp
    generalize w6.alloc (.cells #[.int .u64 0, .int .i64 0, .int .i64 0] 52) = w7 at *
    obtain ⟨br, hbr⟩ : ∃ br, br = w6.heap.size := ⟨_, rfl⟩
    rw [← hbr] at h7 z7 ⊢
    have B7 : Below (X + 1) W w7 := B6.trans (b7.mono (by have := B6.size; omega))
    have hL7 := HL6.out.below8 b7
    have R7 : RdH w7 b ini8 := HR6.out.keep (b7.block b HR6.out.lt)
    have hbl : b < br := by have := HR6.out.lt; omega
    have CB := bytes_any (X + 1) (X + 2) v2 (hd8 zl zd) w7 hL7 (by have := hd8_le HTL.out; omega)
    have HR7 : Hid (RdH w7 b ini8) := R7
    have Hr7 : Hid (Rd w7 br [] 0) := Rd.new h7
    obtain ⟨i0, hi, hz0, hz1, hz2⟩ := info_parts info_u8w
    obtain ⟨A, hA⟩ : ∃ A, A = toB (hd8 zl zd) := ⟨_, rfl⟩
    have HA : Hid (A = toB (hd8 zl zd)) := hA
    rw [← hA] at CB
    obtain ⟨nA, hnA⟩ : ∃ nA, nA = A.length := ⟨_, rfl⟩
    have HNA : Hid (A.length = nA) := hnA.symm
    rw [← hnA] at CB
    have hnl : nA ≤ 10000 := by rw [hnA, hA, toB_len]; have := hd8_le HTL.out; omega
    clear HL6 B6 HR6 b7 h7 hL7 R7 hA hnA
    refine CB.mono ?_
    rintro e w8 ⟨ga, gc, rfl, ow8, b8⟩
    have B8 : Below (X + 1) W w8 := B7.trans (b8.mono (by have := B7.size; omega))
    have b89 : Below w8.heap.size w8 (w8.alloc (.cells #[.int .u8 255, .int .u8 255, .int .u8 255] 5)) := below_box8 _ _
    have ow9 := own_below ow8 b89
    have sg9 := seg_2558 w8
    have hz9 : w7.heap.size ≤ (w8.alloc (.cells #[.int .u8 255, .int .u8 255, .int .u8 255] 5)).heap.size := by have := b8.size; have := b89.size; omega
    clear CB ow8
    go_wp2_with (at_builtin; refine wpList_appS rfl (.tmp 69) (.tmp 70) 22 rfl w7.heap.size 5 i0 (.int .u8 0) 1 Tryd.underlying22 hi hz0 hz1 hz2 rfl ow9 sg9 (by intro h; cases h) rfl rfl (by simp; omega) (by simp; omega) hz9 ?_; intro b2 c2 wX hown2 hg2 hfr2 hnl2)
    have hN14 : 14 ≤ (hd8 zl zd).length := by unfold hd8; simp only [List.length_append, bN_len]; omega
    have hA0 : 0 < nA := by rw [← HNA.out, HA.out, toB_len]; omega
    obtain ⟨g0, rfl, _, hg0, _⟩ := own_shape1 ow9 hA0
    have BX : Below w7.heap.size w7 wX := (b8.trans (b89.mono b8.size)).grown hg2 hz9 (fun k e => by simp [Value.ownBlock] at e; omega)
    obtain ⟨nB, hnB⟩ : ∃ nB, nB = nA + 3 := ⟨_, rfl⟩
    obtain ⟨B, hB⟩ : ∃ B, B = A ++ [255, 255, 255] := ⟨_, rfl⟩
    have hBl : B.length = nB := by rw [hB, hnB, List.length_append, HNA.out]; rfl
    have hown : wX.ownsRow w7.heap.size 5 1 (.slice b2 nB c2) nB (B.map (Value.int .u8)) := by rw [hB, hnB, List.map_append]; exact hown2
    obtain ⟨g, rfl, hcB, hg7, hgX⟩ := own_shape1 hown (by omega)
    obtain ⟨_, a', cp, hv, sgB, _⟩ := own_seg (M := 255) hown (by omega) (by
      intro z hz
      rw [hB] at hz
      rcases List.mem_append.1 hz with h | h
      · rw [HA.out] at h; exact toB_bd _ z h
      · simp at h; omega)
    injection hv with hv1 hv2 hv3
    rw [← hv1] at sgB
    have HBL : Hid (B.length = nB) := hBl
    have HSB : Hid (Seg wX (some ⟨g, 0, none⟩) B) := sgB
    obtain ⟨S4, h4run, h4nx, h4l, h4d, h4o⟩ : ∃ S4, Run8 ini8 (bB B) S4 N ∧ S4.nx = 4 ∧ S4.lit = (sht8 zl 257).length ∧ S4.dist = (sht8 zd 1).length ∧ S4.out = rw8 zl zd := by
      obtain ⟨k, _, hk⟩ := bB_toB (L := hd8 zl zd)
      obtain ⟨sy, hr⟩ := hd_run8 HTL.out (List.replicate k false ++ bB [255, 255, 255])
      refine ⟨⟨4, (sht8 zl 257).length, (sht8 zd 1).length, tol8 (sz8 zl zd) 19, tol8 (sz8 zl zd) 19, sy, sz8 zl zd, rw8 zl zd⟩, ?_, rfl, rfl, rfl, rfl⟩
      rw [hB, HA.out, bB_append, hk, List.append_assoc, ← HNN.out]
      exact hr
    have H4 : Hid (Run8 ini8 (bB B) S4 N ∧ S4.nx = 4) := ⟨h4run, h4nx⟩
    have H4O : Hid (S4.lit = (sht8 zl 257).length ∧ S4.dist = (sht8 zd 1).length ∧ S4.out = rw8 zl zd) := ⟨h4l, h4d, h4o⟩
    have BX1 : Below (X + 1) W wX := B7.trans (BX.mono (by have := B7.size; omega))
    have RX : RdH wX b ini8 := HR7.out.keep (BX.block b HR7.out.lt)
    have rX : Rd wX br [] 0 := Hr7.out.kp (Kp.of_below (S := fun _ => False) BX) (fun e => e)
    have HI : Hid (RdH wX b ini8 ∧ Rd wX br [] 0) := ⟨RX, rX⟩
    have hgb : g ≠ b := by omega
    have hgr : g ≠ br := by omega
    have hnB2 : nB ≤ 10003 := by omega
    have hne : b ≠ br := by omega
    have HNB : Hid (nB = nA + 3) := hnB
    clear hnB hown hown2 hg2 hfr2 hnl2 hv1 hv2 hv3 sgB hBl hB h4run h4nx h4l h4d h4o RX rX HR7 Hr7 BX B7 B8 b8 b89 ow9 sg9 hz9 hg0 hN14 hA0 hi hz0 hz1 hz2 HNA HA hnl hgX hg7
    rw [← hbr]
    clear hbr
    go_loopw [11, 12, 13] (fun tb td ti wr => ∃ (i f mm : Nat) (s : S8) (o cp : Nat), f ≤ nB ∧ i ≤ c + f ∧ tb = .slice (some ⟨g, o, none⟩) (nB - f) cp ∧ (f < nB → o = f ∧ cp = c2 - f) ∧ td = .bool (decide (s.nx = 4)) ∧ ti = .int .i64 (i : Int) ∧ Run8 ini8 (bB (B.take f)) s mm ∧ Wait8 s ((bB (B.take f)).drop mm) ∧ RdH wr b s ∧ Rd wr br ((bB (B.take f)).drop mm) mm ∧ Kp (fun k => k = b ∨ k = br) wX wr) (fun tb _ ti _ => (c - (intOf ti).toNat) + lenOfS tb)
    case atStart => exact ⟨0, 0, 0, ini8, 0, c2, by omega, by omega, by rw [HNB.out]; rfl, fun _ => ⟨rfl, rfl⟩, rfl, rfl, by rw [List.take_zero]; exact .nil, .inl ⟨rfl, by rw [List.take_zero]; decide⟩, HI.out.1, HI.out.2, Kp.refl _ _⟩
    case round =>
      obtain ⟨i, f, mm, s, o, cp0, hfB, hic, rfl, hoc, rfl, rfl, run, wt, hR, hr, kX⟩ := hrel
      clear HI
      have ok := run.ok ini8_ok
      have HOK : Hid (Ok8 s) := ok
      have HDET : Hid (4 ≤ s.nx ∨ B.length ≤ f → s = S4 ∧ mm = N) := fun h => th_det8 H4.out.1 (by rw [H4.out.2]; omega) run wt h
      have BR : Below (X + 1) W wr := BX1.trans (kX.below (fun k e => by rcases e with e | e <;> omega) (by have := BX1.size; omega))
      by_cases hx : s.nx = 4
      · obtain ⟨e1, e2⟩ := HDET.out (.inl (by omega))
        rw [decide_eq_true hx]
        obtain ⟨p1, p2, p3⟩ := H4O.out
        rw [← e1] at p1 p2 p3
        have CL := plens84 b s wr hR ok hx
        have hol := ok.ol
        have hob := ok.ob
        have h45 := ok.at4 hx
        obtain ⟨L, hL⟩ : ∃ L, L = s.out.take s.lit := ⟨_, rfl⟩
        obtain ⟨D, hD⟩ : ∃ D, D = s.out.drop s.lit := ⟨_, rfl⟩
        have hLl : L.length = s.lit := by rw [hL, List.length_take]; omega
        have hDl : D.length = s.dist := by rw [hD, List.length_drop]; omega
        have hLs : L = sht8 zl 257 := by rw [hL, p3, p1]; unfold rw8; exact List.take_left' rfl
        have hDs : D = sht8 zd 1 := by rw [hD, p3, p1]; unfold rw8; exact List.drop_left' rfl
        have HLZ : Hid (∀ i, L.getD i 0 = zl.getD i 0) := fun i => by rw [hLs, sht8_get]
        have HDZ : Hid (∀ i, D.getD i 0 = zd.getD i 0) := fun i => by rw [hDs, sht8_get]
        have HLB : Hid (∀ z ∈ L, -9223372036854775808 ≤ z ∧ z ≤ 9223372036854775807) := fun z hz => by rw [hL] at hz; have := hob z (List.mem_of_mem_take hz); omega
        have HDB : Hid (∀ z ∈ D, -9223372036854775808 ≤ z ∧ z ≤ 9223372036854775807) := fun z hz => by rw [hD] at hz; have := hob z (List.mem_of_mem_drop hz); omega
        have HLL : Hid (L.length = s.lit) := hLl
        have HDL : Hid (D.length = s.dist) := hDl
        have hl3 : s.lit ≤ 316 := by omega
        have hd3 : s.dist ≤ 316 := by omega
        rw [← hL, ← hD] at CL
        have Hrr : Hid (Rd wr br ((bB (B.take f)).drop mm) mm) := hr
        have HMM : Hid (mm = N) := e2
        generalize s.lit = l at *
        generalize s.dist = d at *
        clear run wt hR hr kX ok HDET hL hD hLl hDl hLs hDs e1 e2 p1 p2 p3 hol hob h45 HOK hoc
        go_wp2_with fail
        refine CL.mono ?_
        rintro e w6' ⟨g1, g2, rfl, o1, o2, hg, b6⟩
        have B6 : Below (X + 1) W w6' := BR.trans (b6.mono (by have := BR.size; omega))
        have sL : SegZ w6' (some ⟨g1, 0, none⟩) L := own_segZ o1.own HLB.out
        have sD : SegZ w6' (some ⟨g2, 0, none⟩) D := own_segZ o2.own HDB.out
        obtain ⟨q1, q2⟩ := HC.out w6' B6
        obtain ⟨hBf, _, _, sZ, sY, _⟩ := HO.out w6' B6
        have r6 : Rd w6' br ((bB (B.take f)).drop mm) mm := Hrr.out.kp (Kp.of_below (S := fun _ => False) b6) (fun e => e)
        have CTk := taken_any br _ mm w6' r6
        rw [HMM.out] at CTk
        have HLN : Hid (L.length = l) := HLL
        have HDN : Hid (D.length = d) := HDL
        have C1 := begins8 L zl (some ⟨g1, 0, none⟩) la l n l lc HLN HN w6' sL sZ (by omega) (fun i _ => HLZ.out i)
        have C2 := begins8 D zd (some ⟨g2, 0, none⟩) da d m d dc HDN HM w6' sD sY (by omega) (fun i _ => HDZ.out i)
        have C3 := begins8 zl L la (some ⟨g1, 0, none⟩) n l lc l HN HLN w6' sZ sL (by omega) (fun i _ => (HLZ.out i).symm)
        have C4 := begins8 zd D da (some ⟨g2, 0, none⟩) m d dc d HM HDN w6' sY sD (by omega) (fun i _ => (HDZ.out i).symm)
        have HBF : Hid (Below w.heap.size w w6') := hBf
        clear CL o1 o2 b6 sL sD sZ sY r6 hBf
        go_wp2_with fail
        refine CTk.mono ?_
        rintro e wa ⟨rfl, hwa⟩
        rw [hwa]
        clear CTk hwa
        go_wp2_with fail
        refine C1.mono ?_
        rintro e wb ⟨rfl, hwb⟩
        rw [hwb]
        clear C1 hwb
        go_wp2_with fail
        refine C2.mono ?_
        rintro e wc ⟨rfl, hwc⟩
        rw [hwc]
        clear C2 hwc
        go_wp2_with fail
        refine C3.mono ?_
        rintro e wd ⟨rfl, hwd⟩
        rw [hwd]
        clear C3 hwd
        go_wp2_with fail
        refine C4.mono ?_
        rintro e we ⟨rfl, hwe⟩
        rw [hwe]
        clear C4 hwe
        go_wp2_with fail
        go_ret
        exact ⟨rfl, HBF.out⟩
      · have h4 : s.nx < 4 := by
          by_cases h : 4 ≤ s.nx
          · have := (HDET.out (.inl h)).1; rw [this] at hx; exact absurd H4.out.2 hx
          · omega
        have hf : f < nB := by
          by_cases h : nB ≤ f
          · have := (HDET.out (.inr (by rw [HBL.out]; exact h))).1; rw [this] at hx; exact absurd H4.out.2 hx
          · omega
        rw [decide_eq_false hx]
        have hsh := wt.short ok h4
        have hmm : mm ≤ 80024 := by have := run.le; rw [bB_len, List.length_take] at this; omega
        obtain ⟨H, hH⟩ : ∃ H, H = (bB (B.take f)).drop mm := ⟨_, rfl⟩
        have HH : Hid (H = (bB (B.take f)).drop mm) := hH
        rw [← hH] at hsh hr
        have CS := space_any br H mm wr hr
        have sgB : Seg wr (some ⟨g, 0, none⟩) B := HSB.out.kp kX (fun g2 o e _ => by cases e; rintro (e | e); exact hgb e; exact hgr e)
        have HRUN : Hid (Run8 ini8 (bB (B.take f)) s mm) := run
        have HRR : Hid (RdH wr b s) := hR
        have Hrr : Hid (Rd wr br H mm) := hr
        have HKX : Hid (Kp (fun k => k = b ∨ k = br) wX wr) := kX
        have HSR : Hid (Seg wr (some ⟨g, 0, none⟩) B) := sgB
        clear run wt hR hr kX ok hH sgB HDET
        -- THE WAYS
        obtain ⟨rfl, rfl⟩ := hoc hf
        obtain ⟨y, hy⟩ : ∃ y, y = nB - o := ⟨_, rfl⟩
        obtain ⟨cp, hcp⟩ : ∃ cp, cp = c2 - o := ⟨_, rfl⟩
        have HY : Hid (y = nB - o ∧ o < nB ∧ nB ≤ c2 ∧ cp = c2 - o) := ⟨hy, hf, hcB, hcp⟩
        rw [← hy, ← hcp]
        have hy1 : 1 ≤ y := by omega
        have hycp : y ≤ cp := by omega
        obtain ⟨f, hfo⟩ : ∃ f, f = o := ⟨_, rfl⟩
        subst hfo
        clear hcp hoc
        have hsp : 6 ≤ (64 - H.length) / 8 := by omega
        generalize (64 - H.length) / 8 = sp at CS hsp
        have i1 : IntKind.i64.wrap ((i : Int) + 1) = (i : Int) + 1 := IntWalk.i64_in _ (by omega)
        clear hy hf hx
        by_cases hlt : i < c
        · have hlti : (i : Int) < (c : Int) := by omega
          obtain ⟨_, _, _, _, _, s64⟩ := HO.out wr BR
          obtain ⟨xg, xo, rfl, cx⟩ := s64.at_ i (by have := HCN.out; omega)
          have hzb := s64.bd i
          generalize z1.getD i 0 = z at cx hzb
          obtain ⟨r, hr⟩ : ∃ r : Nat, z % 4 = (r : Int) := ⟨(z % 4).toNat, by omega⟩
          have hr3 : r ≤ 3 := by omega
          clear s64
          by_cases hry : y < r
          · have j1 : (y : Int) < (r : Int) := by omega
            have j2 : ¬ (sp : Int) < (y : Int) := by omega
            go_wp2_with fail
            refine CS.mono ?_
            rintro e w2' ⟨rfl, hw2'⟩
            rw [hw2']
            clear CS hw2' w2'
            have hsegk : Seg wr (some ⟨g, f, none⟩) ((B.drop f).take y) := by
              have := (HSR.out.drop f).take y
              rwa [Nat.zero_add] at this
            have CF := feed_some8 br H mm g f ((B.drop f).take y) y cp (by show _ = _; rw [List.length_take, List.length_drop, HBL.out]; have := HY.out; omega) wr Hrr.out hsegk (by omega) hgr hsh (by omega)
            clear hsegk
            have hkc : ((y : Nat) : Int) ≤ (cp : Int) := by omega
            have hky : ((y : Nat) : Int) ≤ (y : Int) := by omega
            go_wp2_with fail
            refine CF.mono ?_
            rintro e w4 ⟨rfl, r4, k4⟩
            have R4 : RdH w4 b s := HRR.out.keep (k4.block b HRR.out.lt hne)
            have K4 : Kp (fun k => k = b ∨ k = br) wX w4 := HKX.out.trans k4 (fun _ _ e => .inr e)
            have B4 : Below (X + 1) W w4 := BX1.trans (K4.below (fun k e => by rcases e with e | e <;> omega) (by have := BX1.size; omega))
            obtain ⟨_, TS4, TO4, _, _, _⟩ := HO.out w4 B4
            have CSt := pstep8 b br s (H ++ bB ((B.drop f).take y)) mm w4 TS4 TO4 hne (by omega) (by omega) HOK.out R4 r4 (by omega)
            have HK4 : Hid (Kp (fun k => k = b ∨ k = br) wX w4) := K4
            clear CF R4 k4 r4 K4 TS4 TO4 B4
            by_cases hcap : cp = y
            · have hcapi : (cp : Int) = ((y : Nat) : Int) := by omega
              go_wp2_with fail
              refine CSt.mono ?_
              rintro e w5 ⟨s', m', st, wt', rfl, R5, r5, k5⟩
              have HS5 : Hid (∃ run5 : Run8 ini8 (bB (B.take (f + y))) s' (mm + m'), Wait8 s' ((bB (B.take (f + y))).drop (mm + m')) ∧ Rd w5 br ((bB (B.take (f + y))).drop (mm + m')) (mm + m')) := by
                have hh := HH.out
                rw [hh] at st wt' r5
                obtain ⟨run5, hd5⟩ := th_next8 HRUN.out st
                rw [hd5] at wt' r5
                exact ⟨run5, wt', r5⟩
              have HD5 : Hid (4 ≤ s'.nx ∨ B.length ≤ f + y → s'.nx = 4) := fun h => by
                obtain ⟨run5, wt5, _⟩ := HS5.out
                have := (th_det8 H4.out.1 (by rw [H4.out.2]; omega) run5 wt5 h).1
                rw [this]; exact H4.out.2
              have K5 : Kp (fun k => k = b ∨ k = br) wX w5 := HK4.out.trans k5 (fun _ _ e => e)
              have h5 : ¬ s'.nx = 5 := fun h => by have := HD5.out (.inl (by omega)); omega
              rw [if_neg h5]
              have HREL : Hid (∀ o1 cp1, (y < y → o1 = f + y ∧ cp1 = cp - y) → ∃ (i' f' mm' : Nat) (s : S8) (o' cp' : Nat), f' ≤ nB ∧ i' ≤ c + f' ∧ Value.slice (some ⟨g, o1, none⟩) 0 cp1 = .slice (some ⟨g, o', none⟩) (nB - f') cp' ∧ (f' < nB → o' = f' ∧ cp' = c2 - f') ∧ Value.bool (decide (s'.nx = 4)) = .bool (decide (s.nx = 4)) ∧ Value.int .i64 ((i : Int) + 1) = .int .i64 (i' : Int) ∧ Run8 ini8 (bB (B.take f')) s mm' ∧ Wait8 s ((bB (B.take f')).drop mm') ∧ RdH w5 b s ∧ Rd w5 br ((bB (B.take f')).drop mm') mm' ∧ Kp (fun k => k = b ∨ k = br) wX w5) := by
                obtain ⟨run5, wt5, rd5⟩ := HS5.out
                have hy := HY.out
                intro o1 cp1 ho
                refine ⟨i + 1, f + y, mm + m', s', o1, cp1, by omega, by omega, ?_, ?_, rfl, rfl, run5, wt5, R5, rd5, K5⟩
                · rw [show nB - (f + y) = 0 by omega]
                · intro hq
                  have := ho (by omega)
                  omega
              clear st wt' R5 r5 k5 K5 CSt HS5
              by_cases hx5 : s'.nx = 4
              · rw [decide_eq_true hx5] at HREL ⊢
                clear hx5 h5 HD5
                go_wp2_with fail
                go_roundw
                case rel => exact HREL.out _ _ (fun h => by omega)
                case measure => simp [intOf, lenOfS]; have := HY.out; omega
              · exact absurd (HD5.out (.inr (by rw [HBL.out]; have := HY.out; omega))) hx5
            · have hcapi : ¬ (cp : Int) = ((y : Nat) : Int) := by omega
              go_wp2_with fail
              refine CSt.mono ?_
              rintro e w5 ⟨s', m', st, wt', rfl, R5, r5, k5⟩
              have HS5 : Hid (∃ run5 : Run8 ini8 (bB (B.take (f + y))) s' (mm + m'), Wait8 s' ((bB (B.take (f + y))).drop (mm + m')) ∧ Rd w5 br ((bB (B.take (f + y))).drop (mm + m')) (mm + m')) := by
                have hh := HH.out
                rw [hh] at st wt' r5
                obtain ⟨run5, hd5⟩ := th_next8 HRUN.out st
                rw [hd5] at wt' r5
                exact ⟨run5, wt', r5⟩
              have HD5 : Hid (4 ≤ s'.nx ∨ B.length ≤ f + y → s'.nx = 4) := fun h => by
                obtain ⟨run5, wt5, _⟩ := HS5.out
                have := (th_det8 H4.out.1 (by rw [H4.out.2]; omega) run5 wt5 h).1
                rw [this]; exact H4.out.2
              have K5 : Kp (fun k => k = b ∨ k = br) wX w5 := HK4.out.trans k5 (fun _ _ e => e)
              have h5 : ¬ s'.nx = 5 := fun h => by have := HD5.out (.inl (by omega)); omega
              rw [if_neg h5]
              have HREL : Hid (∀ o1 cp1, (y < y → o1 = f + y ∧ cp1 = cp - y) → ∃ (i' f' mm' : Nat) (s : S8) (o' cp' : Nat), f' ≤ nB ∧ i' ≤ c + f' ∧ Value.slice (some ⟨g, o1, none⟩) 0 cp1 = .slice (some ⟨g, o', none⟩) (nB - f') cp' ∧ (f' < nB → o' = f' ∧ cp' = c2 - f') ∧ Value.bool (decide (s'.nx = 4)) = .bool (decide (s.nx = 4)) ∧ Value.int .i64 ((i : Int) + 1) = .int .i64 (i' : Int) ∧ Run8 ini8 (bB (B.take f')) s mm' ∧ Wait8 s ((bB (B.take f')).drop mm') ∧ RdH w5 b s ∧ Rd w5 br ((bB (B.take f')).drop mm') mm' ∧ Kp (fun k => k = b ∨ k = br) wX w5) := by
                obtain ⟨run5, wt5, rd5⟩ := HS5.out
                have hy := HY.out
                intro o1 cp1 ho
                refine ⟨i + 1, f + y, mm + m', s', o1, cp1, by omega, by omega, ?_, ?_, rfl, rfl, run5, wt5, R5, rd5, K5⟩
                · rw [show nB - (f + y) = 0 by omega]
                · intro hq
                  have := ho (by omega)
                  omega
              clear st wt' R5 r5 k5 K5 CSt HS5
              by_cases hx5 : s'.nx = 4
              · rw [decide_eq_true hx5] at HREL ⊢
                clear hx5 h5 HD5
                go_wp2_with fail
                go_roundw
                case rel => exact HREL.out _ _ (fun h => ⟨rfl, rfl⟩)
                case measure => simp [intOf, lenOfS]; have := HY.out; omega
              · exact absurd (HD5.out (.inr (by rw [HBL.out]; have := HY.out; omega))) hx5
          · have j1 : ¬ (y : Int) < (r : Int) := by omega
            have j2 : ¬ (sp : Int) < (r : Int) := by omega
            go_wp2_with fail
            refine CS.mono ?_
            rintro e w2' ⟨rfl, hw2'⟩
            rw [hw2']
            clear CS hw2' w2'
            have hsegk : Seg wr (some ⟨g, f, none⟩) ((B.drop f).take r) := by
              have := (HSR.out.drop f).take r
              rwa [Nat.zero_add] at this
            have CF := feed_some8 br H mm g f ((B.drop f).take r) r cp (by show _ = _; rw [List.length_take, List.length_drop, HBL.out]; have := HY.out; omega) wr Hrr.out hsegk (by omega) hgr hsh (by omega)
            clear hsegk
            have hkc : ((r : Nat) : Int) ≤ (cp : Int) := by omega
            have hky : ((r : Nat) : Int) ≤ (y : Int) := by omega
            go_wp2_with fail
            refine CF.mono ?_
            rintro e w4 ⟨rfl, r4, k4⟩
            have R4 : RdH w4 b s := HRR.out.keep (k4.block b HRR.out.lt hne)
            have K4 : Kp (fun k => k = b ∨ k = br) wX w4 := HKX.out.trans k4 (fun _ _ e => .inr e)
            have B4 : Below (X + 1) W w4 := BX1.trans (K4.below (fun k e => by rcases e with e | e <;> omega) (by have := BX1.size; omega))
            obtain ⟨_, TS4, TO4, _, _, _⟩ := HO.out w4 B4
            have CSt := pstep8 b br s (H ++ bB ((B.drop f).take r)) mm w4 TS4 TO4 hne (by omega) (by omega) HOK.out R4 r4 (by omega)
            have HK4 : Hid (Kp (fun k => k = b ∨ k = br) wX w4) := K4
            clear CF R4 k4 r4 K4 TS4 TO4 B4
            by_cases hcap : cp = r
            · have hcapi : (cp : Int) = ((r : Nat) : Int) := by omega
              go_wp2_with fail
              refine CSt.mono ?_
              rintro e w5 ⟨s', m', st, wt', rfl, R5, r5, k5⟩
              have HS5 : Hid (∃ run5 : Run8 ini8 (bB (B.take (f + r))) s' (mm + m'), Wait8 s' ((bB (B.take (f + r))).drop (mm + m')) ∧ Rd w5 br ((bB (B.take (f + r))).drop (mm + m')) (mm + m')) := by
                have hh := HH.out
                rw [hh] at st wt' r5
                obtain ⟨run5, hd5⟩ := th_next8 HRUN.out st
                rw [hd5] at wt' r5
                exact ⟨run5, wt', r5⟩
              have HD5 : Hid (4 ≤ s'.nx ∨ B.length ≤ f + r → s'.nx = 4) := fun h => by
                obtain ⟨run5, wt5, _⟩ := HS5.out
                have := (th_det8 H4.out.1 (by rw [H4.out.2]; omega) run5 wt5 h).1
                rw [this]; exact H4.out.2
              have K5 : Kp (fun k => k = b ∨ k = br) wX w5 := HK4.out.trans k5 (fun _ _ e => e)
              have h5 : ¬ s'.nx = 5 := fun h => by have := HD5.out (.inl (by omega)); omega
              rw [if_neg h5]
              have HREL : Hid (∀ o1 cp1, (r < y → o1 = f + r ∧ cp1 = cp - r) → ∃ (i' f' mm' : Nat) (s : S8) (o' cp' : Nat), f' ≤ nB ∧ i' ≤ c + f' ∧ Value.slice (some ⟨g, o1, none⟩) (y - r) cp1 = .slice (some ⟨g, o', none⟩) (nB - f') cp' ∧ (f' < nB → o' = f' ∧ cp' = c2 - f') ∧ Value.bool (decide (s'.nx = 4)) = .bool (decide (s.nx = 4)) ∧ Value.int .i64 ((i : Int) + 1) = .int .i64 (i' : Int) ∧ Run8 ini8 (bB (B.take f')) s mm' ∧ Wait8 s ((bB (B.take f')).drop mm') ∧ RdH w5 b s ∧ Rd w5 br ((bB (B.take f')).drop mm') mm' ∧ Kp (fun k => k = b ∨ k = br) wX w5) := by
                obtain ⟨run5, wt5, rd5⟩ := HS5.out
                have hy := HY.out
                intro o1 cp1 ho
                refine ⟨i + 1, f + r, mm + m', s', o1, cp1, by omega, by omega, ?_, ?_, rfl, rfl, run5, wt5, R5, rd5, K5⟩
                · rw [show nB - (f + r) = y - r by omega]
                · intro hq
                  have := ho (by omega)
                  omega
              clear st wt' R5 r5 k5 K5 CSt HS5
              by_cases hx5 : s'.nx = 4
              · rw [decide_eq_true hx5] at HREL ⊢
                clear hx5 h5 HD5
                go_wp2_with fail
                go_roundw
                case rel => exact HREL.out _ _ (fun h => by omega)
                case measure => simp [intOf, lenOfS]; have := HY.out; omega
              · exact absurd (HD5.out (.inr (by rw [HBL.out]; have := HY.out; omega))) hx5
            · have hcapi : ¬ (cp : Int) = ((r : Nat) : Int) := by omega
              go_wp2_with fail
              refine CSt.mono ?_
              rintro e w5 ⟨s', m', st, wt', rfl, R5, r5, k5⟩
              have HS5 : Hid (∃ run5 : Run8 ini8 (bB (B.take (f + r))) s' (mm + m'), Wait8 s' ((bB (B.take (f + r))).drop (mm + m')) ∧ Rd w5 br ((bB (B.take (f + r))).drop (mm + m')) (mm + m')) := by
                have hh := HH.out
                rw [hh] at st wt' r5
                obtain ⟨run5, hd5⟩ := th_next8 HRUN.out st
                rw [hd5] at wt' r5
                exact ⟨run5, wt', r5⟩
              have HD5 : Hid (4 ≤ s'.nx ∨ B.length ≤ f + r → s'.nx = 4) := fun h => by
                obtain ⟨run5, wt5, _⟩ := HS5.out
                have := (th_det8 H4.out.1 (by rw [H4.out.2]; omega) run5 wt5 h).1
                rw [this]; exact H4.out.2
              have K5 : Kp (fun k => k = b ∨ k = br) wX w5 := HK4.out.trans k5 (fun _ _ e => e)
              have h5 : ¬ s'.nx = 5 := fun h => by have := HD5.out (.inl (by omega)); omega
              rw [if_neg h5]
              have HREL : Hid (∀ o1 cp1, (r < y → o1 = f + r ∧ cp1 = cp - r) → ∃ (i' f' mm' : Nat) (s : S8) (o' cp' : Nat), f' ≤ nB ∧ i' ≤ c + f' ∧ Value.slice (some ⟨g, o1, none⟩) (y - r) cp1 = .slice (some ⟨g, o', none⟩) (nB - f') cp' ∧ (f' < nB → o' = f' ∧ cp' = c2 - f') ∧ Value.bool (decide (s'.nx = 4)) = .bool (decide (s.nx = 4)) ∧ Value.int .i64 ((i : Int) + 1) = .int .i64 (i' : Int) ∧ Run8 ini8 (bB (B.take f')) s mm' ∧ Wait8 s ((bB (B.take f')).drop mm') ∧ RdH w5 b s ∧ Rd w5 br ((bB (B.take f')).drop mm') mm' ∧ Kp (fun k => k = b ∨ k = br) wX w5) := by
                obtain ⟨run5, wt5, rd5⟩ := HS5.out
                have hy := HY.out
                intro o1 cp1 ho
                refine ⟨i + 1, f + r, mm + m', s', o1, cp1, by omega, by omega, ?_, ?_, rfl, rfl, run5, wt5, R5, rd5, K5⟩
                · rw [show nB - (f + r) = y - r by omega]
                · intro hq
                  have := ho (by omega)
                  omega
              clear st wt' R5 r5 k5 K5 CSt HS5
              by_cases hx5 : s'.nx = 4
              · rw [decide_eq_true hx5] at HREL ⊢
                clear hx5 h5 HD5
                go_wp2_with fail
                go_roundw
                case rel => exact HREL.out _ _ (fun h => ⟨rfl, rfl⟩)
                case measure => simp [intOf, lenOfS]; have := HY.out; omega
              · rw [decide_eq_false hx5] at HREL ⊢
                have hyk : y - r ≠ 0 := fun h => hx5 (HD5.out (.inr (by rw [HBL.out]; have := HY.out; omega)))
                have hyki : ¬ ((y - r : Nat) : Int) = 0 := by omega
                clear hx5 h5 HD5
                have hcii : ¬ (c : Int) < (i : Int) := by omega
                go_wp2_with fail
                go_roundw
                case rel => exact HREL.out _ _ (fun h => ⟨rfl, rfl⟩)
                case measure => simp [intOf, lenOfS]; have := HY.out; omega
        · have hlti : ¬ (i : Int) < (c : Int) := by omega
          have j1 : ¬ (y : Int) < 1 := by omega
          have j2 : ¬ (sp : Int) < 1 := by omega
          go_wp2_with fail
          refine CS.mono ?_
          rintro e w2' ⟨rfl, hw2'⟩
          rw [hw2']
          clear CS hw2' w2'
          have hsegk : Seg wr (some ⟨g, f, none⟩) ((B.drop f).take 1) := by
            have := (HSR.out.drop f).take 1
            rwa [Nat.zero_add] at this
          have CF := feed_some8 br H mm g f ((B.drop f).take 1) 1 cp (by show _ = _; rw [List.length_take, List.length_drop, HBL.out]; have := HY.out; omega) wr Hrr.out hsegk (by omega) hgr hsh (by omega)
          clear hsegk
          have hkc : ((1 : Nat) : Int) ≤ (cp : Int) := by omega
          have hky : ((1 : Nat) : Int) ≤ (y : Int) := by omega
          go_wp2_with fail
          refine CF.mono ?_
          rintro e w4 ⟨rfl, r4, k4⟩
          have R4 : RdH w4 b s := HRR.out.keep (k4.block b HRR.out.lt hne)
          have K4 : Kp (fun k => k = b ∨ k = br) wX w4 := HKX.out.trans k4 (fun _ _ e => .inr e)
          have B4 : Below (X + 1) W w4 := BX1.trans (K4.below (fun k e => by rcases e with e | e <;> omega) (by have := BX1.size; omega))
          obtain ⟨_, TS4, TO4, _, _, _⟩ := HO.out w4 B4
          have CSt := pstep8 b br s (H ++ bB ((B.drop f).take 1)) mm w4 TS4 TO4 hne (by omega) (by omega) HOK.out R4 r4 (by omega)
          have HK4 : Hid (Kp (fun k => k = b ∨ k = br) wX w4) := K4
          clear CF R4 k4 r4 K4 TS4 TO4 B4
          by_cases hcap : cp = 1
          · have hcapi : (cp : Int) = ((1 : Nat) : Int) := by omega
            go_wp2_with fail
            refine CSt.mono ?_
            rintro e w5 ⟨s', m', st, wt', rfl, R5, r5, k5⟩
            have HS5 : Hid (∃ run5 : Run8 ini8 (bB (B.take (f + 1))) s' (mm + m'), Wait8 s' ((bB (B.take (f + 1))).drop (mm + m')) ∧ Rd w5 br ((bB (B.take (f + 1))).drop (mm + m')) (mm + m')) := by
              have hh := HH.out
              rw [hh] at st wt' r5
              obtain ⟨run5, hd5⟩ := th_next8 HRUN.out st
              rw [hd5] at wt' r5
              exact ⟨run5, wt', r5⟩
            have HD5 : Hid (4 ≤ s'.nx ∨ B.length ≤ f + 1 → s'.nx = 4) := fun h => by
              obtain ⟨run5, wt5, _⟩ := HS5.out
              have := (th_det8 H4.out.1 (by rw [H4.out.2]; omega) run5 wt5 h).1
              rw [this]; exact H4.out.2
            have K5 : Kp (fun k => k = b ∨ k = br) wX w5 := HK4.out.trans k5 (fun _ _ e => e)
            have h5 : ¬ s'.nx = 5 := fun h => by have := HD5.out (.inl (by omega)); omega
            rw [if_neg h5]
            have HREL : Hid (∀ o1 cp1, (1 < y → o1 = f + 1 ∧ cp1 = cp - 1) → ∃ (i' f' mm' : Nat) (s : S8) (o' cp' : Nat), f' ≤ nB ∧ i' ≤ c + f' ∧ Value.slice (some ⟨g, o1, none⟩) (y - 1) cp1 = .slice (some ⟨g, o', none⟩) (nB - f') cp' ∧ (f' < nB → o' = f' ∧ cp' = c2 - f') ∧ Value.bool (decide (s'.nx = 4)) = .bool (decide (s.nx = 4)) ∧ Value.int .i64 ((i : Int) + 1) = .int .i64 (i' : Int) ∧ Run8 ini8 (bB (B.take f')) s mm' ∧ Wait8 s ((bB (B.take f')).drop mm') ∧ RdH w5 b s ∧ Rd w5 br ((bB (B.take f')).drop mm') mm' ∧ Kp (fun k => k = b ∨ k = br) wX w5) := by
              obtain ⟨run5, wt5, rd5⟩ := HS5.out
              have hy := HY.out
              intro o1 cp1 ho
              refine ⟨i + 1, f + 1, mm + m', s', o1, cp1, by omega, by omega, ?_, ?_, rfl, rfl, run5, wt5, R5, rd5, K5⟩
              · rw [show nB - (f + 1) = y - 1 by omega]
              · intro hq
                have := ho (by omega)
                omega
            clear st wt' R5 r5 k5 K5 CSt HS5
            by_cases hx5 : s'.nx = 4
            · rw [decide_eq_true hx5] at HREL ⊢
              clear hx5 h5 HD5
              go_wp2_with fail
              go_roundw
              case rel => exact HREL.out _ _ (fun h => by omega)
              case measure => simp [intOf, lenOfS]; have := HY.out; omega
            · exact absurd (HD5.out (.inr (by rw [HBL.out]; have := HY.out; omega))) hx5
          · have hcapi : ¬ (cp : Int) = ((1 : Nat) : Int) := by omega
            go_wp2_with fail
            refine CSt.mono ?_
            rintro e w5 ⟨s', m', st, wt', rfl, R5, r5, k5⟩
            have HS5 : Hid (∃ run5 : Run8 ini8 (bB (B.take (f + 1))) s' (mm + m'), Wait8 s' ((bB (B.take (f + 1))).drop (mm + m')) ∧ Rd w5 br ((bB (B.take (f + 1))).drop (mm + m')) (mm + m')) := by
              have hh := HH.out
              rw [hh] at st wt' r5
              obtain ⟨run5, hd5⟩ := th_next8 HRUN.out st
              rw [hd5] at wt' r5
              exact ⟨run5, wt', r5⟩
            have HD5 : Hid (4 ≤ s'.nx ∨ B.length ≤ f + 1 → s'.nx = 4) := fun h => by
              obtain ⟨run5, wt5, _⟩ := HS5.out
              have := (th_det8 H4.out.1 (by rw [H4.out.2]; omega) run5 wt5 h).1
              rw [this]; exact H4.out.2
            have K5 : Kp (fun k => k = b ∨ k = br) wX w5 := HK4.out.trans k5 (fun _ _ e => e)
            have h5 : ¬ s'.nx = 5 := fun h => by have := HD5.out (.inl (by omega)); omega
            rw [if_neg h5]
            have HREL : Hid (∀ o1 cp1, (1 < y → o1 = f + 1 ∧ cp1 = cp - 1) → ∃ (i' f' mm' : Nat) (s : S8) (o' cp' : Nat), f' ≤ nB ∧ i' ≤ c + f' ∧ Value.slice (some ⟨g, o1, none⟩) (y - 1) cp1 = .slice (some ⟨g, o', none⟩) (nB - f') cp' ∧ (f' < nB → o' = f' ∧ cp' = c2 - f') ∧ Value.bool (decide (s'.nx = 4)) = .bool (decide (s.nx = 4)) ∧ Value.int .i64 ((i : Int) + 1) = .int .i64 (i' : Int) ∧ Run8 ini8 (bB (B.take f')) s mm' ∧ Wait8 s ((bB (B.take f')).drop mm') ∧ RdH w5 b s ∧ Rd w5 br ((bB (B.take f')).drop mm') mm' ∧ Kp (fun k => k = b ∨ k = br) wX w5) := by
              obtain ⟨run5, wt5, rd5⟩ := HS5.out
              have hy := HY.out
              intro o1 cp1 ho
              refine ⟨i + 1, f + 1, mm + m', s', o1, cp1, by omega, by omega, ?_, ?_, rfl, rfl, run5, wt5, R5, rd5, K5⟩
              · rw [show nB - (f + 1) = y - 1 by omega]
              · intro hq
                have := ho (by omega)
                omega
            clear st wt' R5 r5 k5 K5 CSt HS5
            by_cases hx5 : s'.nx = 4
            · rw [decide_eq_true hx5] at HREL ⊢
              clear hx5 h5 HD5
              go_wp2_with fail
              go_roundw
              case rel => exact HREL.out _ _ (fun h => ⟨rfl, rfl⟩)
              case measure => simp [intOf, lenOfS]; have := HY.out; omega
            · rw [decide_eq_false hx5] at HREL ⊢
              have hyk : y - 1 ≠ 0 := fun h => hx5 (HD5.out (.inr (by rw [HBL.out]; have := HY.out; omega)))
              have hyki : ¬ ((y - 1 : Nat) : Int) = 0 := by omega
              clear hx5 h5 HD5
              by_cases hci : c < i
              · have hcii : (c : Int) < (i : Int) := by omega
                go_wp2_with fail
                go_roundw
                case rel => exact HREL.out _ _ (fun h => ⟨rfl, rfl⟩)
                case measure => simp [intOf, lenOfS]; have := HY.out; omega
              · have hcii : ¬ (c : Int) < (i : Int) := by omega
                go_wp2_with fail
                go_roundw
                case rel => exact HREL.out _ _ (fun h => ⟨rfl, rfl⟩)
                case measure => simp [intOf, lenOfS]; have := HY.out; omega
  · rw [if_neg ht] at CC
    have HTL : Hid (¬ tld8 errC zl zd) := ht
    go_wp2_with fail
    refine CC.mono ?_
    rintro e w1 ⟨rfl, b1⟩
    have B1 : Below (X + 1) W w1 := b1.mono (by omega)
    obtain ⟨q1, q2⟩ := HC.out w1 B1
    obtain ⟨_, TS, TO, sL, sD, _⟩ := HO.out w1 B1
    have CW := pwrite8 (X + 1) (X + 2) (.slice none 0 0) [] zl zd la da n m lc dc HN HM w1 (HWL.out.below8 b1) (by simp) sL sD cl cd TS TO (by omega) (by omega)
    unfold WtQ at CW
    rw [if_neg ht, if_neg ht, List.nil_append] at CW
    clear CC TS TO sL sD b1
    go_wp2_with fail
    refine CW.mono ?_
    rintro e w2 ⟨rfl, v2, L2, k2, fr2⟩
    have B2 : Below (X + 1) W w2 := B1.trans (k2.below (fun k e => by rcases e with e | e; omega; simp [Value.ownBlock] at e) (by have := B1.size; omega))
    obtain ⟨_, TS, _, _, _, _⟩ := HO.out w2 B2
    have CA := awake8 w2 TS
    have HL2 : Hid (WrL w2 (X + 1) (X + 2) v2 []) := L2
    clear CW TS k2 fr2 L2 B1 HWL
    go_wp2_with fail
    refine CA.mono ?_
    rintro e w3 ⟨rfl, b3⟩
    have B3 : Below (X + 1) W w3 := B2.trans (b3.mono (by have := B2.size; omega))
    have HL3 : Hid (WrL w3 (X + 1) (X + 2) v2 []) := HL2.out.below8 b3
    obtain ⟨q1, q2⟩ := HC.out w3 B3
    obtain ⟨_, _, _, sL, sD, _⟩ := HO.out w3 B3
    have CT := told8n zl zd la da n m lc dc HN HM w3 sL sD (by omega) (by omega) ht
    clear CA b3 HL2 B2 sL sD ht
    go_wp2_with fail
    refine CT.mono ?_
    rintro e w4 ⟨rfl, b4⟩
    have B4 : Below (X + 1) W w4 := B3.trans (b4.mono (by have := B3.size; omega))
    have CL := len_any (X + 1) (X + 2) v2 [] w4 (HL3.out.below8 b4) (by simp)
    rw [show (([] : List Bool).length : Int) = 0 from rfl] at CL
    clear CT b4 HL3 B3 q1 q2
    go_wp2_with fail
    refine CL.mono ?_
    rintro e w5 ⟨rfl, b5⟩
    have B5 : Below (X + 1) W w5 := B4.trans (b5.mono (by have := B4.size; omega))
    obtain ⟨_, TS5, _, _, _, _⟩ := HO.out w5 B5
    have CA2 := awake8 w5 TS5
    clear CL b5 B4 TS5
    go_wp2_with fail
    refine CA2.mono ?_
    rintro e w6 ⟨rfl, b6⟩
    have B6 : Below (X + 1) W w6 := B5.trans (b6.mono (by have := B5.size; omega))
    obtain ⟨hBf, _, _, _, _, _⟩ := HO.out w6 B6
    clear CA2 b6 B5
    go_wp2_with fail
    go_ret
    exact ⟨rfl, hBf⟩
end Go.Proofs.YthcmebmohhajaaaDoor

namespace Go.Proofs.YthcmebmohhajaaaDoor
open Go.ChangeShapes Go.WideShapes Go.ChangeAt Go.RowKit
set_option linter.unusedVariables false

/-- A slice of whole numbers that came in: what lies there, and how it was read. -/
theorem open_seg {H : Type} {enc : TypeId × Value → H} {P : Program} {W : World} {T e : TypeId} {k : IntKind} {M : Int} {a : Option Addr} {len cap : Nat} {d : DataW H} {p : List MemPlace}
    (hT : P.underlying T = some (.slice e)) (he : P.underlying e = some (.int k)) (hc : P.cellsOf e = 1) (hM : 0 ≤ M) (hwf : ∀ n, (Lit.int k n).wf = true → 0 ≤ n ∧ n ≤ M)
    (h : DataW.Trod enc P W 0 (fun _ => true) true T (.slice a len cap) d p) :
    ∃ zs : List Int, zs.length = len ∧ SegK k M W a zs ∧ len ≤ cap ∧ (a = none → cap = 0) ∧ ((d = .nil ∧ len = 0) ∨ ∃ elems spare, d = .slice elems spare ∧ elems.length = len) := by
  obtain ⟨fuel, hf⟩ := h
  rcases open_ints hT he hc hf with ⟨hcs, hx⟩ | ⟨x, l, c, zs, hcs, _, hl, hm, hz, hx, hcell, hwz⟩
  · simp [Value.cells] at hcs
    obtain ⟨rfl, rfl, rfl⟩ := hcs
    simp only [Prod.mk.injEq] at hx
    exact ⟨[], rfl, SegK.nil hM _ _, Nat.le_refl _, fun _ => rfl, Or.inl ⟨hx.1, rfl⟩⟩
  · simp [Value.cells] at hcs
    obtain ⟨rfl, rfl, rfl⟩ := hcs
    simp only [Prod.mk.injEq] at hx
    simp only [if_true] at hz
    refine ⟨zs.take len, by simp; omega, ⟨fun i hi => ?_, hM, getD_bd hM ?_⟩, hl, (by intro h; cases h), Or.inr ⟨_, _, hx.1, by simp [ChangeShapes.lits]; omega⟩⟩
    · simp at hi
      have hi2 : i < len := by omega
      have h1 := hcell i (by omega)
      obtain ⟨b, off, spot⟩ := x
      have hs : spot = none := by
        have := hcell 0 (by omega)
        simpa [Addr.add] using World.cell?_spot this
      subst hs
      refine ⟨b, off, rfl, ?_⟩
      have hadd : (⟨b, off, none⟩ : Addr).add i = ⟨b, off + i, none⟩ := by unfold Addr.add; split <;> simp_all
      rw [hadd] at h1
      rw [h1]
      simp [List.getD, hi2]
    · intro z hz1
      exact hwf z (hwz z (List.mem_of_mem_take hz1))
end Go.Proofs.YthcmebmohhajaaaDoor

namespace Go.Proofs.YthcmebmohhajaaaDoor
open Go.ChangeShapes Go.WideShapes Go.ChangeAt Go.RowKit
set_option linter.unusedVariables false

/-- A slice of whole numbers with a sign that came in. -/
theorem open_segZ {H : Type} {enc : TypeId × Value → H} {P : Program} {W : World} {T e : TypeId} {a : Option Addr} {len cap : Nat} {d : DataW H} {p : List MemPlace}
    (hT : P.underlying T = some (.slice e)) (he : P.underlying e = some (.int .i64)) (hc : P.cellsOf e = 1)
    (h : DataW.Trod enc P W 0 (fun _ => true) true T (.slice a len cap) d p) :
    ∃ zs : List Int, zs.length = len ∧ SegZ W a zs ∧ len ≤ cap ∧ (a = none → cap = 0) ∧ ((d = .nil ∧ len = 0) ∨ ∃ elems spare, d = .slice elems spare ∧ elems.length = len) := by
  obtain ⟨fuel, hf⟩ := h
  rcases open_ints hT he hc hf with ⟨hcs, hx⟩ | ⟨x, l, c, zs, hcs, _, hl, hm, hz, hx, hcell, hwz⟩
  · simp [Value.cells] at hcs
    obtain ⟨rfl, rfl, rfl⟩ := hcs
    simp only [Prod.mk.injEq] at hx
    exact ⟨[], rfl, SegZ.nil _ _, Nat.le_refl _, fun _ => rfl, Or.inl ⟨hx.1, rfl⟩⟩
  · simp [Value.cells] at hcs
    obtain ⟨rfl, rfl, rfl⟩ := hcs
    simp only [Prod.mk.injEq] at hx
    simp only [if_true] at hz
    refine ⟨zs.take len, by simp; omega, ⟨fun i hi => ?_, getD_bdz ?_⟩, hl, (by intro h; cases h), Or.inr ⟨_, _, hx.1, by simp [ChangeShapes.lits]; omega⟩⟩
    · simp at hi
      have hi2 : i < len := by omega
      have h1 := hcell i (by omega)
      obtain ⟨b, off, spot⟩ := x
      have hs : spot = none := by
        have := hcell 0 (by omega)
        simpa [Addr.add] using World.cell?_spot this
      subst hs
      refine ⟨b, off, rfl, ?_⟩
      have hadd : (⟨b, off, none⟩ : Addr).add i = ⟨b, off + i, none⟩ := by unfold Addr.add; split <;> simp_all
      rw [hadd] at h1
      rw [h1]
      simp [List.getD, hi2]
    · intro z hz1
      exact bounds_i64 (hwz z (List.mem_of_mem_take hz1))
end Go.Proofs.YthcmebmohhajaaaDoor
