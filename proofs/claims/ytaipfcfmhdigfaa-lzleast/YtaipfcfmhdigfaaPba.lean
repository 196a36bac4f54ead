import Derived.Test.YtaipfcfmhdigfaaPao
import Derived.Test.YtaipfcfmhdigfaaPax
import Derived.Test.YtaipfcfmhdigfaaPaz
import Derived.Lib.SmallJoins
import Derived.Test.YtaipfcfmhdigfaaPaa
import Derived.WalkKit
import Derived.ProofKit
import Derived.OpenShut
import Derived.SizedLaws
import Derived.Test.YtaipfcfmhdigfaaPad
import Derived.Deep.Slices
namespace Go.Proofs.Ytaipfcfmhdigfaa
open Go.RowKit
set_option linter.unusedVariables false
set_option linter.unusedSimpArgs false

set_option maxRecDepth 100000 in
set_option maxHeartbeats 8000000 in
theorem lzLeast_in (w : World) (a : Option Addr) (n cap : Nat) (D : List Int) (hn : D.length = n) (hs : Seg w a D) (hcap : n ≤ cap) (hnil : a = none → cap = 0) (hl : n ≤ 1048576) (win chain : Int) (lazy : Bool) (c : Pr7) :
    Calls Try.prog 8 #[.slice a n cap, look7 win chain lazy, price7 c] w fun e w' => e = .returned (.bool true) ∧ Below w.heap.size w w' := by
  obtain ⟨wA, hwA⟩ : ∃ wA, wA = w.alloc (.cells #[.int .i64 win, .int .i64 chain, .bool lazy] 44) := ⟨_, rfl⟩
  obtain ⟨wB, hwB⟩ : ∃ wB, wB = wA.alloc (.cells #[.int .i64 c.lit, .int .i64 c.mat, .int .i64 c.far] 64) := ⟨_, rfl⟩
  have bA : Below w.heap.size w wA := by rw [hwA]; exact below_box _ _
  have bB : Below wA.heap.size wA wB := by rw [hwB]; exact below_box _ _
  have BB : Below w.heap.size w wB := bA.trans (bB.mono bA.size)
  have HWA : Hid (wA = w.alloc (.cells #[.int .i64 win, .int .i64 chain, .bool lazy] 44)) := hwA
  have HWB : Hid (wB = wA.alloc (.cells #[.int .i64 c.lit, .int .i64 c.mat, .int .i64 c.far] 64)) := hwB
  have hbA : wA.heap[w.heap.size]? = some (.cells #[.int .i64 win, .int .i64 chain, .bool lazy] 44 (0, 0)) := by rw [hwA]; exact heap_alloc_new w _
  have hob1 : w.heap.size < wA.heap.size := (Array.getElem?_eq_some_iff.1 hbA).1
  have hbB1 : wB.heap[w.heap.size]? = some (.cells #[.int .i64 win, .int .i64 chain, .bool lazy] 44 (0, 0)) := (bB.block _ hob1).trans hbA
  have hbB2 : wB.heap[wA.heap.size]? = some (.cells #[.int .i64 c.lit, .int .i64 c.mat, .int .i64 c.far] 64 (0, 0)) := by rw [hwB]; exact heap_alloc_new wA _
  have hzl : wA.heap.size < wB.heap.size := (Array.getElem?_eq_some_iff.1 hbB2).1
  obtain ⟨zb, hzb⟩ : ∃ zb, zb = wA.heap.size := ⟨_, rfl⟩
  obtain ⟨ob, hob⟩ : ∃ ob, ob = w.heap.size := ⟨_, rfl⟩
  have HZB : Hid (w.heap.size + 1 = zb) := by show _ = _; rw [hzb, hwA]; simp
  have HOB : Hid (ob = w.heap.size) := hob
  have hoz : ob ≠ zb := by rw [hob, hzb]; omega
  have how : w.heap.size ≤ ob := by omega
  have hzw : w.heap.size ≤ zb := by rw [hzb]; exact bA.size
  rw [← hzb] at hbB2 hzl
  rw [← hob] at hbB1 hob1
  have hobB : ob < wB.heap.size := Nat.lt_of_lt_of_le hob1 bB.size
  have HO : Hid (∀ W, Below wB.heap.size wB W → W.heap[ob]? = some (.cells #[.int .i64 win, .int .i64 chain, .bool lazy] 44 (0, 0))) := fun W hW => (hW.block ob hobB).trans hbB1
  have HZ : Hid (∀ W, Below wB.heap.size wB W → W.heap[zb]? = some (.cells #[.int .i64 c.lit, .int .i64 c.mat, .int .i64 c.far] 64 (0, 0))) := fun W hW => (hW.block zb hzl).trans hbB2
  have HS : Hid (∀ W, Below w.heap.size w W → Seg W a D) := fun W hW => hs.old hW
  have hbd := hs.mem
  subst hn
  have HCK : Hid (∀ (ch : Int) (lz : Bool) (W : World), Calls Try.prog 22 #[.agg #[.int .i64 win, .int .i64 ch, .bool lz]] W fun e w' => e = .returned (look7 win ch lz) ∧ Below W.heap.size W w') := fun ch lz W => look7_any win ch lz W
  have HCP : Hid (∀ W, Calls Try.prog 31 #[.agg #[.int .i64 c.lit, .int .i64 c.mat, .int .i64 c.far]] W fun e w' => e = .returned (price7 c) ∧ Below W.heap.size W w') := fun W => price7_any c W
  have HCH : Hid (∀ W, Below w.heap.size w W → Calls Try.prog 30 #[.slice a D.length cap, look7 win chain lazy, price7 c] W (CheP W 56 (cheap7 D win chain c) (cheapV7 D win chain c) (cheapE7 win chain c))) := fun W hW => pche7 D a D.length cap win chain lazy c rfl W (HS.out W hW) hcap hnil hl
  have H3 : Hid (∀ W, Below wB.heap.size wB W → Calls Try.prog 30 #[.slice a D.length cap, look7 win chain lazy, price7 c] W fun e w' => ∃ oa oc, e = .returned (.tuple #[.slice oa (cheap7 D win chain c).length oc, .int .i64 (cheapV7 D win chain c), .int .i64 (cheapE7 win chain c)]) ∧ w'.ownsRow wB.heap.size 56 3 (.slice oa (cheap7 D win chain c).length oc) (cheap7 D win chain c).length (flatT (cheap7 D win chain c)) ∧ Below wB.heap.size wB w') := fun W hW => by
    refine (HCH.out W (BB.trans (hW.mono BB.size))).mono ?_
    rintro e w' ⟨oa, oc, rfl, ho, hb⟩
    exact ⟨oa, oc, rfl, own_baseT ho hW.size, hW.trans (hb.mono hW.size)⟩
  have HPA : Hid (∀ (ch : Int) (lz : Bool) (W : World), Below w.heap.size w W → Calls Try.prog 21 #[.slice a D.length cap, look7 win ch lz] W (ParQ W 56 (parse7 D win ch lz) (opt7 win ch))) := fun ch lz W hW => ppar7 D a D.length cap win ch lz rfl W (HS.out W hW) hcap hnil (by omega)
  have H1 : Hid (∀ W, Below wB.heap.size wB W → Calls Try.prog 22 #[.agg #[.int .i64 win, .int .i64 chain, .bool lazy]] W fun e w' => e = .returned (look7 win chain lazy) ∧ Below wB.heap.size wB w') := fun W hW => by
    refine (HCK.out chain lazy W).mono ?_
    rintro e w' ⟨rfl, hb⟩
    exact ⟨rfl, hW.trans (hb.mono hW.size)⟩
  have H2 : Hid (∀ W, Below wB.heap.size wB W → Calls Try.prog 31 #[.agg #[.int .i64 c.lit, .int .i64 c.mat, .int .i64 c.far]] W fun e w' => e = .returned (price7 c) ∧ Below wB.heap.size wB w') := fun W hW => by
    refine (HCP.out W).mono ?_
    rintro e w' ⟨rfl, hb⟩
    exact ⟨rfl, hW.trans (hb.mono hW.size)⟩
  have HCL : Hid (∀ W, Below wB.heap.size wB W → (W.cell? ⟨ob, 0, none⟩ = some (.int .i64 win) ∧ W.cell? ⟨ob, 1, none⟩ = some (.int .i64 chain) ∧ W.cell? ⟨ob, 2, none⟩ = some (.bool lazy)) ∧ (W.cell? ⟨zb, 0, none⟩ = some (.int .i64 c.lit) ∧ W.cell? ⟨zb, 1, none⟩ = some (.int .i64 c.mat) ∧ W.cell? ⟨zb, 2, none⟩ = some (.int .i64 c.far))) := fun W hW => by
    have x1 := HO.out W hW
    have x2 := HZ.out W hW
    exact ⟨⟨by simp [World.cell?, x1], by simp [World.cell?, x1], by simp [World.cell?, x1]⟩, ⟨by simp [World.cell?, x2], by simp [World.cell?, x2], by simp [World.cell?, x2]⟩⟩
  have bt0 : Below wB.heap.size wB wB.drew := (Below.refl _ _).drew
  have hcd := HCL.out _ bt0
  clear hwA hwB hbA hbB1 hbB2 hob1 hob hzb hs bA bB
  have HLK : Hid (look7 win chain lazy = .agg #[.int .i64 win, .int .i64 chain, .bool lazy]) := rfl
  have HPK : Hid (price7 c = .agg #[.int .i64 c.lit, .int .i64 c.mat, .int .i64 c.far]) := rfl
  have hA7 := cheap7_all (D := D) (win := win) (chain := chain) (c := c) hbd
  have HNO : Hid (∀ W, opt7 win chain ≠ 0 → Calls Try.prog 32 #[.slice none 0 0, look7 win chain lazy, price7 c] W fun e w' => e = .returned (.tuple #[.slice none 0 0, .int .i64 0, .int .i64 72]) ∧ Below W.heap.size W w') := fun W h => rchea7_no none 0 0 win chain lazy c W h
  have HBD : Hid (∀ W, opt7 win chain = 0 → badP c → Calls Try.prog 32 #[.slice none 0 0, look7 win chain lazy, price7 c] W fun e w' => e = .returned (.tuple #[.slice none 0 0, .int .i64 0, .int .i64 72]) ∧ Below W.heap.size W w') := fun W h hb => rchea7_bad none 0 0 win chain lazy c W h hb
  rw [HLK.out, HPK.out]
  by_cases hok : opt7 win chain = 0 ∧ ¬ badP c
  · obtain ⟨c1, c2, c3, c4, c5, c6, c7, c8⟩ := hA7 hok.1 hok.2
    have ho2 : opt7 win 4096 = 0 := by
      have := opt7_ok hok.1
      unfold opt7
      rw [if_neg (by omega)]
    obtain ⟨g1, g2⟩ := c8 chain lazy hok.1
    obtain ⟨g3, g4⟩ := c8 4096 (!lazy) ho2
    have hgp : GoodP c := by have := hok.2; unfold badP at this; unfold GoodP; omega
    have hlit : 0 ≤ c.lit * (D.length : Int) ∧ c.lit * (D.length : Int) ≤ 1099511627776 := by
      refine ⟨Int.mul_nonneg hgp.1.1 (by omega), ?_⟩
      have : c.lit * (D.length : Int) ≤ 1048576 * 1048576 := Int.mul_le_mul hgp.1.2 (by omega) (by omega) (by omega)
      omega
    have l1 := parse7_len (D := D) (win := win) (chain := chain) (lazy := lazy)
    have l2 := parse7_len (D := D) (win := win) (chain := 4096) (lazy := !lazy)
    have HP1 := HPA.out chain lazy
    have HP2 := HPA.out 4096 (!lazy)
    rw [hok.1] at HP1
    rw [ho2] at HP2
    have HP1' : Hid _ := HP1
    have HP2' : Hid _ := HP2
    rw [c5] at H3
    have HCX : Hid (∀ (l : List Tok7) (pa : Option Addr) (pc : Nat) (W : World), l.length ≤ 1073741824 → SegT W pa l → (∀ t ∈ l, GoodT t) → Calls Try.prog 33 #[.slice pa l.length pc, .agg #[.int .i64 c.lit, .int .i64 c.mat, .int .i64 c.far]] W fun e w' => e = .returned (.int .i64 (cost7 c l)) ∧ Below W.heap.size W w') := fun l pa pc W h1 h2 h3 => costs7 l pa l.length pc c rfl W h2 h1 h3 hgp
    have k1 : ∀ t ∈ cheap7 D win chain c, GoodT t := fun t ht => ⟨(c6 t ht).2.1, (c6 t ht).2.2.1, (c6 t ht).2.2.2⟩
    have k2 : ∀ t ∈ parse7 D win chain lazy, GoodT t := fun t ht => ⟨(g2 t ht).2.1, (g2 t ht).2.2.1, (g2 t ht).2.2.2⟩
    have k3 : ∀ t ∈ parse7 D win 4096 (!lazy), GoodT t := fun t ht => ⟨(g4 t ht).2.1, (g4 t ht).2.2.1, (g4 t ht).2.2.2⟩
    have j1 : ∀ t ∈ cheap7 D win chain c, t.Fit := fun t ht => (c6 t ht).1
    have j2 : ∀ t ∈ parse7 D win chain lazy, t.Fit := fun t ht => (g2 t ht).1
    have j3 : ∀ t ∈ parse7 D win 4096 (!lazy), t.Fit := fun t ht => (g4 t ht).1
    have HTT : Hid (check7 win (cheap7 D win chain c) = (0, 0) ∧ xpd7 win (cheap7 D win chain c) = D) := ⟨c1, c2⟩
    clear hA7 HNO HBD HPA HCH c1 c2 c5 c6 c8 g2 g4 HP1 HP2 hok ho2 hgp
    generalize cheap7 D win chain c = T at *
    generalize parse7 D win chain lazy = P1 at *
    generalize parse7 D win 4096 (!lazy) = P2 at *
    generalize cheapV7 D win chain c = V at *
    have HV : Hid (cost7 c T = V) := c3
    have q1 : ¬ cost7 c P1 < V := by omega
    have q2 : V ≤ cost7 c P2 := g3
    have q3 : ¬ c.lit * (D.length : Int) < V := by omega
    have hwl : IntKind.i64.wrap (c.lit * (D.length : Int)) = c.lit * (D.length : Int) := IntWalk.i64_in _ (by omega)
    have HC1 : Hid (∀ (pa : Option Addr) (pc : Nat) (W : World), SegT W pa T → Calls Try.prog 33 #[.slice pa T.length pc, .agg #[.int .i64 c.lit, .int .i64 c.mat, .int .i64 c.far]] W fun e w' => e = .returned (.int .i64 V) ∧ Below W.heap.size W w') := fun pa pc W h => by
      have := HCX.out T pa pc W (by omega) h k1
      rwa [HV.out] at this
    have HC2 : Hid (∀ (pa : Option Addr) (pc : Nat) (W : World), SegT W pa P1 → Calls Try.prog 33 #[.slice pa P1.length pc, .agg #[.int .i64 c.lit, .int .i64 c.mat, .int .i64 c.far]] W fun e w' => e = .returned (.int .i64 (cost7 c P1)) ∧ Below W.heap.size W w') := fun pa pc W h => HCX.out P1 pa pc W (by omega) h k2
    have HC3 : Hid (∀ (pa : Option Addr) (pc : Nat) (W : World), SegT W pa P2 → Calls Try.prog 33 #[.slice pa P2.length pc, .agg #[.int .i64 c.lit, .int .i64 c.mat, .int .i64 c.far]] W fun e w' => e = .returned (.int .i64 (cost7 c P2)) ∧ Below W.heap.size W w') := fun pa pc W h => HCX.out P2 pa pc W (by omega) h k3
    have HEX : Hid (∀ (W : World) (pa : Option Addr) (pc : Nat), SegT W pa T → T.length ≤ pc → (pa = none → pc = 0) → Calls Try.prog 13 #[.int .i64 win, .slice pa T.length pc] W (ExpQ W D 0)) := fun W pa pc h1 h2 h3 => by
      have := pexp7 win T pa T.length pc rfl W h1 h2 h3 (by omega)
      rw [HTT.out.1, HTT.out.2] at this
      exact this
    generalize cost7 c P1 = v1 at *
    generalize cost7 c P2 = v2 at *
    clear c3 g1 g3 c7 hlit HCX HTT HV
    have HLP : Hid (T.length ≤ D.length) := c4
    obtain ⟨lt, mt, fr⟩ := c
    simp only at HWB HCP HCL hcd H2 HPK HZ HC1 HC2 HC3 q3 hwl
    obtain ⟨⟨d0, d1, d2⟩, ⟨d3, d4, d5⟩⟩ := hcd
    go_enter Try.func8, Try.ntmps8
    go_wp2_with fail
    rw [HZB.out, ← HWA.out, ← HWB.out, ← HOB.out]
    go_region_held3 (fun w' => (w'.cell? ⟨ob, 0, none⟩ = some (.int .i64 win) ∧ w'.cell? ⟨ob, 1, none⟩ = some (.int .i64 chain) ∧ w'.cell? ⟨ob, 2, none⟩ = some (.bool lazy)) ∧ (w'.cell? ⟨zb, 0, none⟩ = some (.int .i64 lt) ∧ w'.cell? ⟨zb, 1, none⟩ = some (.int .i64 mt) ∧ w'.cell? ⟨zb, 2, none⟩ = some (.int .i64 fr)))
      (first | (exact HCL.out _ (by assumption)) | (exact ⟨⟨d0, d1, d2⟩, ⟨d3, d4, d5⟩⟩) | go_keep)
      (first
        | (go_at_call 22; refine (H1.out _ (by assumption)).mono ?_; rintro e wl ⟨rfl, btl⟩)
        | (go_at_call 31; refine (H2.out _ (by assumption)).mono ?_; rintro e wm ⟨rfl, btm⟩)
        | (go_at_call 30; refine (H3.out _ (by assumption)).mono ?_; rintro e wn ⟨xa, xc, rfl, On, bn⟩))
    all_goals
      obtain ⟨⟨k0, k1', k2'⟩, ⟨k3', k4, k5⟩⟩ := HCL.out wn bn
      obtain ⟨fc, fn, _⟩ := own_factsT On
      have sn : SegT wn xa T := own_segT On rfl j1
      have Bn := BB.trans (bn.mono BB.size)
      have CE := HEX.out wn xa xc sn fc fn
      clear On
      go_wp2_with fail
      refine CE.mono ?_
      rintro e w4 ⟨ya, yc, rfl, O4, b4⟩
      have bn4 := bn.trans (b4.mono bn.size)
      have B4 := BB.trans (bn4.mono BB.size)
      obtain ⟨⟨m0, m1, m2⟩, ⟨m3, m4, m5⟩⟩ := HCL.out w4 bn4
      clear k0 k1' k2' k3' k4 k5 CE
      go_wp2_with fail
      refine (HCK.out chain lazy w4).mono ?_
      rintro e w5 ⟨rfl, b5⟩
      have bn5 := bn4.trans (b5.mono bn4.size)
      have B5 := BB.trans (bn5.mono BB.size)
      go_wp2_with fail
      refine (HP1'.out w5 B5).mono ?_
      rintro e w6 ⟨pa, pc, rfl, O6, b6⟩
      have bn6 := bn5.trans (b6.mono bn5.size)
      have B6 := BB.trans (bn6.mono BB.size)
      have b46 := b5.trans (b6.mono b5.size)
      have bnn6 := b4.trans (b46.mono b4.size)
      obtain ⟨_, _, _, hv, sy, _⟩ := own_seg (own_below O4 b46) (M := 255) (by decide) hbd
      cases hv
      have CS := bsame_any ya a D D yc cap w6 sy (HS.out w6 B6)
      rw [beq_self7] at CS
      have sp : SegT w6 pa P1 := own_segT O6 rfl j2
      obtain ⟨⟨n0, n1, n2⟩, ⟨n3, n4, n5⟩⟩ := HCL.out w6 bn6
      have CT := HC1.out xa xc w6 (sn.old bnn6)
      clear m0 m1 m2 m3 m4 m5 O4 O6 sy
      go_wp2_with fail
      refine CS.mono ?_
      rintro e w7 ⟨rfl, hw7⟩
      subst hw7
      go_wp2_with fail
      refine CT.mono ?_
      rintro e w8 ⟨rfl, b8⟩
      have bn8 := bn6.trans (b8.mono bn6.size)
      have B8 := BB.trans (bn8.mono BB.size)
      obtain ⟨⟨r0, r1, r2⟩, ⟨r3, r4, r5⟩⟩ := HCL.out w8 bn8
      clear n0 n1 n2 n3 n4 n5 CS CT
      go_wp2_with fail
      refine (HC2.out pa pc w8 (sp.old b8)).mono ?_
      rintro e w9 ⟨rfl, b9⟩
      have bn9 := bn8.trans (b9.mono bn8.size)
      have B9 := BB.trans (bn9.mono BB.size)
      obtain ⟨⟨t0, t1, t2⟩, ⟨t3, t4, t5⟩⟩ := HCL.out w9 bn9
      have hO9 := HO.out w9 bn9
      have hZ9 := HZ.out w9 bn9
      have fz1 : w9.frozen? ⟨ob, 1, none⟩ = false := by simp [World.frozen?, hO9]
      have fz2 : w9.frozen? ⟨ob, 2, none⟩ = false := by simp [World.frozen?, hO9]
      obtain ⟨wS, hwS⟩ : ∃ wS, wS = (w9.setCell ⟨ob, 2, none⟩ (.bool (!lazy))).setCell ⟨ob, 1, none⟩ (.int .i64 4096) := ⟨_, rfl⟩
      have hOS : wS.heap[ob]? = some (.cells #[.int .i64 win, .int .i64 4096, .bool (!lazy)] 44 (0, 0)) := by
        rw [hwS]
        have h1 := Go.Joins.block_setCell hO9 (i := 2) (.bool (!lazy))
        have h2 := Go.Joins.block_setCell h1 (i := 1) (.int .i64 4096)
        rw [h2]
        rfl
      have kS : Kp (fun k => k = ob) w9 wS := by rw [hwS]; exact (Kp.set (S := fun k => k = ob) rfl _).trans (Kp.set (S := fun k => k = ob) rfl _) (fun _ _ e => e)
      have hZS : wS.heap[zb]? = _ := kS.heap hZ9 (fun e => hoz e.symm)
      have BS : Below w.heap.size w wS := B9.trans (kS.below (fun k e => by omega) B9.size)
      have s0 : wS.cell? ⟨ob, 0, none⟩ = some (.int .i64 win) := by simp [World.cell?, hOS]
      have s1 : wS.cell? ⟨ob, 1, none⟩ = some (.int .i64 4096) := by simp [World.cell?, hOS]
      have s2 : wS.cell? ⟨ob, 2, none⟩ = some (.bool (!lazy)) := by simp [World.cell?, hOS]
      have hzlS : zb < wS.heap.size := (Array.getElem?_eq_some_iff.1 hZS).1
      have HZS : Hid (∀ W, Below wS.heap.size wS W → W.cell? ⟨zb, 0, none⟩ = some (.int .i64 lt) ∧ W.cell? ⟨zb, 1, none⟩ = some (.int .i64 mt) ∧ W.cell? ⟨zb, 2, none⟩ = some (.int .i64 fr)) := fun W hW => by
        have x := (hW.block zb hzlS).trans hZS
        exact ⟨by simp [World.cell?, x], by simp [World.cell?, x], by simp [World.cell?, x]⟩
      have HWS : Hid (wS = (w9.setCell ⟨ob, 2, none⟩ (.bool (!lazy))).setCell ⟨ob, 1, none⟩ (.int .i64 4096)) := hwS
      clear r0 r1 r2 r3 r4 r5 hwS hOS hZS hO9 hZ9
      go_wp2_with fail
      rw [← HWS.out]
      refine (HCK.out 4096 (!lazy) wS).mono ?_
      rintro e w10 ⟨rfl, b10⟩
      have B10 := BS.trans (b10.mono BS.size)
      go_wp2_with fail
      refine (HP2'.out w10 B10).mono ?_
      rintro e w11 ⟨pa2, pc2, rfl, O11, b11⟩
      have b1011 := b10.trans (b11.mono b10.size)
      have B11 := B10.trans (b11.mono B10.size)
      obtain ⟨u0, u1, u2⟩ := HZS.out w11 b1011
      have sp2 : SegT w11 pa2 P2 := own_segT O11 rfl j3
      clear O11
      go_wp2_with fail
      refine (HC3.out pa2 pc2 w11 sp2).mono ?_
      rintro e w12 ⟨rfl, b12⟩
      have B12 := B11.trans (b12.mono B11.size)
      go_wp2_with fail
      refine (lives7 w12).mono ?_
      rintro e w13 ⟨rfl, b13⟩
      go_wp2_with fail
      go_ret
      exact ⟨rfl, B12.trans (b13.mono B12.size)⟩
  · have e1 : cheap7 D win chain c = [] := by unfold cheap7; rw [if_neg hok]
    have e2 : cheapV7 D win chain c = 0 := by unfold cheapV7; rw [if_neg hok]
    have e3 : cheapE7 win chain c = 72 := by unfold cheapE7; rw [if_neg hok]
    rw [e1, e2, e3] at H3
    have HRC : Hid (∀ W, Calls Try.prog 32 #[.slice none 0 0, .agg #[.int .i64 win, .int .i64 chain, .bool lazy], .agg #[.int .i64 c.lit, .int .i64 c.mat, .int .i64 c.far]] W fun e w' => e = .returned (.tuple #[.slice none 0 0, .int .i64 0, .int .i64 72]) ∧ Below W.heap.size W w') := fun W => by
      by_cases h0 : opt7 win chain = 0
      · exact HBD.out W h0 (Classical.byContradiction fun h => hok ⟨h0, h⟩)
      · exact HNO.out W h0
    clear hA7 HNO HBD hok e1 e2 e3 HPA HCH
    obtain ⟨lt, mt, fr⟩ := c
    simp only at HWB HCP HCL hcd H2 HRC HPK HZ
    obtain ⟨⟨d0, d1, d2⟩, ⟨d3, d4, d5⟩⟩ := hcd
    go_enter Try.func8, Try.ntmps8
    go_wp2_with fail
    rw [HZB.out, ← HWA.out, ← HWB.out, ← HOB.out]
    go_region_held3 (fun w' => (w'.cell? ⟨ob, 0, none⟩ = some (.int .i64 win) ∧ w'.cell? ⟨ob, 1, none⟩ = some (.int .i64 chain) ∧ w'.cell? ⟨ob, 2, none⟩ = some (.bool lazy)) ∧ (w'.cell? ⟨zb, 0, none⟩ = some (.int .i64 lt) ∧ w'.cell? ⟨zb, 1, none⟩ = some (.int .i64 mt) ∧ w'.cell? ⟨zb, 2, none⟩ = some (.int .i64 fr)))
      (first | (exact HCL.out _ (by assumption)) | (exact ⟨⟨d0, d1, d2⟩, ⟨d3, d4, d5⟩⟩) | go_keep)
      (first
        | (go_at_call 22; refine (H1.out _ (by assumption)).mono ?_; rintro e wl ⟨rfl, btl⟩)
        | (go_at_call 31; refine (H2.out _ (by assumption)).mono ?_; rintro e wm ⟨rfl, btm⟩)
        | (go_at_call 30; refine (H3.out _ (by assumption)).mono ?_; rintro e wn ⟨xa, xc, rfl, On, bn⟩))
    all_goals
      obtain ⟨⟨k0, k1, k2⟩, ⟨k3, k4, k5⟩⟩ := HCL.out wn bn
      clear On
      go_wp2_with fail
      refine (HRC.out wn).mono ?_
      rintro e w5 ⟨rfl, b5⟩
      have B5 := (BB.trans (bn.mono BB.size)).trans (b5.mono (Nat.le_trans BB.size bn.size))
      go_wp2_with fail
      refine (lives7 w5).mono ?_
      rintro e w6 ⟨rfl, b6⟩
      go_wp2_with fail
      go_ret
      exact ⟨rfl, B5.trans (b6.mono B5.size)⟩
end Go.Proofs.Ytaipfcfmhdigfaa

namespace Go.Proofs.Ytaipfcfmhdigfaa
open Go.RowKit
set_option linter.unusedVariables false
theorem lzLeast_walk (w : World) (a : Option Addr) (D : List Int) (cap : Nat) (hs : Seg w a D) (hc : D.length ≤ cap) (hnil : a = none → cap = 0) (hl : D.length ≤ 1048576) (win chain : Int) (lazy : Bool) (x y z : Int) :
    Calls Try.prog 8 #[.slice a D.length cap, .agg #[.int .i64 win, .int .i64 chain, .bool lazy], .agg #[.int .i64 x, .int .i64 y, .int .i64 z]] w fun e w' => e = .returned (.bool true) ∧ Below w.heap.size w w' := lzLeast_in w a D.length cap D rfl hs hc hnil hl win chain lazy ⟨x, y, z⟩
end Go.Proofs.Ytaipfcfmhdigfaa

namespace Go.Proofs.Ytaipfcfmhdigfaa
open Go.ChangeShapes Go.WideShapes Go.ChangeAt Go.RowKit
set_option linter.unusedVariables false

/-- A slice of whole numbers that came in: what lies there, and how it was read. -/
theorem open_seg {H : Type} {enc : TypeId × Value → H} {P : Program} {W : World} {T e : TypeId} {k : IntKind} {M : Int} {a : Option Addr} {len cap : Nat} {d : DataW H} {p : List MemPlace}
    (hT : P.underlying T = some (.slice e)) (he : P.underlying e = some (.int k)) (hc : P.cellsOf e = 1) (hM : 0 ≤ M) (hwf : ∀ n, (Lit.int k n).wf = true → 0 ≤ n ∧ n ≤ M)
    (h : DataW.Trod enc P W 0 (fun _ => true) true T (.slice a len cap) d p) :
    ∃ zs : List Int, zs.length = len ∧ SegK k M W a zs ∧ len ≤ cap ∧ (a = none → cap = 0) ∧ ((d = .nil ∧ len = 0) ∨ ∃ elems spare, d = .slice elems spare ∧ elems.length = len) := by
  obtain ⟨fuel, hf⟩ := h
  rcases open_ints hT he hc hf with ⟨hcs, hx⟩ | ⟨x, l, c, zs, hcs, _, hl, hm, hz, hx, hcell, hwz⟩
  · simp [Value.cells] at hcs
    obtain ⟨rfl, rfl, rfl⟩ := hcs
    simp only [Prod.mk.injEq] at hx
    exact ⟨[], rfl, SegK.nil hM _ _, Nat.le_refl _, fun _ => rfl, Or.inl ⟨hx.1, rfl⟩⟩
  · simp [Value.cells] at hcs
    obtain ⟨rfl, rfl, rfl⟩ := hcs
    simp only [Prod.mk.injEq] at hx
    simp only [if_true] at hz
    refine ⟨zs.take len, by simp; omega, ⟨fun i hi => ?_, hM, getD_bd hM ?_⟩, hl, (by intro h; cases h), Or.inr ⟨_, _, hx.1, by simp [ChangeShapes.lits]; omega⟩⟩
    · simp at hi
      have hi2 : i < len := by omega
      have h1 := hcell i (by omega)
      obtain ⟨b, off, spot⟩ := x
      have hs : spot = none := by
        have := hcell 0 (by omega)
        simpa [Addr.add] using World.cell?_spot this
      subst hs
      refine ⟨b, off, rfl, ?_⟩
      have hadd : (⟨b, off, none⟩ : Addr).add i = ⟨b, off + i, none⟩ := by unfold Addr.add; split <;> simp_all
      rw [hadd] at h1
      rw [h1]
      simp [List.getD, hi2]
    · intro z hz1
      exact hwf z (hwz z (List.mem_of_mem_take hz1))
end Go.Proofs.Ytaipfcfmhdigfaa

namespace Go.Proofs.Ytaipfcfmhdigfaa
open Go.ChangeShapes Go.WideShapes Go.ChangeAt Go.RowKit Go.Deep
set_option linter.unusedVariables false
set_option maxRecDepth 100000

/-- A Look by value. -/
theorem open_look {H : Type} {enc : TypeId × Value → H} {W : World} {r : Reach} {b0 : Nat} {v : Value} {d : DataW H} {pl : List MemPlace}
    (hv : Value.okWide Try.prog W r b0 44 v) (h : DataW.Trod enc Try.prog W 0 (fun _ => true) true 44 v d pl) :
    ∃ (x y : Int) (z : Bool), v = .agg #[.int .i64 x, .int .i64 y, .bool z] := by
  obtain ⟨u0, u1, u2, y0, y1, y2, mm, rfl, _, _, t0, t1, t2⟩ := Go.Joins.open_agg3 Try.underlying44 (by kernel_rfl) (by kernel_rfl) hv h
  obtain ⟨f0, e0, _, g0⟩ := DataW.trod_int Try.underlying3 t0
  obtain rfl : u0 = .int .i64 f0 := by simpa using e0
  obtain ⟨f1, e1, _, g1⟩ := DataW.trod_int Try.underlying3 t1
  obtain rfl : u1 = .int .i64 f1 := by simpa using e1
  obtain ⟨f2, e2, _⟩ := DataW.trod_bool Try.underlying4 t2
  obtain rfl : u2 = .bool f2 := by simpa using e2
  exact ⟨f0, f1, f2, rfl⟩
theorem cells_tok7 : Try.prog.cellsOf 73 = 3 := by kernel_rfl
theorem cells_int7 : Try.prog.cellsOf 3 = 1 := by kernel_rfl
theorem cells_u87 : Try.prog.cellsOf 5 = 1 := by kernel_rfl
/-- One token, off its three cells. -/
theorem one_tok {H : Type} {enc : TypeId × Value → H} {W : World} {n : Nat} {cs : List Value} {x : DataW H × List MemPlace} (h : DataW.trod enc Try.prog W 0 (fun _ => true) true n 73 cs = some x) (hl : cs.length = 3) :
    ∃ t : Tok7, cs = [.int .u8 t.lit, .int .i64 t.len, .int .i64 t.dist] ∧ t.Fit := by
  obtain ⟨xs, k, _, _, _, hxl, hf⟩ := DataW.trod_struct Try.underlying73 h
  match cs, hl with
  | [v0, v1, v2], _ =>
    match xs, hxl with
    | [y0, y1, y2], _ =>
      have g0 := hf 0 _ rfl
      have g1 := hf 1 _ rfl
      have g2 := hf 2 _ rfl
      simp [cells_u87, cells_int7] at g0 g1 g2
      obtain ⟨V, e0, _, w0⟩ := DataW.trod_int Try.underlying5 g0
      obtain ⟨N, e1, _, w1⟩ := DataW.trod_int Try.underlying3 g1
      obtain ⟨M, e2, _, w2⟩ := DataW.trod_int Try.underlying3 g2
      simp at e0 e1 e2
      subst e0 e1 e2
      exact ⟨⟨V, N, M⟩, rfl, bounds_u8 w0, bounds_i64 w1, bounds_i64 w2⟩
theorem open_toks {H : Type} {enc : TypeId × Value → H} {W : World} {a : Option Addr} {len cap : Nat} {d : DataW H} {p : List MemPlace}
    (h : DataW.Trod enc Try.prog W 0 (fun _ => true) true 23 (.slice a len cap) d p) :
    ∃ l : List Tok7, l.length = len ∧ SegT W a l ∧ ((d = .nil ∧ len = 0) ∨ ∃ elems spare, d = .slice elems spare ∧ elems.length = len) := by
  haveI : Inhabited Tok7 := ⟨tk0⟩
  obtain ⟨fuel, hf⟩ := h
  rcases open_slice Try.underlying23 hf with ⟨hcs, hx⟩ | ⟨x, l, c, m, n, D, Pl, hcs, _, hl, hm, hmm, hx, hat⟩
  · simp [Value.cells] at hcs
    obtain ⟨rfl, rfl, rfl⟩ := hcs
    simp only [Prod.mk.injEq] at hx
    exact ⟨[], rfl, SegT.nil _ _, Or.inl ⟨hx.1, rfl⟩⟩
  · simp [Value.cells] at hcs
    obtain ⟨rfl, rfl, rfl⟩ := hcs
    simp only [Prod.mk.injEq] at hx
    simp only [if_true] at hmm
    subst hmm
    rw [cells_tok7] at hat
    have key : ∀ i, i < m → ∃ q : Tok7, W.cell? (x.add (i * 3)) = some (.int .u8 q.lit) ∧ W.cell? (x.add (i * 3 + 1)) = some (.int .i64 q.len) ∧ W.cell? (x.add (i * 3 + 2)) = some (.int .i64 q.dist) ∧ q.Fit := by
      intro i hi
      obtain ⟨cs', h1, h2⟩ := hat i hi
      obtain ⟨_, hlen, hcell⟩ := World.cells?_some h1
      obtain ⟨t, rfl, hfit⟩ := one_tok h2 hlen
      have e0 := hcell 0 (by omega)
      have e1 := hcell 1 (by omega)
      have e2 := hcell 2 (by omega)
      rw [add_add] at e0 e1 e2
      exact ⟨t, by simpa using e0, by simpa using e1, by simpa using e2, hfit⟩
    obtain ⟨q, hq⟩ := choose_lt key
    refine ⟨(List.range len).map q, by simp, ⟨fun i hi => ?_, fun t ht => ?_⟩, Or.inr ⟨_, _, hx.1, by simp⟩⟩
    · have hi2 : i < len := by simpa using hi
      obtain ⟨h1, h2, h3, _⟩ := hq i (by omega)
      obtain ⟨b, off, spot⟩ := x
      have hs : spot = none := by
        obtain ⟨h5, _⟩ := hq 0 (by omega)
        simpa [Addr.add] using World.cell?_spot h5
      subst hs
      have hadd : ∀ j, (⟨b, off, none⟩ : Addr).add j = ⟨b, off + j, none⟩ := by intro j; unfold Addr.add; split <;> simp_all
      rw [hadd] at h1 h2 h3
      have hg : ((List.range len).map q).getD i tk0 = q i := by simp [List.getD, hi2]
      rw [hg]
      exact ⟨b, off, rfl, h1, by rw [Nat.add_assoc]; exact h2, by rw [Nat.add_assoc]; exact h3⟩
    · obtain ⟨i, hi, rfl⟩ := List.mem_map.1 ht
      exact (hq i (by have := List.mem_range.1 hi; omega)).2.2.2
end Go.Proofs.Ytaipfcfmhdigfaa

namespace Go.Proofs.Ytaipfcfmhdigfaa
open Go.ChangeShapes Go.WideShapes Go.ChangeAt Go.RowKit Go.Deep
set_option linter.unusedVariables false
set_option maxRecDepth 100000

/-- A Price by value. -/
theorem open_price {H : Type} {enc : TypeId × Value → H} {W : World} {r : Reach} {b0 : Nat} {v : Value} {d : DataW H} {pl : List MemPlace}
    (hv : Value.okWide Try.prog W r b0 64 v) (h : DataW.Trod enc Try.prog W 0 (fun _ => true) true 64 v d pl) :
    ∃ x y z : Int, v = .agg #[.int .i64 x, .int .i64 y, .int .i64 z] := by
  obtain ⟨u0, u1, u2, y0, y1, y2, mm, rfl, _, _, t0, t1, t2⟩ := Go.Joins.open_agg3 Try.underlying64 (by kernel_rfl) (by kernel_rfl) hv h
  obtain ⟨f0, e0, _, g0⟩ := DataW.trod_int Try.underlying3 t0
  obtain rfl : u0 = .int .i64 f0 := by simpa using e0
  obtain ⟨f1, e1, _, g1⟩ := DataW.trod_int Try.underlying3 t1
  obtain rfl : u1 = .int .i64 f1 := by simpa using e1
  obtain ⟨f2, e2, _, g2⟩ := DataW.trod_int Try.underlying3 t2
  obtain rfl : u2 = .int .i64 f2 := by simpa using e2
  exact ⟨f0, f1, f2, rfl⟩
end Go.Proofs.Ytaipfcfmhdigfaa
