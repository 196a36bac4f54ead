import Derived.Test.YtaipfcfmhdigfaaPap
import Derived.Test.YtaipfcfmhdigfaaPay
import Derived.Test.YtaipfcfmhdigfaaPaz
import Derived.Test.YtaipfcfmhdigfaaPaa
import Derived.WalkKit
import Derived.ProofKit
import Derived.OpenShut
import Derived.SizedLaws
import Derived.Test.YtaipfcfmhdigfaaPac
import Derived.Deep.Slices
import Derived.Lib.SmallJoins
namespace Go.Proofs.Ytaipfcfmhdigfaa
open Go.RowKit
set_option linter.unusedVariables false
set_option linter.unusedSimpArgs false

theorem rchp7 (D : List Int) (a : Option Addr) (n cap : Nat) (win chain : Int) (lazy : Bool) (c : Pr7) (hn : Hid (D.length = n)) (w : World) (hs : Seg w a D) (hl : n ≤ 1099511627776) :
    Calls Try.prog 32 #[.slice a n cap, look7 win chain lazy, price7 c] w (CheP w 73 (cheap7 D win chain c) (cheapV7 D win chain c) (cheapE7 win chain c)) := by
  unfold cheap7 cheapV7 cheapE7
  by_cases hok : opt7 win chain = 0 ∧ ¬ badP c
  · rw [if_pos hok, if_pos hok, if_pos hok]
    obtain ⟨h1, h2, h3, h4⟩ := opt7_ok hok.1
    obtain ⟨W, rfl⟩ := Int.eq_ofNat_of_zero_le (show 0 ≤ win by omega)
    obtain ⟨C, rfl⟩ := Int.eq_ofNat_of_zero_le h3
    exact rchea7_ok D a n cap W C lazy c hn w hs hl (by omega) (by omega) (by omega) hok.2
  · rw [if_neg hok, if_neg hok, if_neg hok]
    have hX : Calls Try.prog 32 #[.slice a n cap, look7 win chain lazy, price7 c] w fun e w' => e = .returned (.tuple #[.slice none 0 0, .int .i64 0, .int .i64 72]) ∧ Below w.heap.size w w' := by
      by_cases h0 : opt7 win chain = 0
      · exact rchea7_bad a n cap win chain lazy c w h0 (Classical.byContradiction fun h => hok ⟨h0, h⟩)
      · exact rchea7_no a n cap win chain lazy c w h0
    refine hX.mono ?_
    rintro e w' ⟨rfl, hb⟩
    exact ⟨none, 0, rfl, World.ownsRow_nil _ _ _ _, hb⟩
theorem cheap7_fit {D : List Int} {win chain : Int} {c : Pr7} (hD : ∀ z ∈ D, 0 ≤ z ∧ z ≤ 255) : (∀ t ∈ cheap7 D win chain c, t.Fit) ∧ (cheap7 D win chain c).length ≤ D.length := by
  by_cases hok : opt7 win chain = 0 ∧ ¬ badP c
  · have h := cheap7_all (D := D) (win := win) (chain := chain) (c := c) hD hok.1 hok.2
    exact ⟨fun t ht => (h.2.2.2.2.2.1 t ht).1, h.2.2.2.1⟩
  · have e : cheap7 D win chain c = [] := by unfold cheap7; rw [if_neg hok]
    rw [e]
    exact ⟨by simp, by simp⟩
set_option maxRecDepth 100000 in
set_option maxHeartbeats 8000000 in
theorem lzCheapests_in (w : World) (a : Option Addr) (n cap : Nat) (D : List Int) (hn : D.length = n) (hs : Seg w a D) (hnil : a = none → cap = 0) (hl : n ≤ 1048576) (win chain : Int) (lazy : Bool) (c : Pr7) :
    Calls Try.prog 7 #[.slice a n cap, look7 win chain lazy, price7 c] w fun e w' => e = .returned (.bool true) ∧ Below w.heap.size w w' := by
  obtain ⟨i0, hi, hz0, hz1, hz2⟩ := info_parts info_tokA
  obtain ⟨wA, hwA⟩ : ∃ wA, wA = w.alloc (.cells #[.int .i64 win, .int .i64 chain, .bool lazy] 44) := ⟨_, rfl⟩
  obtain ⟨wB, hwB⟩ : ∃ wB, wB = wA.alloc (.cells #[.int .i64 c.lit, .int .i64 c.mat, .int .i64 c.far] 64) := ⟨_, rfl⟩
  have bA : Below w.heap.size w wA := by rw [hwA]; exact below_box _ _
  have bB : Below wA.heap.size wA wB := by rw [hwB]; exact below_box _ _
  have BB : Below w.heap.size w wB := bA.trans (bB.mono bA.size)
  have HWA : Hid (wA = w.alloc (.cells #[.int .i64 win, .int .i64 chain, .bool lazy] 44)) := hwA
  have HWB : Hid (wB = wA.alloc (.cells #[.int .i64 c.lit, .int .i64 c.mat, .int .i64 c.far] 64)) := hwB
  have hbA : wA.heap[w.heap.size]? = some (.cells #[.int .i64 win, .int .i64 chain, .bool lazy] 44 (0, 0)) := by rw [hwA]; exact heap_alloc_new w _
  have hob1 : w.heap.size < wA.heap.size := (Array.getElem?_eq_some_iff.1 hbA).1
  have hbB1 : wB.heap[w.heap.size]? = some (.cells #[.int .i64 win, .int .i64 chain, .bool lazy] 44 (0, 0)) := (bB.block _ hob1).trans hbA
  have hbB2 : wB.heap[wA.heap.size]? = some (.cells #[.int .i64 c.lit, .int .i64 c.mat, .int .i64 c.far] 64 (0, 0)) := by rw [hwB]; exact heap_alloc_new wA _
  have hzl : wA.heap.size < wB.heap.size := (Array.getElem?_eq_some_iff.1 hbB2).1
  obtain ⟨zb, hzb⟩ : ∃ zb, zb = wA.heap.size := ⟨_, rfl⟩
  obtain ⟨ob, hob⟩ : ∃ ob, ob = w.heap.size := ⟨_, rfl⟩
  have HZB : Hid (w.heap.size + 1 = zb) := by show _ = _; rw [hzb, hwA]; simp
  have HOB : Hid (ob = w.heap.size) := hob
  rw [← hzb] at hbB2 hzl
  rw [← hob] at hbB1 hob1
  have hobB : ob < wB.heap.size := Nat.lt_of_lt_of_le hob1 bB.size
  have HCL : Hid (∀ W, Below wB.heap.size wB W → (W.cell? ⟨ob, 0, none⟩ = some (.int .i64 win) ∧ W.cell? ⟨ob, 1, none⟩ = some (.int .i64 chain) ∧ W.cell? ⟨ob, 2, none⟩ = some (.bool lazy)) ∧ (W.cell? ⟨zb, 0, none⟩ = some (.int .i64 c.lit) ∧ W.cell? ⟨zb, 1, none⟩ = some (.int .i64 c.mat) ∧ W.cell? ⟨zb, 2, none⟩ = some (.int .i64 c.far))) := fun W hW => by
    have x1 := (hW.block ob hobB).trans hbB1
    have x2 := (hW.block zb hzl).trans hbB2
    exact ⟨⟨by simp [World.cell?, x1], by simp [World.cell?, x1], by simp [World.cell?, x1]⟩, ⟨by simp [World.cell?, x2], by simp [World.cell?, x2], by simp [World.cell?, x2]⟩⟩
  have HSB : Hid (∀ W, Below wB.heap.size wB W → Seg W a D) := fun W hW => (hs.old BB).old hW
  subst hn
  obtain ⟨hTf, hTl⟩ := cheap7_fit (D := D) (win := win) (chain := chain) (c := c) hs.mem
  have CL := lend_any a D cap wB (hs.old BB) hnil (by omega)
  have HR : Hid (∀ W, Below wB.heap.size wB W → Calls Try.prog 32 #[.slice a D.length cap, .agg #[.int .i64 win, .int .i64 chain, .bool lazy], .agg #[.int .i64 c.lit, .int .i64 c.mat, .int .i64 c.far]] W (CheP W 73 (cheap7 D win chain c) (cheapV7 D win chain c) (cheapE7 win chain c))) := fun W hW => rchp7 D a D.length cap win chain lazy c rfl W (HSB.out W hW) (by omega)
  have H1 : Hid (∀ W, Below wB.heap.size wB W → Calls Try.prog 22 #[.agg #[.int .i64 win, .int .i64 chain, .bool lazy]] W fun e w' => e = .returned (look7 win chain lazy) ∧ Below W.heap.size W w') := fun W _ => look7_any win chain lazy W
  have H2 : Hid (∀ W, Below wB.heap.size wB W → Calls Try.prog 31 #[.agg #[.int .i64 c.lit, .int .i64 c.mat, .int .i64 c.far]] W fun e w' => e = .returned (price7 c) ∧ Below W.heap.size W w') := fun W _ => price7_any c W
  have HLK : Hid (look7 win chain lazy = .agg #[.int .i64 win, .int .i64 chain, .bool lazy]) := rfl
  have HPK : Hid (price7 c = .agg #[.int .i64 c.lit, .int .i64 c.mat, .int .i64 c.far]) := rfl
  clear hwA hwB hbA hbB1 hbB2 hob1 hob hzb hs bA bB
  rw [HLK.out, HPK.out]
  go_enter Try.func7, Try.ntmps7
  go_wp2_with fail
  rw [HZB.out, ← HWA.out, ← HWB.out, ← HOB.out]
  refine CL.mono ?_
  rintro e w1 ⟨g, cp, rfl, O1, b1⟩
  obtain ⟨_, a', cc, hv, sl, hx, hcp, _⟩ := own_seg O1 (M := 255) (by decide) (lent_bd (HSB.out w1 b1).mem)
  cases hv
  have s1 : Seg w1 (some ⟨g, 0, none⟩) D := by have := SegK.take sl D.length; rwa [lent_take] at this
  have HKP : Hid (∀ W, Below w1.heap.size w1 W → Below wB.heap.size wB W → Calls Try.prog 27 #[.slice (some ⟨g, 0, none⟩) (lentL D).length cp, .slice a D.length cap] W fun e w' => e = .returned (.bool true) ∧ Below W.heap.size W w') := fun W hW hW2 => by
    have := kept_any a (some ⟨g, 0, none⟩) (lentL D) D cp cap W (sl.old hW) (HSB.out W hW2) hnil (by omega)
    rwa [beq_self_eq_true] at this
  have L1 : Hid (∀ W, Below w1.heap.size w1 W → Calls Try.prog 22 #[.agg #[.int .i64 win, .int .i64 chain, .bool lazy]] W fun e w' => e = .returned (look7 win chain lazy) ∧ Below w1.heap.size w1 w') := fun W hW => by
    refine (look7_any win chain lazy W).mono ?_
    rintro e w' ⟨rfl, hb⟩
    exact ⟨rfl, hW.trans (hb.mono hW.size)⟩
  have L2 : Hid (∀ W, Below w1.heap.size w1 W → Calls Try.prog 31 #[.agg #[.int .i64 c.lit, .int .i64 c.mat, .int .i64 c.far]] W fun e w' => e = .returned (price7 c) ∧ Below w1.heap.size w1 w') := fun W hW => by
    refine (price7_any c W).mono ?_
    rintro e w' ⟨rfl, hb⟩
    exact ⟨rfl, hW.trans (hb.mono hW.size)⟩
  have L3 : Hid (∀ W, Below w1.heap.size w1 W → Calls Try.prog 30 #[.slice (some ⟨g, 0, none⟩) D.length cp, look7 win chain lazy, price7 c] W fun e w' => ∃ oa oc, e = .returned (.tuple #[.slice oa (cheap7 D win chain c).length oc, .int .i64 (cheapV7 D win chain c), .int .i64 (cheapE7 win chain c)]) ∧ w'.ownsRow w1.heap.size 56 3 (.slice oa (cheap7 D win chain c).length oc) (cheap7 D win chain c).length (flatT (cheap7 D win chain c)) ∧ Below w1.heap.size w1 w') := fun W hW => by
    refine (pche7 D (some ⟨g, 0, none⟩) D.length cp win chain lazy c rfl W (s1.old hW) (by omega) (by intro h; cases h) hl).mono ?_
    rintro e w' ⟨oa, oc, rfl, ho, hb⟩
    exact ⟨oa, oc, rfl, own_baseT ho hW.size, hW.trans (hb.mono hW.size)⟩
  have N3 : Hid (∀ (W0 W : World), Below w1.heap.size w1 W0 → Below W0.heap.size W0 W → Calls Try.prog 30 #[.slice (some ⟨g, 0, none⟩) D.length cp, look7 win chain lazy, price7 c] W fun e w' => ∃ oa oc, e = .returned (.tuple #[.slice oa (cheap7 D win chain c).length oc, .int .i64 (cheapV7 D win chain c), .int .i64 (cheapE7 win chain c)]) ∧ w'.ownsRow W0.heap.size 56 3 (.slice oa (cheap7 D win chain c).length oc) (cheap7 D win chain c).length (flatT (cheap7 D win chain c)) ∧ Below W0.heap.size W0 w') := fun W0 W h0 hW => by
    refine (pche7 D (some ⟨g, 0, none⟩) D.length cp win chain lazy c rfl W ((s1.old h0).old hW) (by omega) (by intro h; cases h) hl).mono ?_
    rintro e w' ⟨oa, oc, rfl, ho, hb⟩
    exact ⟨oa, oc, rfl, own_baseT ho hW.size, hW.trans (hb.mono hW.size)⟩
  have N1 : Hid (∀ (W0 W : World), Below W0.heap.size W0 W → Calls Try.prog 22 #[.agg #[.int .i64 win, .int .i64 chain, .bool lazy]] W fun e w' => e = .returned (look7 win chain lazy) ∧ Below W0.heap.size W0 w') := fun W0 W hW => by
    refine (look7_any win chain lazy W).mono ?_
    rintro e w' ⟨rfl, hb⟩
    exact ⟨rfl, hW.trans (hb.mono hW.size)⟩
  have N2 : Hid (∀ (W0 W : World), Below W0.heap.size W0 W → Calls Try.prog 31 #[.agg #[.int .i64 c.lit, .int .i64 c.mat, .int .i64 c.far]] W fun e w' => e = .returned (price7 c) ∧ Below W0.heap.size W0 w') := fun W0 W hW => by
    refine (price7_any c W).mono ?_
    rintro e w' ⟨rfl, hb⟩
    exact ⟨rfl, hW.trans (hb.mono hW.size)⟩
  have HC1 : Hid (∀ W, Below w1.heap.size w1 W → (W.cell? ⟨ob, 0, none⟩ = some (.int .i64 win) ∧ W.cell? ⟨ob, 1, none⟩ = some (.int .i64 chain) ∧ W.cell? ⟨ob, 2, none⟩ = some (.bool lazy)) ∧ (W.cell? ⟨zb, 0, none⟩ = some (.int .i64 c.lit) ∧ W.cell? ⟨zb, 1, none⟩ = some (.int .i64 c.mat) ∧ W.cell? ⟨zb, 2, none⟩ = some (.int .i64 c.far))) := fun W hW => HCL.out W (b1.trans (hW.mono b1.size))
  have bt0 : Below w1.heap.size w1 w1.drew := (Below.refl _ _).drew
  obtain ⟨⟨d0, d1, d2⟩, ⟨d3, d4, d5⟩⟩ := HC1.out _ bt0
  clear O1 sl s1 CL hx H1 H2
  generalize cheap7 D win chain c = T at *
  generalize cheapV7 D win chain c = V at *
  generalize cheapE7 win chain c = er at *
  generalize (lentL D).length = ll at *
  obtain ⟨lt, mt, fr⟩ := c
  simp only at HWB HCL HC1 HR L2 N2 d3 d4 d5
  go_wp2_with fail
  go_region_held3 (fun w' => (w'.cell? ⟨ob, 0, none⟩ = some (.int .i64 win) ∧ w'.cell? ⟨ob, 1, none⟩ = some (.int .i64 chain) ∧ w'.cell? ⟨ob, 2, none⟩ = some (.bool lazy)) ∧ (w'.cell? ⟨zb, 0, none⟩ = some (.int .i64 lt) ∧ w'.cell? ⟨zb, 1, none⟩ = some (.int .i64 mt) ∧ w'.cell? ⟨zb, 2, none⟩ = some (.int .i64 fr)))
    (first | (exact HC1.out _ (by assumption)) | (exact ⟨⟨d0, d1, d2⟩, ⟨d3, d4, d5⟩⟩) | go_keep)
    (first
      | (go_at_call 22; refine (L1.out _ (by assumption)).mono ?_; rintro e wl ⟨rfl, btl⟩)
      | (go_at_call 31; refine (L2.out _ (by assumption)).mono ?_; rintro e wm ⟨rfl, btm⟩)
      | (go_at_call 30; refine (L3.out _ (by assumption)).mono ?_; rintro e w3 ⟨xa, xc, rfl, O3, b13⟩))
  all_goals
    have bt3 : Below w3.heap.size w3 w3.drew := (Below.refl _ _).drew
    have HC3 : Hid (∀ W, Below w3.heap.size w3 W → (W.cell? ⟨ob, 0, none⟩ = some (.int .i64 win) ∧ W.cell? ⟨ob, 1, none⟩ = some (.int .i64 chain) ∧ W.cell? ⟨ob, 2, none⟩ = some (.bool lazy)) ∧ (W.cell? ⟨zb, 0, none⟩ = some (.int .i64 lt) ∧ W.cell? ⟨zb, 1, none⟩ = some (.int .i64 mt) ∧ W.cell? ⟨zb, 2, none⟩ = some (.int .i64 fr))) := fun W hW => HC1.out W (b13.trans (hW.mono b13.size))
    obtain ⟨⟨k0, k1, k2⟩, ⟨k3, k4, k5⟩⟩ := HC3.out _ bt3
    have M1 : Hid _ := N1.out w3
    have M2 : Hid _ := N2.out w3
    have M3 : Hid _ := fun W => N3.out w3 W b13
    clear d0 d1 d2 d3 d4 d5 L1 L2 L3 N1 N2 N3 bt0
    go_wp2_with fail
    go_region_held3 (fun w' => (w'.cell? ⟨ob, 0, none⟩ = some (.int .i64 win) ∧ w'.cell? ⟨ob, 1, none⟩ = some (.int .i64 chain) ∧ w'.cell? ⟨ob, 2, none⟩ = some (.bool lazy)) ∧ (w'.cell? ⟨zb, 0, none⟩ = some (.int .i64 lt) ∧ w'.cell? ⟨zb, 1, none⟩ = some (.int .i64 mt) ∧ w'.cell? ⟨zb, 2, none⟩ = some (.int .i64 fr)))
      (first | (exact HC3.out _ (by assumption)) | (exact ⟨⟨k0, k1, k2⟩, ⟨k3, k4, k5⟩⟩) | go_keep)
      (first
        | (go_at_call 22; refine (M1.out _ (by assumption)).mono ?_; rintro e wp ⟨rfl, btp⟩)
        | (go_at_call 31; refine (M2.out _ (by assumption)).mono ?_; rintro e wq ⟨rfl, btq⟩)
        | (go_at_call 30; refine (M3.out _ (by assumption)).mono ?_; rintro e w5 ⟨ya, yc, rfl, O5, b35⟩))
  all_goals
    have b15 := b13.trans (b35.mono b13.size)
    have B5 := b1.trans (b15.mono b1.size)
    obtain ⟨⟨n0, n1, n2⟩, ⟨n3, n4, n5⟩⟩ := HCL.out w5 B5
    clear k0 k1 k2 k3 k4 k5
    go_wp2_with fail
    refine (HR.out w5 B5).mono ?_
    rintro e w6 ⟨va, vc, rfl, O6, b6⟩
    have b16 := b15.trans (b6.mono b15.size)
    have B6 := B5.trans (b6.mono B5.size)
    have b36 := b35.trans (b6.mono b35.size)
    have O36 := own_belowT O3 b36
    have O56 := own_belowT O5 b6
    have sx : SegT w6 xa T := own_segT O36 rfl hTf
    have sy : SegT w6 ya T := own_segT O56 rfl hTf
    have sv : SegT w6 va T := own_segT O6 rfl hTf
    have CX := same7 T xa va T.length xc vc rfl w6 sx sv (by omega)
    have HCY : Hid (∀ W, Below w6.heap.size w6 W → Calls Try.prog 26 #[.slice ya T.length yc, .slice va T.length vc] W fun e w' => e = .returned (.bool true) ∧ Below W.heap.size W w') := fun W hW => same7 T ya va T.length yc vc rfl W (sy.old hW) (sv.old hW) (by omega)
    have hXY : ∀ k, (Value.slice xa T.length xc).ownBlock = some k → w1.heap.size ≤ k ∧ k < w3.heap.size := fun k e => O3.lt k e
    have hyf : ∀ b off, ya = some ⟨b, off, none⟩ → 0 < T.length → ¬ (Value.slice xa T.length xc).ownBlock = some b := fun b off e _ h => by
      have h1 := (O5.lt b (by rw [e]; rfl)).1
      have h2 := (hXY b h).2
      omega
    have hvf : ∀ b off, va = some ⟨b, off, none⟩ → 0 < T.length → ¬ (Value.slice xa T.length xc).ownBlock = some b := fun b off e _ h => by
      have h1 := (O6.lt b (by rw [e]; rfl)).1
      have h2 := (hXY b h).2
      have := b35.size
      omega
    have HEND : Hid (∀ W, Kp (fun k => (Value.slice xa T.length xc).ownBlock = some k) w6 W → (Calls Try.prog 26 #[.slice ya T.length yc, .slice va T.length vc] W fun e w' => e = .returned (.bool true) ∧ Below W.heap.size W w') ∧ Below wB.heap.size wB W) := fun W hK => ⟨same7 T ya va T.length yc vc rfl W (sy.kp hK hyf) (sv.kp hK hvf) (by omega), B6.trans (hK.below (fun k e => by have := (hXY k e).1; have := b1.size; omega) B6.size)⟩
    have hz2w : w1.heap.size ≤ w6.heap.size := b16.size
    have HTL : Hid (T.length ≤ 1073741824) := by show _ ≤ _; omega
    clear O3 O5 O6 sx sy sv hyf hvf O56 hTl M1 M2 M3 HC3 HC1 n0 n1 n2 n3 n4 n5
    generalize T.length = tl at *
    go_wp2_with fail
    refine CX.mono ?_
    rintro e w7 ⟨rfl, b7⟩
    go_wp2_with fail
    refine (HCY.out w7 b7).mono ?_
    rintro e w8 ⟨rfl, b8⟩
    have b68 := b7.trans (b8.mono b7.size)
    go_wp2_with fail
    refine (HKP.out w8 (b16.trans (b68.mono b16.size)) (B6.trans (b68.mono B6.size))).mono ?_
    rintro e wq ⟨rfl, b9⟩
    have btq := b68.trans (b9.mono b68.size)
    have hT46 : tl ≤ 1073741824 := HTL.out
    have OQ := own_belowT O36 btq
    have Kq : Kp (fun k => (Value.slice xa tl xc).ownBlock = some k) w6 wq := Kp.of_below btq
    go_wp2_with fail
    go_loopw [80] (fun ti wr => OvI w6 wr xa tl xc w1.heap.size ti) (fun ti _ => tl - (intOf ti).toNat)
    case atStart => exact ⟨0, _, by omega, rfl, OQ, Kq⟩
    case round =>
      obtain ⟨i, xs, hi0, rfl, OR, KR⟩ := hrel
      by_cases hin : i < tl
      · have hii : (i : Int) < (tl : Int) := by omega
        obtain ⟨gx, _, hv, _⟩ := own_shapeT OR (by omega)
        simp only [Value.slice.injEq] at hv
        obtain ⟨rfl, _, rfl⟩ := hv
        obtain ⟨⟨u0, v0⟩, f0⟩ := own_cellT OR (i * 3) (by omega)
        obtain ⟨⟨u1, v1⟩, f1⟩ := own_cellT OR (i * 3 + 1) (by omega)
        obtain ⟨⟨u2, v2⟩, f2⟩ := own_cellT OR (i * 3 + 2) (by omega)
        have HS3 : Hid (∃ xs', (((wr.setCell ⟨gx, i * 3, none⟩ (.int .u8 0)).setCell ⟨gx, i * 3 + 1, none⟩ (.int .i64 (-1))).setCell ⟨gx, i * 3 + 2, none⟩ (.int .i64 0)).ownsRow w1.heap.size 56 3 (.slice (some ⟨gx, 0, none⟩) tl xc) tl xs') := by
          obtain ⟨x1, o1⟩ := own_setT OR (i * 3) (.int .u8 0)
          obtain ⟨x2, o2⟩ := own_setT o1 (i * 3 + 1) (.int .i64 (-1))
          exact own_setT o2 (i * 3 + 2) (.int .i64 0)
        have HK3 : Hid (Kp (fun k => (Value.slice (some ⟨gx, 0, none⟩) tl xc).ownBlock = some k) w6 (((wr.setCell ⟨gx, i * 3, none⟩ (.int .u8 0)).setCell ⟨gx, i * 3 + 1, none⟩ (.int .i64 (-1))).setCell ⟨gx, i * 3 + 2, none⟩ (.int .i64 0))) :=
          KR.trans (((Kp.set (S := fun k => (Value.slice (some ⟨gx, 0, none⟩) tl xc).ownBlock = some k) (i := i * 3) rfl _).trans (Kp.set (S := fun k => (Value.slice (some ⟨gx, 0, none⟩) tl xc).ownBlock = some k) (i := i * 3 + 1) rfl _) (fun _ _ e => e)).trans (Kp.set (S := fun k => (Value.slice (some ⟨gx, 0, none⟩) tl xc).ownBlock = some k) (i := i * 3 + 2) rfl _) (fun _ _ e => e)) (fun _ _ e => e)
        clear OR KR
        go_wp2_with fail
        go_roundw
        case rel =>
          obtain ⟨xs', o3⟩ := HS3.out
          exact ⟨i + 1, xs', by omega, by go_num, o3, HK3.out⟩
        case measure => simp [intOf]; omega
      · have hge : ¬ (i : Int) < (tl : Int) := by omega
        have hzr : w1.heap.size ≤ wr.heap.size := Nat.le_trans hz2w KR.size
        clear hi0
        go_wp2_with (first | (at_builtin; refine wpList_appX2 rfl (.tmp 88) (.tmp 91) 24 rfl w1.heap.size 56 i0 _ 24 Try.underlying24 hi hz0 hz1 hz2 rfl wr ⟨0, -2, 0⟩ ⟨0, -3, 0⟩ OR rfl rfl (by omega) (by omega) hzr ?_; intro ga gc w10 K10))
        obtain ⟨es, eb⟩ := HEND.out w10 (KR.trans K10 (fun _ _ e => e))
        refine es.mono ?_
        rintro e w11 ⟨rfl, b11⟩
        have B11 := eb.trans (b11.mono eb.size)
        go_wp2_with fail
        refine (lives7 w11).mono ?_
        rintro e w12 ⟨rfl, b12⟩
        have B12 := B11.trans (b12.mono B11.size)
        go_wp2_with fail
        go_ret
        exact ⟨rfl, BB.trans (B12.mono BB.size)⟩
end Go.Proofs.Ytaipfcfmhdigfaa

namespace Go.Proofs.Ytaipfcfmhdigfaa
open Go.RowKit
set_option linter.unusedVariables false
theorem lzCheapests_walk (w : World) (a : Option Addr) (D : List Int) (cap : Nat) (hs : Seg w a D) (hc : D.length ≤ cap) (hnil : a = none → cap = 0) (hl : D.length ≤ 1048576) (win chain : Int) (lazy : Bool) (x y z : Int) :
    Calls Try.prog 7 #[.slice a D.length cap, .agg #[.int .i64 win, .int .i64 chain, .bool lazy], .agg #[.int .i64 x, .int .i64 y, .int .i64 z]] w fun e w' => e = .returned (.bool true) ∧ Below w.heap.size w w' := lzCheapests_in w a D.length cap D rfl hs hnil hl win chain lazy ⟨x, y, z⟩
end Go.Proofs.Ytaipfcfmhdigfaa

namespace Go.Proofs.Ytaipfcfmhdigfaa
open Go.ChangeShapes Go.WideShapes Go.ChangeAt Go.RowKit
set_option linter.unusedVariables false

/-- A slice of whole numbers that came in: what lies there, and how it was read. -/
theorem open_seg {H : Type} {enc : TypeId × Value → H} {P : Program} {W : World} {T e : TypeId} {k : IntKind} {M : Int} {a : Option Addr} {len cap : Nat} {d : DataW H} {p : List MemPlace}
    (hT : P.underlying T = some (.slice e)) (he : P.underlying e = some (.int k)) (hc : P.cellsOf e = 1) (hM : 0 ≤ M) (hwf : ∀ n, (Lit.int k n).wf = true → 0 ≤ n ∧ n ≤ M)
    (h : DataW.Trod enc P W 0 (fun _ => true) true T (.slice a len cap) d p) :
    ∃ zs : List Int, zs.length = len ∧ SegK k M W a zs ∧ len ≤ cap ∧ (a = none → cap = 0) ∧ ((d = .nil ∧ len = 0) ∨ ∃ elems spare, d = .slice elems spare ∧ elems.length = len) := by
  obtain ⟨fuel, hf⟩ := h
  rcases open_ints hT he hc hf with ⟨hcs, hx⟩ | ⟨x, l, c, zs, hcs, _, hl, hm, hz, hx, hcell, hwz⟩
  · simp [Value.cells] at hcs
    obtain ⟨rfl, rfl, rfl⟩ := hcs
    simp only [Prod.mk.injEq] at hx
    exact ⟨[], rfl, SegK.nil hM _ _, Nat.le_refl _, fun _ => rfl, Or.inl ⟨hx.1, rfl⟩⟩
  · simp [Value.cells] at hcs
    obtain ⟨rfl, rfl, rfl⟩ := hcs
    simp only [Prod.mk.injEq] at hx
    simp only [if_true] at hz
    refine ⟨zs.take len, by simp; omega, ⟨fun i hi => ?_, hM, getD_bd hM ?_⟩, hl, (by intro h; cases h), Or.inr ⟨_, _, hx.1, by simp [ChangeShapes.lits]; omega⟩⟩
    · simp at hi
      have hi2 : i < len := by omega
      have h1 := hcell i (by omega)
      obtain ⟨b, off, spot⟩ := x
      have hs : spot = none := by
        have := hcell 0 (by omega)
        simpa [Addr.add] using World.cell?_spot this
      subst hs
      refine ⟨b, off, rfl, ?_⟩
      have hadd : (⟨b, off, none⟩ : Addr).add i = ⟨b, off + i, none⟩ := by unfold Addr.add; split <;> simp_all
      rw [hadd] at h1
      rw [h1]
      simp [List.getD, hi2]
    · intro z hz1
      exact hwf z (hwz z (List.mem_of_mem_take hz1))
end Go.Proofs.Ytaipfcfmhdigfaa

namespace Go.Proofs.Ytaipfcfmhdigfaa
open Go.ChangeShapes Go.WideShapes Go.ChangeAt Go.RowKit Go.Deep
set_option linter.unusedVariables false
set_option maxRecDepth 100000

/-- A Look by value. -/
theorem open_look {H : Type} {enc : TypeId × Value → H} {W : World} {r : Reach} {b0 : Nat} {v : Value} {d : DataW H} {pl : List MemPlace}
    (hv : Value.okWide Try.prog W r b0 44 v) (h : DataW.Trod enc Try.prog W 0 (fun _ => true) true 44 v d pl) :
    ∃ (x y : Int) (z : Bool), v = .agg #[.int .i64 x, .int .i64 y, .bool z] := by
  obtain ⟨u0, u1, u2, y0, y1, y2, mm, rfl, _, _, t0, t1, t2⟩ := Go.Joins.open_agg3 Try.underlying44 (by kernel_rfl) (by kernel_rfl) hv h
  obtain ⟨f0, e0, _, g0⟩ := DataW.trod_int Try.underlying3 t0
  obtain rfl : u0 = .int .i64 f0 := by simpa using e0
  obtain ⟨f1, e1, _, g1⟩ := DataW.trod_int Try.underlying3 t1
  obtain rfl : u1 = .int .i64 f1 := by simpa using e1
  obtain ⟨f2, e2, _⟩ := DataW.trod_bool Try.underlying4 t2
  obtain rfl : u2 = .bool f2 := by simpa using e2
  exact ⟨f0, f1, f2, rfl⟩
theorem cells_tok7 : Try.prog.cellsOf 73 = 3 := by kernel_rfl
theorem cells_int7 : Try.prog.cellsOf 3 = 1 := by kernel_rfl
theorem cells_u87 : Try.prog.cellsOf 5 = 1 := by kernel_rfl
/-- One token, off its three cells. -/
theorem one_tok {H : Type} {enc : TypeId × Value → H} {W : World} {n : Nat} {cs : List Value} {x : DataW H × List MemPlace} (h : DataW.trod enc Try.prog W 0 (fun _ => true) true n 73 cs = some x) (hl : cs.length = 3) :
    ∃ t : Tok7, cs = [.int .u8 t.lit, .int .i64 t.len, .int .i64 t.dist] ∧ t.Fit := by
  obtain ⟨xs, k, _, _, _, hxl, hf⟩ := DataW.trod_struct Try.underlying73 h
  match cs, hl with
  | [v0, v1, v2], _ =>
    match xs, hxl with
    | [y0, y1, y2], _ =>
      have g0 := hf 0 _ rfl
      have g1 := hf 1 _ rfl
      have g2 := hf 2 _ rfl
      simp [cells_u87, cells_int7] at g0 g1 g2
      obtain ⟨V, e0, _, w0⟩ := DataW.trod_int Try.underlying5 g0
      obtain ⟨N, e1, _, w1⟩ := DataW.trod_int Try.underlying3 g1
      obtain ⟨M, e2, _, w2⟩ := DataW.trod_int Try.underlying3 g2
      simp at e0 e1 e2
      subst e0 e1 e2
      exact ⟨⟨V, N, M⟩, rfl, bounds_u8 w0, bounds_i64 w1, bounds_i64 w2⟩
theorem open_toks {H : Type} {enc : TypeId × Value → H} {W : World} {a : Option Addr} {len cap : Nat} {d : DataW H} {p : List MemPlace}
    (h : DataW.Trod enc Try.prog W 0 (fun _ => true) true 23 (.slice a len cap) d p) :
    ∃ l : List Tok7, l.length = len ∧ SegT W a l ∧ ((d = .nil ∧ len = 0) ∨ ∃ elems spare, d = .slice elems spare ∧ elems.length = len) := by
  haveI : Inhabited Tok7 := ⟨tk0⟩
  obtain ⟨fuel, hf⟩ := h
  rcases open_slice Try.underlying23 hf with ⟨hcs, hx⟩ | ⟨x, l, c, m, n, D, Pl, hcs, _, hl, hm, hmm, hx, hat⟩
  · simp [Value.cells] at hcs
    obtain ⟨rfl, rfl, rfl⟩ := hcs
    simp only [Prod.mk.injEq] at hx
    exact ⟨[], rfl, SegT.nil _ _, Or.inl ⟨hx.1, rfl⟩⟩
  · simp [Value.cells] at hcs
    obtain ⟨rfl, rfl, rfl⟩ := hcs
    simp only [Prod.mk.injEq] at hx
    simp only [if_true] at hmm
    subst hmm
    rw [cells_tok7] at hat
    have key : ∀ i, i < m → ∃ q : Tok7, W.cell? (x.add (i * 3)) = some (.int .u8 q.lit) ∧ W.cell? (x.add (i * 3 + 1)) = some (.int .i64 q.len) ∧ W.cell? (x.add (i * 3 + 2)) = some (.int .i64 q.dist) ∧ q.Fit := by
      intro i hi
      obtain ⟨cs', h1, h2⟩ := hat i hi
      obtain ⟨_, hlen, hcell⟩ := World.cells?_some h1
      obtain ⟨t, rfl, hfit⟩ := one_tok h2 hlen
      have e0 := hcell 0 (by omega)
      have e1 := hcell 1 (by omega)
      have e2 := hcell 2 (by omega)
      rw [add_add] at e0 e1 e2
      exact ⟨t, by simpa using e0, by simpa using e1, by simpa using e2, hfit⟩
    obtain ⟨q, hq⟩ := choose_lt key
    refine ⟨(List.range len).map q, by simp, ⟨fun i hi => ?_, fun t ht => ?_⟩, Or.inr ⟨_, _, hx.1, by simp⟩⟩
    · have hi2 : i < len := by simpa using hi
      obtain ⟨h1, h2, h3, _⟩ := hq i (by omega)
      obtain ⟨b, off, spot⟩ := x
      have hs : spot = none := by
        obtain ⟨h5, _⟩ := hq 0 (by omega)
        simpa [Addr.add] using World.cell?_spot h5
      subst hs
      have hadd : ∀ j, (⟨b, off, none⟩ : Addr).add j = ⟨b, off + j, none⟩ := by intro j; unfold Addr.add; split <;> simp_all
      rw [hadd] at h1 h2 h3
      have hg : ((List.range len).map q).getD i tk0 = q i := by simp [List.getD, hi2]
      rw [hg]
      exact ⟨b, off, rfl, h1, by rw [Nat.add_assoc]; exact h2, by rw [Nat.add_assoc]; exact h3⟩
    · obtain ⟨i, hi, rfl⟩ := List.mem_map.1 ht
      exact (hq i (by have := List.mem_range.1 hi; omega)).2.2.2
end Go.Proofs.Ytaipfcfmhdigfaa

namespace Go.Proofs.Ytaipfcfmhdigfaa
open Go.ChangeShapes Go.WideShapes Go.ChangeAt Go.RowKit Go.Deep
set_option linter.unusedVariables false
set_option maxRecDepth 100000

/-- A Price by value. -/
theorem open_price {H : Type} {enc : TypeId × Value → H} {W : World} {r : Reach} {b0 : Nat} {v : Value} {d : DataW H} {pl : List MemPlace}
    (hv : Value.okWide Try.prog W r b0 64 v) (h : DataW.Trod enc Try.prog W 0 (fun _ => true) true 64 v d pl) :
    ∃ x y z : Int, v = .agg #[.int .i64 x, .int .i64 y, .int .i64 z] := by
  obtain ⟨u0, u1, u2, y0, y1, y2, mm, rfl, _, _, t0, t1, t2⟩ := Go.Joins.open_agg3 Try.underlying64 (by kernel_rfl) (by kernel_rfl) hv h
  obtain ⟨f0, e0, _, g0⟩ := DataW.trod_int Try.underlying3 t0
  obtain rfl : u0 = .int .i64 f0 := by simpa using e0
  obtain ⟨f1, e1, _, g1⟩ := DataW.trod_int Try.underlying3 t1
  obtain rfl : u1 = .int .i64 f1 := by simpa using e1
  obtain ⟨f2, e2, _, g2⟩ := DataW.trod_int Try.underlying3 t2
  obtain rfl : u2 = .int .i64 f2 := by simpa using e2
  exact ⟨f0, f1, f2, rfl⟩
end Go.Proofs.Ytaipfcfmhdigfaa
