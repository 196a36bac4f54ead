import Derived.Test.YtaipfcfmhdigfaaPax
namespace Go.Proofs.Ytaipfcfmhdigfaa
open Go.RowKit
set_option linter.unusedVariables false

/-! The landed lz: Cheapest. -/
set_option maxRecDepth 100000 in
theorem pche7_no (a : Option Addr) (n cap : Nat) (win chain : Int) (lazy : Bool) (c : Pr7) (w : World) (ho : opt7 win chain ≠ 0) :
    Calls Try.prog 30 #[.slice a n cap, look7 win chain lazy, price7 c] w fun e w' => e = .returned (.tuple #[.slice none 0 0, .int .i64 0, .int .i64 72]) ∧ Below w.heap.size w w' := by
  obtain ⟨lt, mt, fr⟩ := c
  unfold price7
  simp only
  obtain ⟨wA, hwA⟩ : ∃ wA, wA = w.alloc (.cells #[.int .i64 win, .int .i64 chain, .bool lazy] 49) := ⟨_, rfl⟩
  obtain ⟨wB, hwB⟩ : ∃ wB, wB = wA.alloc (.cells #[.int .i64 lt, .int .i64 mt, .int .i64 fr] 67) := ⟨_, rfl⟩
  have bA : Below w.heap.size w wA := by rw [hwA]; exact below_box _ _
  have bB : Below wA.heap.size wA wB := by rw [hwB]; exact below_box _ _
  have BB : Below w.heap.size w wB := bA.trans (bB.mono bA.size)
  have HWA : Hid (wA = w.alloc (.cells #[.int .i64 win, .int .i64 chain, .bool lazy] 49)) := hwA
  have HWB : Hid (wB = wA.alloc (.cells #[.int .i64 lt, .int .i64 mt, .int .i64 fr] 67)) := hwB
  have CO := popt7 win chain lazy wB
  rw [opt7_no ho] at CO
  clear hwA hwB ho
  unfold look7 at CO ⊢
  go_enter Try.func30, Try.ntmps30
  go_wp2_with fail
  rw [← HWA.out, ← HWB.out]
  refine CO.mono ?_
  rintro e w1 ⟨rfl, b1⟩
  go_wp2_with fail
  refine bodyPost_ret (results_tmp3 rfl _ _ _) rfl ?_
  exact ⟨rfl, BB.trans (b1.mono BB.size)⟩
def CkI (D : List Int) (W : Nat) (c : Pr7) (wP wr : World) (ty : TypeId) (tl tp : Value) : Prop := ∃ (p m oc : Nat) (oa : Option Addr) (T : List Tok7), p ≤ D.length ∧ m ≤ p ∧ tp = .int .i64 (p : Int) ∧ tl = .slice oa m oc ∧ T.length = m ∧ che7 D W c = T ++ outg7 D W c (D.length - p) p ∧
  wr.ownsRow wP.heap.size ty 3 (.slice oa m oc) m (flatT T) ∧ Below wP.heap.size wP wr
set_option maxRecDepth 100000 in
set_option maxHeartbeats 8000000 in
theorem pche7_go (D : List Int) (a : Option Addr) (n cap W C : Nat) (lazy : Bool) (c : Pr7) (hn : Hid (D.length = n)) (w : World) (hs : Seg w a D) (hl : n ≤ 1048576) (hW1 : 1 ≤ W) (hW2 : W ≤ 32768) (hC : C ≤ 4096) :
    Calls Try.prog 30 #[.slice a n cap, look7 W C lazy, price7 c] w fun e w' => (badP c ∧ e = .returned (.tuple #[.slice none 0 0, .int .i64 0, .int .i64 72]) ∧ Below w.heap.size w w') ∨
      (¬ badP c ∧ ∃ oa oc, e = .returned (.tuple #[.slice oa (che7 D W c).length oc, .int .i64 (lea7 D W c 0).1, .int .i64 0]) ∧ w'.ownsRow w.heap.size 56 3 (.slice oa (che7 D W c).length oc) (che7 D W c).length (flatT (che7 D W c)) ∧ Below w.heap.size w w') := by
  obtain ⟨i0, hi, hz0, hz1, hz2⟩ := info_parts info_tokp
  obtain ⟨wA, hwA⟩ : ∃ wA, wA = w.alloc (.cells #[.int .i64 (W : Int), .int .i64 (C : Int), .bool lazy] 49) := ⟨_, rfl⟩
  obtain ⟨wB, hwB⟩ : ∃ wB, wB = wA.alloc (.cells #[.int .i64 c.lit, .int .i64 c.mat, .int .i64 c.far] 67) := ⟨_, rfl⟩
  have bA : Below w.heap.size w wA := by rw [hwA]; exact below_box _ _
  have bB : Below wA.heap.size wA wB := by rw [hwB]; exact below_box _ _
  have BB : Below w.heap.size w wB := bA.trans (bB.mono bA.size)
  have lA := boxL hwA
  obtain ⟨ob, hob⟩ : ∃ ob, ob = w.heap.size := ⟨_, rfl⟩
  obtain ⟨pb, hpb⟩ : ∃ pb, pb = wA.heap.size := ⟨_, rfl⟩
  have hpB : wB.heap[pb]? = some (.cells #[.int .i64 c.lit, .int .i64 c.mat, .int .i64 c.far] 67 (0, 0)) := by rw [hwB, hpb]; exact heap_alloc_new wA _
  rw [← hob] at lA
  have lB := lA.of_block (bB.block ob lA.lt)
  have HLB : Hid (LkAt wB ob W C lazy) := lB
  have hol := lB.lt
  have hpl : pb < wB.heap.size := (Array.getElem?_eq_some_iff.1 hpB).1
  have HPB : Hid (wB.heap[pb]? = some (.cells #[.int .i64 c.lit, .int .i64 c.mat, .int .i64 c.far] 67 (0, 0))) := hpB
  have HWA : Hid (wA = w.alloc (.cells #[.int .i64 (W : Int), .int .i64 (C : Int), .bool lazy] 49)) := hwA
  have HWB : Hid (wB = wA.alloc (.cells #[.int .i64 c.lit, .int .i64 c.mat, .int .i64 c.far] 67)) := hwB
  have HOB : Hid (ob = w.heap.size) := hob
  have HPE : Hid (w.heap.size + 1 = pb) := by show _ = _; rw [hpb, hwA]; simp
  have CO := popt7 W C lazy wB
  rw [show opt7 W C = 0 by unfold opt7; rw [if_neg (by omega)]] at CO
  have CP : Hid (∀ W1, Calls Try.prog 40 #[price7 c] W1 fun e w' => e = .returned (.bool (decide (¬ badP c))) ∧ Below W1.heap.size W1 w') := fun W1 => pprice7 c W1
  have HSB : Hid (Seg wB a D) := hs.old BB
  have CPL : Hid (¬ badP c → ∀ W1, Below wB.heap.size wB W1 → Calls Try.prog 41 #[.slice a n cap, .int .i64 (W : Int), price7 c] W1 fun e w' => ∃ sg, e = .returned (.tuple #[.slice (some ⟨sg, 0, none⟩) n n, .int .i64 (lea7 D W c 0).1]) ∧ RowS w' sg n (stp7 D W c 0) ∧ sg < w'.heap.size ∧ W1.heap.size ≤ sg ∧ Below W1.heap.size W1 w') := fun hb W1 h1 =>
    pplan7 D a n cap W c hn hb W1 ((show Seg wB a D from HSB.out).old h1) hl hW2
  clear hwA hwB hob hpb lA lB hs hpB
  unfold look7 at CO ⊢
  unfold price7 at CP CPL ⊢
  by_cases hbad : badP c
  · rw [decide_eq_false (fun e => e hbad)] at CP
    have HBAD : Hid (badP c) := hbad
    clear hbad CPL
    go_enter Try.func30, Try.ntmps30
    go_wp2_with fail
    rw [← HWA.out, ← HWB.out, HPE.out, ← HOB.out]
    refine CO.mono ?_
    rintro e w1 ⟨rfl, b1⟩
    have hp1 := (b1.block pb hpl).trans HPB.out
    have p0 : w1.cell? ⟨pb, 0, none⟩ = some (.int .i64 c.lit) := three_cell0 hp1
    have p1 : w1.cell? ⟨pb, 1, none⟩ = some (.int .i64 c.mat) := three_cell1 hp1
    have p2 : w1.cell? ⟨pb, 2, none⟩ = some (.int .i64 c.far) := three_cell2 hp1
    clear hp1
    go_wp2_with fail
    refine (CP.out w1).mono ?_
    rintro e w2 ⟨rfl, b2⟩
    have B2 : Below wB.heap.size wB w2 := b1.trans (b2.mono b1.size)
    go_wp2_with fail
    refine bodyPost_ret (results_tmp3 rfl _ _ _) rfl ?_
    exact .inl ⟨HBAD.out, rfl, BB.trans (B2.mono BB.size)⟩
  · rw [decide_eq_true hbad] at CP
    have HBAD : Hid (¬ badP c) := hbad
    have CPL2 : Hid _ := CPL.out hbad
    clear hbad CPL
    go_enter Try.func30, Try.ntmps30
    go_wp2_with fail
    rw [← HWA.out, ← HWB.out, HPE.out, ← HOB.out]
    refine CO.mono ?_
    rintro e w1 ⟨rfl, b1⟩
    have hp1 := (b1.block pb hpl).trans HPB.out
    have p0 : w1.cell? ⟨pb, 0, none⟩ = some (.int .i64 c.lit) := three_cell0 hp1
    have p1 : w1.cell? ⟨pb, 1, none⟩ = some (.int .i64 c.mat) := three_cell1 hp1
    have p2 : w1.cell? ⟨pb, 2, none⟩ = some (.int .i64 c.far) := three_cell2 hp1
    clear hp1
    go_wp2_with fail
    refine (CP.out w1).mono ?_
    rintro e w2 ⟨rfl, b2⟩
    have B2 : Below wB.heap.size wB w2 := b1.trans (b2.mono b1.size)
    have hp2 := (B2.block pb hpl).trans HPB.out
    have q0 : w2.cell? ⟨pb, 0, none⟩ = some (.int .i64 c.lit) := three_cell0 hp2
    have q1 : w2.cell? ⟨pb, 1, none⟩ = some (.int .i64 c.mat) := three_cell1 hp2
    have q2 : w2.cell? ⟨pb, 2, none⟩ = some (.int .i64 c.far) := three_cell2 hp2
    obtain ⟨k0, k1, k2⟩ := (show LkAt wB ob W C lazy from HLB.out).of_block (B2.block ob hol)
    have CPP := CPL2.out w2 B2
    clear hp2 p0 p1 p2 CP CO CPL2
    go_wp2_with fail
    refine CPP.mono ?_
    rintro e wP ⟨sg, rfl, hRS, hsl, hso, b3⟩
    have BP : Below wB.heap.size wB wP := B2.trans (b3.mono B2.size)
    have HRS : Hid (RowS wP sg n (stp7 D W c 0)) := hRS
    have HSP : Hid (Seg wP a D) := (show Seg wB a D from HSB.out).old BP
    clear hRS CPP q0 q1 q2 k0 k1 k2
    go_wp2_with fail
    go_loopw [12, 13] (fun tl tp wr => CkI D W c wP wr 56 tl tp) (fun _ tp _ => n - (intOf tp).toNat)
    case atStart => exact ⟨0, 0, 0, none, [], by omega, by omega, rfl, rfl, rfl, rfl, World.ownsRow_nil _ _ _ _, Below.refl _ _⟩
    case round =>
      obtain ⟨p, m, oc, oa, T, hpn, hmp, rfl, rfl, hTl, hpar, OO, BR⟩ := hrel
      rw [hn.out] at hpn
      have HTL : Hid (T.length = m) := hTl
      have HPR : Hid (che7 D W c = T ++ outg7 D W c (D.length - p) p) := hpar
      clear hTl hpar
      by_cases hlt : p < n
      · have hlti : (p : Int) < (n : Int) := by omega
        have hpD : p < D.length := by rw [hn.out]; exact hlt
        obtain ⟨k, hk1, hk2, hk3, hk4⟩ := outg7_step (W := W) (c := c) hpD
        rw [hn.out] at hk2
        have hsr : RowS wr sg n (stp7 D W c 0) := HRS.out.of_block (BR.block sg hsl)
        obtain ⟨s0, s1⟩ := hsr.at_ p hlt
        have hst : stp7 D W c 0 p = ((lea7 D W c p).2.len, (lea7 D W c p).2.dist) := by unfold stp7; rw [if_pos (Nat.zero_le _)]
        rw [hst] at s0 s1
        obtain ⟨wM, hwM⟩ : ∃ wM, wM = wr.alloc (.cells #[.int .u16 (lea7 D W c p).2.len, .int .u16 (lea7 D W c p).2.dist] 88) := ⟨_, rfl⟩
        have bM : Below wr.heap.size wr wM := by rw [hwM]; exact below_box _ _
        have hM : RchAt wM wr.heap.size (lea7 D W c p).2.len (lea7 D W c p).2.dist := by rw [hwM]; exact rch_new wr _ _
        obtain ⟨mb, hmb⟩ : ∃ mb, mb = wr.heap.size := ⟨_, rfl⟩
        have hzM : wM.heap.size = mb + 1 := by rw [hwM, hmb]; simp
        rw [← hmb] at hM
        have HWM : Hid (wM = wr.alloc (.cells #[.int .u16 (lea7 D W c p).2.len, .int .u16 (lea7 D W c p).2.dist] 88)) := hwM
        have HMB : Hid (mb = wr.heap.size) := hmb
        have HZM : Hid (wr.heap.size + 1 = wM.heap.size) := by show _ = _; rw [hzM, hmb]
        have BM : Below wP.heap.size wP wM := BR.trans (bM.mono BR.size)
        have OM : wM.ownsRow wP.heap.size 56 3 (.slice oa m oc) m (flatT T) := own_belowT OO bM
        have hsM := BM.size
        have hmo : ∀ q, (Value.slice oa m oc).ownBlock = some q → q ≠ mb := fun q e => by have := (OO.lt q e).2; omega
        have m0 := hM.c0
        have m1 := hM.c1
        obtain ⟨g, off, hag, cp⟩ := ((show Seg wP a D from HSP.out).old BR).at_ p hpD
        have hzb := (show Seg wP a D from HSP.out).bd p
        have hcpl := World.block_lt_of_cell? wr _ cp
        have cpM : wM.cell? ⟨g, off + p, none⟩ = some (.int .u8 (D.getD p 0)) := (bM.cell (p := ⟨g, off + p, none⟩) hcpl).trans cp
        have hfit := reach_fit (W := W) (c := c) hpD hW2
        have hsp := (lea7_spec D W c p hpD).2.2
        have HK4 : Hid (outg7 D W c (D.length - p) p = (lea7 D W c p).2 :: outg7 D W c (D.length - (p + k)) (p + k)) := hk4
        have HGR : Hid (∀ w7, wM.grownBy w7 (Value.slice oa m oc).ownBlock → w7.cell? ⟨mb, 0, none⟩ = wM.cell? ⟨mb, 0, none⟩) := fun w7 hg => World.cell?_of_block (hg.block mb hM.lt (fun e => hmo mb e.symm rfl))
        subst hag
        clear hwM hmb hM hk4 hsr hst hzM OO
        generalize D.getD p 0 = z at *
        rcases hsp with h | ⟨l, h1, h2, h3, h4, h5⟩
        · rw [h] at hk3 HK4 s0 s1 HWM m0 m1
          obtain rfl : k = 1 := by simp at hk3; omega
          simp only at s0 s1 HWM m0 m1 HK4
          clear h hfit
          go_wp2_with (first | (at_builtin; rw [HZM.out, ← HWM.out, ← HMB.out]; refine wpList_appTF rfl (.tmp 42) (.tmp 48) 24 rfl wP.heap.size 56 i0 _ 24 Try.underlying24 hi hz0 hz1 hz2 rfl wM ⟨z, 0, 0⟩ OM rfl rfl (by omega) (by omega) hsM ?_; intro ga gc w3 own3 hk7 hat3))
          have B3 : Below wP.heap.size wP w3 := BM.trans (hk7.below (fun q e => (OM.lt q e).1) hsM)
          have HP3 : Hid (che7 D W c = (T ++ [⟨z, 0, 0⟩]) ++ outg7 D W c (D.length - (p + 1)) (p + 1)) := by
            show _ = _
            rw [HPR.out, HK4.out, List.append_assoc]
            rfl
          have HT3 : Hid ((T ++ [(⟨z, 0, 0⟩ : Tok7)]).length = m + 1) := by show _ = _; rw [List.length_append, HTL.out]; rfl
          clear HPR HK4 hk7 hat3
          go_wp2_with fail
          go_roundw
          case rel => exact ⟨p + 1, m + 1, gc, _, T ++ [⟨z, 0, 0⟩], by rw [hn.out]; omega, by omega, by go_num, rfl, HT3.out, HP3.out, own3, B3⟩
          case measure => simp [intOf]; omega
        · rw [h5] at hk3 HK4 s0 s1 HWM m0 m1 hfit
          simp only at s0 s1 HWM m0 m1 HK4 hfit hk3
          generalize nst7 D p l W = d at *
          obtain rfl : k = l := by omega
          have hw1 : IntKind.i64.wrap (k : Int) = (k : Int) := IntWalk.i64_in _ (by omega)
          have hw2 : IntKind.i64.wrap (d : Int) = (d : Int) := IntWalk.i64_in _ (by omega)
          have hw3 : IntKind.i64.wrap ((p : Int) + (k : Int)) = ((p + k : Nat) : Int) := by rw [IntWalk.i64_in _ (by omega)]; omega
          obtain ⟨pk, hpk⟩ : ∃ pk, pk = p + k := ⟨_, rfl⟩
          rw [← hpk] at hw3 HK4 hk2
          have hpki : (p : Int) + (k : Int) = (pk : Int) := by omega
          have hk0 : ¬ (k : Int) = 0 := by omega
          have hk0n : ¬ k = 0 := by omega
          have hpkp : p < pk := by omega
          have hmbl : mb < wM.heap.size := World.block_lt_of_cell? wM _ m0
          clear h5 hfit hk3 hpk h4
          go_wp2_with (first | (at_builtin; rw [HZM.out, ← HWM.out, ← HMB.out]; refine wpList_appTF rfl (.tmp 52) (.tmp 60) 24 rfl wP.heap.size 56 i0 _ 24 Try.underlying24 hi hz0 hz1 hz2 rfl wM ⟨0, k, d⟩ OM rfl rfl (by omega) (by omega) hsM ?_; intro ga gc w3 own3 hk7 hat3; have m3 : w3.cell? ⟨mb, 0, none⟩ = some (.int .u16 (k : Int)) := (World.cell?_of_block (a := ⟨mb, 0, none⟩) (hk7.block mb hmbl (fun e => hmo mb e rfl))).trans m0))
          have B3 : Below wP.heap.size wP w3 := BM.trans (hk7.below (fun q e => (OM.lt q e).1) hsM)
          have HP3 : Hid (che7 D W c = (T ++ [⟨0, k, d⟩]) ++ outg7 D W c (D.length - pk) pk) := by
            show _ = _
            rw [HPR.out, HK4.out, List.append_assoc]
            rfl
          have HT3 : Hid ((T ++ [(⟨0, k, d⟩ : Tok7)]).length = m + 1) := by show _ = _; rw [List.length_append, HTL.out]; rfl
          clear HPR HK4 hk7 hat3
          go_wp2_with fail
          go_roundw
          case rel => exact ⟨pk, m + 1, gc, _, T ++ [⟨0, k, d⟩], by rw [hn.out]; omega, by omega, rfl, rfl, HT3.out, HP3.out, own3, B3⟩
          case measure => simp [intOf]; omega
      · have hge : ¬ (p : Int) < (n : Int) := by omega
        have HE : Hid (che7 D W c = T) := by
          show _ = _
          rw [HPR.out, show D.length - p = 0 by rw [hn.out]; omega, outg7, List.append_nil]
        clear HPR
        go_wp2_with fail
        refine bodyPost_ret (results_tmp3 rfl _ _ _) rfl ?_
        refine .inr ⟨HBAD.out, oa, oc, ?_, ?_, BB.trans ((BP.trans (BR.mono BP.size)).mono BB.size)⟩
        · rw [HE.out, HTL.out]; rfl
        · rw [HE.out, HTL.out]; exact own_baseT OO (Nat.le_trans BB.size BP.size)
theorem pche7 (D : List Int) (a : Option Addr) (n cap : Nat) (win chain : Int) (lazy : Bool) (c : Pr7) (hn : Hid (D.length = n)) (w : World) (hs : Seg w a D) (hcap : n ≤ cap) (hnil : a = none → cap = 0) (hl : n ≤ 1048576) : Calls Try.prog 30 #[.slice a n cap, look7 win chain lazy, price7 c] w (CheP w 56 (cheap7 D win chain c) (cheapV7 D win chain c) (cheapE7 win chain c)) := by
  by_cases ho : opt7 win chain = 0
  · obtain ⟨h1, h2, h3, h4⟩ := opt7_ok ho
    obtain ⟨W, rfl⟩ := Int.eq_ofNat_of_zero_le (show 0 ≤ win by omega)
    obtain ⟨C, rfl⟩ := Int.eq_ofNat_of_zero_le h3
    refine (pche7_go D a n cap W C lazy c hn w hs hl (by omega) (by omega) (by omega)).mono ?_
    unfold cheap7 cheapV7 cheapE7
    rintro e w' (⟨hb, rfl, b⟩ | ⟨hb, oa, oc, rfl, o, b⟩)
    · rw [if_neg (fun h => h.2 hb), if_neg (fun h => h.2 hb), if_neg (fun h => h.2 hb)]
      exact ⟨none, 0, rfl, World.ownsRow_nil _ _ _ _, b⟩
    · rw [if_pos ⟨ho, hb⟩, if_pos ⟨ho, hb⟩, if_pos ⟨ho, hb⟩]
      exact ⟨oa, oc, rfl, o, b⟩
  · refine (pche7_no a n cap win chain lazy c w ho).mono ?_
    unfold cheap7 cheapV7 cheapE7
    rintro e w' ⟨rfl, b⟩
    rw [if_neg (fun h => ho h.1), if_neg (fun h => ho h.1), if_neg (fun h => ho h.1)]
    exact ⟨none, 0, rfl, World.ownsRow_nil _ _ _ _, b⟩
end Go.Proofs.Ytaipfcfmhdigfaa
