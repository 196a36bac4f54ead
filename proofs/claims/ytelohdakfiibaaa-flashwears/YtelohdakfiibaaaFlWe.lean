import Derived.Test.YtelohdakfiibaaaFlWp
namespace Go.Proofs.Ytelohdakfiibaaa
open Go.RowKit Go.Shelf
set_option linter.unusedVariables false
set_option linter.unusedSimpArgs false
/-- What holds of the device in the script's loop. -/
structure We21 (w1 : World) (b : Nat) (P Q : Nat) (lim : Int) (i : Nat) (W : World) : Prop where
  dv : ∃ F S, Fl21 W b F S ∧ Ok21 S ∧ Wi21 lim S ∧ S.pg = P ∧ S.ps = Q ∧ S.lg.length ≤ i ∧ (∀ k, F k → w1.heap.size ≤ k)
  bl : Below w1.heap.size w1 W
theorem We21.next {w1 W W' : World} {b P Q i : Nat} {lim : Int} {F : Nat → Prop} {S S' : Fs21} (hb : Below w1.heap.size w1 W) (hS : S.pg = P ∧ S.ps = Q ∧ S.lg.length ≤ i) (hF : ∀ k, F k → w1.heap.size ≤ k) (hn : Fn21 W W' b F S') (ho : Ok21 S') (hw : Wi21 lim S') (hg : Gr21 S S') : We21 w1 b P Q lim (i + 1) W' := by
  obtain ⟨F', h1, h2, h3⟩ := hn.kpw hF hb.size
  obtain ⟨g1, g2, g3, g4⟩ := hg
  exact ⟨⟨F', S', h1, ho, hw, by rw [g1]; exact hS.1, by rw [g2]; exact hS.2.1, by omega, h2⟩, hb.trans h3⟩
theorem er21_same {S : Fs21} {x y : Int} (h : erE21 S x y = 214) : erS21 S x y = S := by
  unfold erE21 at h
  unfold erS21
  split
  · rfl
  · rename_i h1
    rw [if_neg h1] at h
    split
    · rfl
    · rename_i h2
      rw [if_neg h2] at h
      unfold rc21 at h
      split at h <;> omega
set_option maxRecDepth 100000 in
set_option maxHeartbeats 32000000 in
theorem flashWears_walk (w : World) (su : Su21) (fs : Sf21 w su) (limit : Int) (hl1 : -9223372036854775808 ≤ limit) (hl2 : limit ≤ 9223372036854775807) (sa : Option Addr) (len cap : Nat) (O : Nat → Oq21) (so : Ss21 w sa len O) (hlen : len * 56 ≤ 140737488351232) :
    Calls Try.prog 5 #[.agg #[.int .i64 su.p, .int .i64 su.q, .int .i64 su.ac, .slice su.a0 su.l0.length su.k0, .slice su.a1 su.l1.length su.k1], .int .i64 limit, .slice sa len cap] w fun e w' => e = .returned (.bool true) ∧ Below w.heap.size w w' := by
  have HLV : Hid (∀ W : World, Calls Try.prog 6 #[] W fun e w' => e = .returned (.bool true) ∧ Below W.heap.size W w') := plives21
  obtain ⟨w1, hw1⟩ : ∃ w1, w1 = w.alloc (.cells #[.int .i64 su.p, .int .i64 su.q, .int .i64 su.ac, .slice su.a0 su.l0.length su.k0, .slice su.a1 su.l1.length su.k1] 25) := ⟨_, rfl⟩
  have HW1 : Hid (w.alloc (.cells #[.int .i64 su.p, .int .i64 su.q, .int .i64 su.ac, .slice su.a0 su.l0.length su.k0, .slice su.a1 su.l1.length su.k1] 25) = w1) := hw1.symm
  have b1 : Below w.heap.size w w1 := by rw [hw1]; exact (Below.refl _ _).alloc (Nat.le_refl _) _
  have q1 : w1.heap[w.heap.size]? = some (.cells #[.int .i64 su.p, .int .i64 su.q, .int .i64 su.ac, .slice su.a0 su.l0.length su.k0, .slice su.a1 su.l1.length su.k1] 25 (0, 0)) := by rw [hw1]; exact heap_alloc_new _ _
  obtain ⟨g0, hg0⟩ : ∃ g0, g0 = w.heap.size := ⟨_, rfl⟩
  have HG0 : Hid (w.heap.size = g0) := hg0.symm
  have hs1 : w1.heap.size = g0 + 1 := by rw [hw1, hg0]; simp
  rw [← hg0] at q1
  have HN := pnew21 (w := w1) su.p su.q su.ac fs.p fs.q su.a0 su.a1 su.l0 su.l1 su.l0.length su.l1.length su.k0 su.k1 (fs.s0.old b1) (fs.s1.old b1) rfl rfl fs.z0 fs.z1
  have HQ : Hid (∀ V : World, Below w1.heap.size w1 V → V.cell? ⟨g0, 1, none⟩ = some (.int .i64 su.q)) := fun V hV => by
    have := (hV.block g0 (by omega)).trans q1
    simp [World.cell?, this]
  have HB1 : Hid (Below w.heap.size w w1 ∧ w1.heap.size = g0 + 1) := ⟨b1, hs1⟩
  have HSO : Hid (Ss21 w sa len O) := so
  have c0 : w1.cell? ⟨g0, 0, none⟩ = some (.int .i64 su.p) := by simp [World.cell?, q1]
  have c1 : w1.cell? ⟨g0, 1, none⟩ = some (.int .i64 su.q) := by simp [World.cell?, q1]
  have c2 : w1.cell? ⟨g0, 2, none⟩ = some (.int .i64 su.ac) := by simp [World.cell?, q1]
  have c3 : w1.cell? ⟨g0, 3, none⟩ = some (.slice su.a0 su.l0.length su.k0) := by simp [World.cell?, q1]
  have c4 : w1.cell? ⟨g0, 4, none⟩ = some (.slice su.a1 su.l1.length su.k1) := by simp [World.cell?, q1]
  clear hw1 b1 hg0 hs1 so
  go_enter Try.func5, Try.ntmps5
  go_wp2_with fail
  rw [HW1.out, HG0.out]
  go_wp2_with fail
  refine HN.mono ?_
  rintro e w2 ⟨b2, h2⟩
  have b2' : Below w.heap.size w w2 := HB1.out.1.trans (b2.mono HB1.out.1.size)
  clear HN c0 c1 c2 c3 c4
  rcases h2 with ⟨-, rfl⟩ | ⟨he, b, F, rfl, hF, hFw⟩
  · go_wp2_with fail
    refine (HLV.out _).mono ?_
    rintro e w3 ⟨rfl, b3⟩
    go_wp2_with fail
    go_ret
    exact ⟨rfl, b2'.trans (b3.mono b2'.size)⟩
  have hmb : 64 ≤ su.p ∧ su.p ≤ 4096 ∧ 1 ≤ su.q ∧ su.q ≤ 4096 ∧ 0 ≤ su.ac ∧ su.ac < 2 := by
    unfold nwE21 at he
    by_cases h : mb21 su.p su.q = false ∨ su.ac < 0 ∨ 2 ≤ su.ac
    · rw [if_pos h] at he; omega
    · have h1 : mb21 su.p su.q = true := by
        cases h' : mb21 su.p su.q
        · exact absurd (.inl h') h
        · rfl
      simp [mb21] at h1
      omega
  have hok : Ok21 (nw21 su.p.toNat su.q.toNat su.ac su.l0 su.l1) := ok21_new _ _ _ _ _ (by omega) (by omega) (by omega)
  obtain ⟨PN, hPN⟩ : ∃ PN, PN = su.p.toNat := ⟨_, rfl⟩
  obtain ⟨QN, hQN⟩ : ∃ QN, QN = su.q.toNat := ⟨_, rfl⟩
  rw [← hPN, ← hQN] at hF hok
  have HPQ : Hid ((PN : Int) = su.p ∧ (QN : Int) = su.q ∧ 1 ≤ QN ∧ QN ≤ 4096) := ⟨by omega, by omega, by omega, by omega⟩
  clear he hmb hPN hQN
  go_upto_if 51 with fail
  go_cut [1] from 20 to 207 (fun s1 wc => wc = w2 ∧ ∃ L1 : Int, s1 = .int .i64 L1 ∧ 1 ≤ L1)
  case first =>
    by_cases hc1 : limit < 1
    · go_wp2_with fail
      go_meet
      case rel => exact ⟨rfl, 1, rfl, by omega⟩
    · go_wp2_with fail
      go_meet
      case rel => exact ⟨rfl, limit, rfl, by omega⟩
  case rest =>
    obtain ⟨hwc, L1, rfl, hL1⟩ := hcut
    subst wc
    go_upto_if 53 with fail
    go_cut [1] from 20 to 207 (fun s1 wc => wc = w2 ∧ ∃ L2 : Int, s1 = .int .i64 L2 ∧ 1 ≤ L2 ∧ L2 ≤ 1099511627776)
    case first =>
      by_cases hc1 : 1099511627776 < L1
      · go_wp2_with fail
        go_meet
        case rel => exact ⟨rfl, 1099511627776, rfl, by omega, by omega⟩
      · go_wp2_with fail
        go_meet
        case rel => exact ⟨rfl, L1, rfl, by omega, by omega⟩
    case rest =>
      obtain ⟨hwc, lim, rfl, hm1, hm2⟩ := hcut
      subst wc
      clear hL1 L1
      have hLM := plim21 hF hok lim
      have hE0 : liE21 lim = 0 := by unfold liE21; rw [if_neg (by omega)]
      have hS0 : liS21 (nw21 PN QN su.ac su.l0 su.l1) lim = { nw21 PN QN su.ac su.l0 su.l1 with lm := lim } := by unfold liS21; rw [if_neg (by omega)]
      rw [hE0, hS0] at hLM
      have hokL := ok21_li hok lim
      rw [hS0] at hokL
      clear hE0 hS0
      go_wp2_with fail
      refine hLM.mono ?_
      rintro e w3 ⟨rfl, hn3⟩
      have HWE : We21 w1 b PN QN lim 0 w3 := by
        obtain ⟨F', h1, h2, h3⟩ := hn3.kpw hFw b2.size
        exact ⟨⟨F', _, h1, hokL, wi21_new PN QN su.ac lim su.l0 su.l1 (by omega), rfl, rfl, by simp [nw21], h2⟩, b2.trans h3⟩
      have HLIM : Hid ((0 : Int) < lim ∧ (lim : Int) ≤ 1099511627776) := ⟨by omega, by omega⟩
      clear hLM hn3 hokL hok hF hFw
      go_wp2_with fail
      go_loopw [60] (fun ti wr => ∃ i : Nat, i ≤ len ∧ ti = .int .i64 (i : Int) ∧ We21 w1 b PN QN lim i wr) (fun ti _ => len - (intOf ti).toNat)
      case atStart => exact ⟨0, by omega, rfl, HWE⟩
      case round =>
        obtain ⟨i, hin, rfl, hW⟩ := hrel
        by_cases hi : i < len
        · have hii : (i : Int) < (len : Int) := by omega
          have hiw : IntKind.i64.wrap ((i : Int) + 1) = ((i + 1 : Nat) : Int) := by rw [IntWalk.i64_in _ (by omega)]; omega
          obtain ⟨⟨F, S, hF, hO, hWi, hpg, hps, hlg, hFw⟩, hB⟩ := hW
          obtain ⟨g, off, hsa, e0, e1, e2, e3, e4⟩ := HSO.out.at_ i hi
          have hof := HSO.out.of i hi
          subst hsa
          have hBw : Below w.heap.size w wr := HB1.out.1.trans (hB.mono (by have := HB1.out.1.size; omega))
          have hgl := World.block_lt_of_cell? w _ e0
          replace e0 := (hBw.cell (p := ⟨g, off + i * 5, none⟩) hgl).trans e0
          replace e1 := (hBw.cell (p := ⟨g, off + i * 5 + 1, none⟩) hgl).trans e1
          replace e2 := (hBw.cell (p := ⟨g, off + i * 5 + 2, none⟩) hgl).trans e2
          replace e3 := (hBw.cell (p := ⟨g, off + i * 5 + 3, none⟩) hgl).trans e3
          replace e4 := (hBw.cell (p := ⟨g, off + i * 5 + 4, none⟩) hgl).trans e4
          obtain ⟨u, hu⟩ : ∃ u, u = wr.alloc (.cells #[.int .i64 (O i).c, .int .i64 (O i).a, .int .i64 (O i).p, .int .i64 (O i).n, .slice (O i).ba (O i).b.length (O i).bc] 36) := ⟨_, rfl⟩
          have HU : Hid (wr.alloc (.cells #[.int .i64 (O i).c, .int .i64 (O i).a, .int .i64 (O i).p, .int .i64 (O i).n, .slice (O i).ba (O i).b.length (O i).bc] 36) = u) := hu.symm
          have bu : Below wr.heap.size wr u := by rw [hu]; exact (Below.refl _ _).alloc (Nat.le_refl _) _
          have qu : u.heap[wr.heap.size]? = some (.cells #[.int .i64 (O i).c, .int .i64 (O i).a, .int .i64 (O i).p, .int .i64 (O i).n, .slice (O i).ba (O i).b.length (O i).bc] 36 (0, 0)) := by rw [hu]; exact heap_alloc_new _ _
          have hFu := hF.old bu
          have hNF : ¬ F wr.heap.size := fun e => by
            obtain ⟨_, _, _, _, _, _, _, _, _, _, _, _, _, h6⟩ := hF
            have := h6 _ e; omega
          have hBu : Below w1.heap.size w1 u := hB.trans (bu.mono hB.size)
          have hsg := (hof.sg.old hBw).old bu
          have hER := perase21 hFu hO (O i).a (O i).p hof.a hof.p (by omega)
          have hPG := pprog21 hFu hO (O i).a (O i).p hof.a hof.p (by omega) (O i).ba (O i).b (O i).b.length (O i).bc hsg rfl hof.nil
          have hCU := pcut21 hFu hO (O i).n (O i).ba (O i).b (O i).b.length (O i).bc hsg rfl hof.nil
          have hPO := ppow21 hFu hO
          have HNX : Hid (∀ (S' : Fs21) (W' : World), Fn21 u W' b F S' → Ok21 S' → Wi21 lim S' → Gr21 S S' → We21 w1 b PN QN lim (i + 1) W') := fun S' W' hn ho hw hg => We21.next hBu ⟨hpg, hps, hlg⟩ hFw hn ho hw hg
          have HWI : Hid (Wi21 lim S ∧ Ok21 S) := ⟨hWi, hO⟩
          have HFU : Hid (Fl21 u b F S ∧ (∀ k, F k → w1.heap.size ≤ k) ∧ Below w1.heap.size w1 u ∧ S.pg = PN ∧ S.ps = QN ∧ S.lg.length ≤ i) := ⟨hFu, hFw, hBu, hpg, hps, hlg⟩
          have u0 : u.cell? ⟨wr.heap.size, 0, none⟩ = some (.int .i64 (O i).c) := by simp [World.cell?, qu]
          have u1 : u.cell? ⟨wr.heap.size, 1, none⟩ = some (.int .i64 (O i).a) := by simp [World.cell?, qu]
          have u2 : u.cell? ⟨wr.heap.size, 2, none⟩ = some (.int .i64 (O i).p) := by simp [World.cell?, qu]
          have u3 : u.cell? ⟨wr.heap.size, 3, none⟩ = some (.int .i64 (O i).n) := by simp [World.cell?, qu]
          have u4 : u.cell? ⟨wr.heap.size, 4, none⟩ = some (.slice (O i).ba (O i).b.length (O i).bc) := by simp [World.cell?, qu]
          obtain ⟨gu, hgu⟩ : ∃ gu, gu = wr.heap.size := ⟨_, rfl⟩
          have HGU : Hid (wr.heap.size = gu) := hgu.symm
          rw [← hgu] at u0 u1 u2 u3 u4 qu hNF
          have HNF : Hid (¬ F gu ∧ gu < u.heap.size) := ⟨hNF, (Array.getElem?_eq_some_iff.1 qu).1⟩
          have HOF : Hid (Of21 w (O i)) := hof
          have HQU : Hid (u.heap[gu]? = some (.cells #[.int .i64 (O i).c, .int .i64 (O i).a, .int .i64 (O i).p, .int .i64 (O i).n, .slice (O i).ba (O i).b.length (O i).bc] 36 (0, 0))) := qu
          generalize O i = op at *
          clear HWE hu bu hFu hBu hF hO hWi hpg hps hlg hFw hB hBw hof hsg hgl hgu qu hNF u0 u1 u2 u3 u4
          by_cases hc : op.c = 1
          · rw [hc] at HU HQU e0
            clear hc hPG hCU hPO
            by_cases h214 : erE21 S op.a op.p = 214
            · have hww := er21_worn HWI.out.1 HLIM.out.2 op.a op.p h214
              have hss := er21_same h214
              rw [h214, hss] at hER
              clear h214 hss
              go_wp2_with fail
              rw [HU.out, HGU.out]
              refine hER.mono ?_
              rintro e w4 ⟨rfl, hn4⟩
              obtain ⟨F4, hF4, hw4, b4⟩ := hn4.kpw HFU.out.2.1 HFU.out.2.2.1.size
              obtain ⟨-, -, -, k4⟩ := hn4
              have q4 := (k4.block gu HNF.out.2 HNF.out.1).trans HQU.out
              have x1 : w4.cell? ⟨gu, 1, none⟩ = some (.int .i64 op.a) := by simp [World.cell?, q4]
              have x2 : w4.cell? ⟨gu, 2, none⟩ = some (.int .i64 op.p) := by simp [World.cell?, q4]
              have hWR := pwear21 hF4 HWI.out.2 op.a op.p HOF.out.a HOF.out.p
              rw [hww.1, hww.2] at hWR
              have HF4 : Hid (Fl21 w4 b F4 S ∧ (∀ k, F4 k → w1.heap.size ≤ k) ∧ Below w1.heap.size u w4) := ⟨hF4, hw4, b4⟩
              clear hER k4 q4 hww hF4 hw4 b4
              go_wp2_with fail
              refine hWR.mono ?_
              rintro e w5 ⟨rfl, b5⟩
              go_wp2_with fail
              go_roundw
              case rel =>
                obtain ⟨h1, h2, h3⟩ := HF4.out
                obtain ⟨z1, z2, z3, z4, z5, z6⟩ := HFU.out
                exact ⟨i + 1, by omega, by go_num, ⟨F4, S, h1.old b5, HWI.out.2, HWI.out.1, z4, z5, by omega, h2⟩, (z3.trans h3).trans (b5.mono (Nat.le_trans z3.size h3.size))⟩
              case measure => simp [intOf]; omega
            · have h214' : (erE21 S op.a op.p == 214) = false := by simp [h214]
              have ho4 := ok21_er HWI.out.2 op.a op.p
              have hw4 := HWI.out.1.er HLIM.out.1 op.a op.p
              have hg4 := gr21_er S op.a op.p
              generalize erE21 S op.a op.p = EE at *
              generalize erS21 S op.a op.p = SS at *
              go_wp2_with fail
              rw [HU.out, HGU.out]
              refine hER.mono ?_
              rintro e w4 ⟨rfl, hn4⟩
              clear hER
              go_wp2_with fail
              go_roundw
              case rel => exact ⟨i + 1, by omega, by go_num, HNX.out _ _ hn4 ho4 hw4 hg4⟩
              case measure => simp [intOf]; omega
          · have hc1' : (op.c == 1) = false := by simp [hc]
            by_cases hcb : op.c = 2
            · rw [hcb] at HU HQU e0 hc1'
              clear hc hcb hER hCU hPO hc1'
              have ho4 := ok21_pg HWI.out.2 op.a op.p op.b
              have hw4 := HWI.out.1.pg op.a op.p op.b
              have hg4 := gr21_pg S op.a op.p op.b
              generalize pgE21 S op.a op.p op.b.length = EE at *
              generalize pgS21 S op.a op.p op.b = SS at *
              go_wp2_with fail
              rw [HU.out, HGU.out]
              refine hPG.mono ?_
              rintro e w4 ⟨rfl, hn4⟩
              clear hPG
              go_wp2_with fail
              go_roundw
              case rel => exact ⟨i + 1, by omega, by go_num, HNX.out _ _ hn4 ho4 hw4 hg4⟩
              case measure => simp [intOf]; omega
            · have hc2' : (op.c == 2) = false := by simp [hcb]
              by_cases hcc : op.c = 4
              · rw [hcc] at HU HQU e0 hc1' hc2'
                clear hc hcb hcc hER hPG hPO hc1' hc2'
                have ho4 := ok21_cu HWI.out.2 op.n HOF.out.n op.b
                have hw4 := HWI.out.1.cu op.n op.b
                have hg4 := gr21_cu S op.n op.b
                generalize cuE21 S op.n op.b.length = EE at *
                generalize cuS21 S op.n op.b = SS at *
                go_wp2_with fail
                rw [HU.out, HGU.out]
                refine hCU.mono ?_
                rintro e w4 ⟨rfl, hn4⟩
                clear hCU
                go_wp2_with fail
                go_roundw
                case rel => exact ⟨i + 1, by omega, by go_num, HNX.out _ _ hn4 ho4 hw4 hg4⟩
                case measure => simp [intOf]; omega
              · have hc3' : (op.c == 4) = false := by simp [hcc]
                by_cases hcd : op.c = 5
                · rw [hcd] at HU HQU e0 hc1' hc2' hc3'
                  clear hc hcb hcc hcd hER hPG hCU hc1' hc2' hc3'
                  have ho4 := ok21_po HWI.out.2
                  have hw4 := HWI.out.1.po
                  have hg4 : Gr21 S { S with on := true } := ⟨rfl, rfl, Nat.le_refl _, Nat.le_succ _⟩
                  generalize ({ S with on := true } : Fs21) = SS at *
                  go_wp2_with fail
                  rw [HU.out]
                  refine hPO.mono ?_
                  rintro e w4 ⟨rfl, hn4⟩
                  clear hPO
                  go_wp2_with fail
                  go_roundw
                  case rel => exact ⟨i + 1, by omega, by go_num, HNX.out _ _ hn4 ho4 hw4 hg4⟩
                  case measure => simp [intOf]; omega
                · have hc4' : (op.c == 5) = false := by simp [hcd]
                  clear hER hPG hCU hPO hc hcb hcc hcd
                  have hn4 := HFU.out.1.stay (Below.refl _ _)
                  have HN4 : Hid (Fn21 u u b F S) := hn4
                  clear hn4
                  go_wp2_with fail
                  rw [HU.out]
                  go_roundw
                  case rel => exact ⟨i + 1, by omega, by go_num, HNX.out _ _ HN4.out HWI.out.2 HWI.out.1 (gr21_refl S)⟩
                  case measure => simp [intOf]; omega
        · obtain rfl : i = len := by omega
          have hii : ¬ (i : Int) < (i : Int) := by omega
          clear HWE hi
          obtain ⟨⟨F, S, hF, hO, hWi, hpg, hps, hlg, hFw⟩, hB⟩ := hW
          have hz := zv21
          obtain ⟨gz, hgz⟩ : ∃ gz, gz = wr.heap.size := ⟨_, rfl⟩
          obtain ⟨w4, hw4⟩ : ∃ w4, w4 = wr.alloc (.cells (zr21 12288).toArray 57) := ⟨_, rfl⟩
          have HW4 : Hid (wr.alloc (.cells (zr21 12288).toArray 57) = w4 ∧ wr.heap.size = gz) := ⟨hw4.symm, hgz.symm⟩
          have b4 : Below wr.heap.size wr w4 := by rw [hw4]; exact (Below.refl _ _).alloc (Nat.le_refl _) _
          have q4 : w4.heap[gz]? = some (.cells (cl21 (ct21 [])).toArray 57 (0, 0)) := by
            rw [hw4, hgz, ct21_nil, ← cl21_zero]; exact heap_alloc_new _ _
          have hs4 : w4.heap.size = gz + 1 := by rw [hw4, hgz]; simp
          have hF4 := hF.old b4
          have hFz : ∀ k, F k → k < gz := fun k e => by
            obtain ⟨_, _, _, _, _, _, _, _, _, _, _, _, _, h6⟩ := hF
            rw [hgz]; exact h6 k e
          have hB4 : Below w1.heap.size w1 w4 := hB.trans (b4.mono hB.size)
          have HLOG := plog21 hF4 hO (by omega)
          obtain ⟨LN, hLN⟩ : ∃ LN, LN = S.lg.length := ⟨_, rfl⟩
          rw [← hLN] at HLOG
          have HKK : Hid (Fl21 w4 b F S ∧ Ok21 S ∧ Wi21 lim S ∧ S.pg = PN ∧ S.ps = QN ∧ (∀ k, F k → k < gz) ∧ (∀ k, F k → w1.heap.size ≤ k) ∧ Below w1.heap.size w1 w4 ∧ w4.heap.size = gz + 1 ∧ LN = S.lg.length ∧ LN ≤ i ∧ w1.heap.size ≤ gz) := ⟨hF4, hO, hWi, hpg, hps, hFz, hFw, hB4, hs4, hLN, by omega, by have := hB.size; omega⟩
          have HQ4 : Hid (w4.heap[gz]? = some (.cells (cl21 (ct21 [])).toArray 57 (0, 0))) := q4
          clear hF hO hWi hpg hps hlg hFw hB hgz hw4 b4 q4 hs4 hF4 hFz hB4 hLN
          go_wp2_with fail
          (try rw [HW4.out.1])
          (try rw [HW4.out.2])
          clear hz
          refine HLOG.mono ?_
          rintro e w5 ⟨⟨ra, rc, rfl, hown⟩, b5⟩
          obtain ⟨kk1, kk2, kk3, kk4, kk5, kk6, kk7, kk8, kk9, kk10, kk11, kk12⟩ := HKK.out
          have q5 := (b5.block gz (by omega)).trans HQ4.out
          have hrow : ∀ j, j < LN → ∃ gr o, S.lg[j]? = some o ∧ ra = some ⟨gr, 0, none⟩ ∧ gz < gr ∧ gr < w5.heap.size ∧ (∀ V : World, V.heap[gr]? = w5.heap[gr]? → V.cell? ⟨gr, j * 3, none⟩ = some (.int .i64 o.1) ∧ V.cell? ⟨gr, j * 3 + 1, none⟩ = some (.int .i64 o.2.1) ∧ V.cell? ⟨gr, j * 3 + 2, none⟩ = some (.int .i64 o.2.2)) ∧ Or21 QN o := fun j hj => by
            have hj' : j < S.lg.length := by omega
            obtain ⟨gr, hgr1, hgr2⟩ : ∃ gr, ra = some ⟨gr, 0, none⟩ ∧ w4.heap.size ≤ gr := by
              rcases hown.2 with ⟨h1, h2⟩ | ⟨gr, cp, cur, h1, h2, _⟩
              · omega
              · simp only [Value.slice.injEq] at h1
                exact ⟨gr, h1.1, h2⟩
            subst hgr1
            obtain ⟨l1, l2, l3⟩ := lgc21_get S.lg j S.lg[j] (List.getElem?_eq_getElem hj')
            have hadd : ∀ k, (⟨gr, 0, none⟩ : Addr).add k = ⟨gr, k, none⟩ := by intro k; unfold Addr.add; split <;> simp_all
            have m1 := hown.cells (g := gr) rfl _ _ l1
            have m2 := hown.cells (g := gr) rfl _ _ l2
            have m3 := hown.cells (g := gr) rfl _ _ l3
            rw [hadd] at m1 m2 m3
            refine ⟨gr, S.lg[j], List.getElem?_eq_getElem hj', rfl, by omega, World.block_lt_of_cell? _ _ m1, fun V hV => ?_, ?_⟩
            · exact ⟨(World.cell?_of_block (a := ⟨gr, j * 3, none⟩) hV).trans m1, (World.cell?_of_block (a := ⟨gr, j * 3 + 1, none⟩) hV).trans m2, (World.cell?_of_block (a := ⟨gr, j * 3 + 2, none⟩) hV).trans m3⟩
            · rw [← kk5]; exact kk3.lg _ (List.getElem_mem hj')
          have HROW : Hid (∀ j, j < LN → ∃ gr o, S.lg[j]? = some o ∧ ra = some ⟨gr, 0, none⟩ ∧ gz < gr ∧ gr < w5.heap.size ∧ (∀ V : World, V.heap[gr]? = w5.heap[gr]? → V.cell? ⟨gr, j * 3, none⟩ = some (.int .i64 o.1) ∧ V.cell? ⟨gr, j * 3 + 1, none⟩ = some (.int .i64 o.2.1) ∧ V.cell? ⟨gr, j * 3 + 2, none⟩ = some (.int .i64 o.2.2)) ∧ Or21 QN o) := hrow
          have HB5 : Hid (Below w4.heap.size w4 w5 ∧ gz < w5.heap.size) := ⟨b5, by have := b5.size; omega⟩
          have HQ5 : w5.heap[gz]? = some (.cells (cl21 (ct21 (S.lg.take 0))).toArray 57 (0, 0)) := by simpa using q5
          clear hown b5 q5 hrow kk1 kk2 kk3 kk4 kk5 kk6 kk7 kk8 kk9 kk10 kk11 kk12 HLOG
          go_wp2_with fail
          go_loopw [117] (fun tj wv => ∃ j : Nat, j ≤ LN ∧ tj = .int .i64 (j : Int) ∧ Kp (fun k => k = gz) w5 wv ∧ wv.heap[gz]? = some (.cells (cl21 (ct21 (S.lg.take j))).toArray 57 (0, 0))) (fun tj _ => LN - (intOf tj).toNat)
          case atStart => exact ⟨0, by omega, rfl, Kp.refl _ _, HQ5⟩
          case round =>
            obtain ⟨j, hjn, rfl, hK, hqv⟩ := hrel
            obtain ⟨kk1, kk2, kk3, kk4, kk5, kk6, kk7, kk8, kk9, kk10, kk11, kk12⟩ := HKK.out
            by_cases hj : j < LN
            · have hji : (j : Int) < (LN : Int) := by omega
              have hjw : IntKind.i64.wrap ((j : Int) + 1) = ((j + 1 : Nat) : Int) := by rw [IntWalk.i64_in _ (by omega)]; omega
              obtain ⟨gr, o, ho, hra, hg1, hg2, hcs, hor⟩ := HROW.out j hj
              obtain ⟨d0, d1, d2⟩ := hcs wr (hK.block gr hg2 (by omega))
              have htk : S.lg.take (j + 1) = S.lg.take j ++ [o] := by
                rw [List.take_add_one, ho]; rfl
              obtain ⟨kd, ax, py⟩ := o
              obtain ⟨o1, o2, o3, o4⟩ := hor
              simp only at d0 d1 d2 o1 o2 o3 o4
              obtain ⟨A, rfl⟩ := Int.eq_ofNat_of_zero_le o1
              obtain ⟨Y, rfl⟩ := Int.eq_ofNat_of_zero_le o3
              have hbd := pn21_bd QN (A : Int) (by have := HPQ.out; omega)
              have hY : Y < 4096 := by omega
              have hA : A < 3 := by omega
              have hqq := HQ.out wr (kk8.trans ((HB5.out.1.mono (by omega)).trans (hK.below (fun k e => by omega) (by have := HB5.out.1.size; omega))))
              have hYQ : su.q ≤ (Y : Int) → ¬ (2 : Int) ≤ (Y : Int) := fun h => by
                have := HPQ.out
                unfold pn21 at o4
                rw [if_neg (by omega)] at o4
                split at o4 <;> omega
              have hct := ct21_one (S.lg.take j) kd A Y hY
              rw [← htk] at hct
              subst hra
              obtain ⟨x, hx⟩ : ∃ x, x = A * 4096 + Y := ⟨_, rfl⟩
              obtain ⟨cx, cf⟩ := cell_cl21 hqv x (by omega)
              have HCT : Hid (ct21 (S.lg.take (j + 1)) = fun jj => if jj = A * 4096 + Y ∧ kd = 1 then ct21 (S.lg.take j) jj + 1 else ct21 (S.lg.take j) jj) := hct
              have hle : ct21 (S.lg.take j) x ≤ 4398046511104 := by
                have := ec21_le (S.lg.take j) ((x / 4096 : Nat) : Int) ((x % 4096 : Nat) : Int)
                have h2 : (S.lg.take j).length ≤ j := by simp; omega
                unfold ct21; omega
              obtain ⟨cv, hcv⟩ : ∃ cv, cv = ct21 (S.lg.take j) x := ⟨_, rfl⟩
              rw [← hcv] at cx hle
              have HK : Hid (Kp (fun k => k = gz) w5 wr ∧ wr.heap[gz]? = some (.cells (cl21 (ct21 (S.lg.take j))).toArray 57 (0, 0)) ∧ x = A * 4096 + Y ∧ cv = ct21 (S.lg.take j) x) := ⟨hK, hqv, hx, hcv⟩
              have hwz : gz < wr.heap.size := (Array.getElem?_eq_some_iff.1 hqv).1
              obtain ⟨u, hu⟩ : ∃ u, u = wr.alloc (.cells #[.int .i64 kd, .int .i64 (A : Int), .int .i64 (Y : Int)] 50) := ⟨_, rfl⟩
              have HU : Hid (wr.alloc (.cells #[.int .i64 kd, .int .i64 (A : Int), .int .i64 (Y : Int)] 50) = u) := hu.symm
              have bu : Below wr.heap.size wr u := by rw [hu]; exact (Below.refl _ _).alloc (Nat.le_refl _) _
              have qu : u.heap[wr.heap.size]? = some (.cells #[.int .i64 kd, .int .i64 (A : Int), .int .i64 (Y : Int)] 50 (0, 0)) := by rw [hu]; exact heap_alloc_new _ _
              have HBU : Hid (Below wr.heap.size wr u) := bu
              have HQU : Hid (u.heap[wr.heap.size]? = some (.cells #[.int .i64 kd, .int .i64 (A : Int), .int .i64 (Y : Int)] 50 (0, 0))) := qu
              have hgw : gr < wr.heap.size := Nat.lt_of_lt_of_le hg2 hK.size
              have hg0w : g0 < wr.heap.size := by have := HB1.out.2; omega
              have hA0 : ¬ (A : Int) < 0 := by omega
              have hA2 : ¬ (2 : Int) < (A : Int) := by omega
              have hY0 : ¬ (Y : Int) < 0 := by omega
              clear hcs htk hct hqv hu bu qu hK hbd o1 o2 o3 kk1 kk2 kk3 kk4 kk5 kk6 kk7 kk8 kk9 kk10 kk11 kk12 HQ5
              have hq1 : wr.cell? ⟨g0, 1, none⟩ = some (.int .i64 su.q) := hqq
              rw [hx] at cx cf
              have hA3 : (A : Int) < 3 := by omega
              have hY4 : (Y : Int) < 4096 := by omega
              have hA0' : (0 : Int) ≤ (A : Int) := by omega
              have hY0' : (0 : Int) ≤ (Y : Int) := by omega
              have hcw : IntKind.i64.wrap ((cv : Int) + 1) = ((cv + 1 : Nat) : Int) := by rw [IntWalk.i64_in _ (by omega)]; omega
              have HEND1 : Hid (kd = 1 → Kp (fun k => k = gz) w5 (u.setCell ⟨gz, A * 4096 + Y, none⟩ (.int .i64 ((cv + 1 : Nat) : Int))) ∧ (u.setCell ⟨gz, A * 4096 + Y, none⟩ (.int .i64 ((cv + 1 : Nat) : Int))).heap[gz]? = some (.cells (cl21 (ct21 (S.lg.take (j + 1)))).toArray 57 (0, 0))) := fun hk => by
                have h1 := (HBU.out.block gz hwz).trans HK.out.2.1
                have h2 := set_cl21 h1 (A * 4096 + Y) (cv + 1)
                refine ⟨(HK.out.1.trans (Kp.of_below (S := fun k => k = gz) HBU.out) (fun _ _ e => e)).trans (Kp.set (S := fun k => k = gz) rfl _) (fun _ _ e => e), ?_⟩
                have h3 := HK.out.2.2
                have h4 : (fun jj => if jj = A * 4096 + Y then cv + 1 else ct21 (S.lg.take j) jj) = ct21 (S.lg.take (j + 1)) := by
                  rw [HCT.out]
                  funext jj
                  by_cases e : jj = A * 4096 + Y
                  · subst e; rw [if_pos rfl, if_pos ⟨rfl, hk⟩, h3.2, h3.1]
                  · rw [if_neg e, if_neg (fun h => e h.1)]
                rw [h2, h4]
              have HEND2 : Hid (¬ kd = 1 → Kp (fun k => k = gz) w5 u ∧ u.heap[gz]? = some (.cells (cl21 (ct21 (S.lg.take (j + 1)))).toArray 57 (0, 0))) := fun hk => by
                have h1 := (HBU.out.block gz hwz).trans HK.out.2.1
                refine ⟨HK.out.1.trans (Kp.of_below (S := fun k => k = gz) HBU.out) (fun _ _ e => e), ?_⟩
                have h4 : ct21 (S.lg.take j) = ct21 (S.lg.take (j + 1)) := by
                  rw [HCT.out]
                  funext jj
                  rw [if_neg (fun h => hk h.2)]
                rw [h1, h4]
              have HYQ : Hid (su.q ≤ (Y : Int) → ¬ (2 : Int) ≤ (Y : Int)) := hYQ
              obtain ⟨gu, hgu⟩ : ∃ gu, gu = wr.heap.size := ⟨_, rfl⟩
              have HGU : Hid (wr.heap.size = gu) := hgu.symm
              have hqu := HQU.out
              rw [← hgu] at hqu
              have huz : u.cell? ⟨gz, A * 4096 + Y, none⟩ = some (.int .i64 (cv : Int)) := (HBU.out.cell (p := ⟨gz, A * 4096 + Y, none⟩) hwz).trans cx
              have huf : u.frozen? ⟨gz, A * 4096 + Y, none⟩ = false := by
                have h1 := (HBU.out.block gz hwz).trans HK.out.2.1
                exact (cell_cl21 h1 _ (by omega)).2
              have HS : Hid (u.drew.cell? ⟨gu, 1, none⟩ = some (.int .i64 (A : Int)) ∧ u.drew.cell? ⟨gu, 2, none⟩ = some (.int .i64 (Y : Int)) ∧ u.drew.cell? ⟨gz, A * 4096 + Y, none⟩ = some (.int .i64 (cv : Int))) := ⟨three_cell1 hqu, three_cell2 hqu, huz⟩
              have HUF : Hid (u.drew.frozen? ⟨gz, A * 4096 + Y, none⟩ = false) := huf
              clear hYQ hqq hx hcv hle cx cf hqu huz huf hgu
              by_cases hyq : su.q ≤ (Y : Int)
              · have hy2 := HYQ.out hyq
                by_cases hkd : kd = 1
                · subst hkd
                  go_wp2_with fail
                  rw [HU.out, HGU.out]
                  refine plain_region16 (fun V => V.cell? ⟨gu, 1, none⟩ = some (.int .i64 (A : Int)) ∧ V.cell? ⟨gu, 2, none⟩ = some (.int .i64 (Y : Int)) ∧ V.cell? ⟨gz, A * 4096 + Y, none⟩ = some (.int .i64 (cv : Int))) 10 (by kernel_rfl) HS.out (fun hHeld => ?_)
                  refine wpAnyK_take (i := 0) (v := .pointer (some ⟨gu, 1, none⟩)) rfl (by kernel_rfl) (by kernel_rfl) (by kernel_rfl) (by kernel_rfl) (fun _ _ _ h => h) (Or.inl ⟨by rfl, fun w hSw => by go_simp⟩) hHeld ?_
                  simp only [List.getElem_toArray, List.getElem_cons_zero, Act.put, List.setIfInBounds_toArray, List.set_cons_zero, List.set_cons_succ]
                  refine wpAnyK_take (i := 1) (v := .int .i64 (A : Int)) rfl (by kernel_rfl) (by kernel_rfl) (by kernel_rfl) (by kernel_rfl) (fun _ _ _ h => h) (Or.inl ⟨by rfl, fun w hSw => by go_simp⟩) hHeld ?_
                  simp only [List.getElem_toArray, List.getElem_cons_zero, List.getElem_cons_succ, Act.put, List.setIfInBounds_toArray, List.set_cons_zero, List.set_cons_succ]
                  refine wpAnyK_take (i := 2) (v := .pointer (some ⟨gu, 2, none⟩)) rfl (by kernel_rfl) (by kernel_rfl) (by kernel_rfl) (by kernel_rfl) (fun _ _ _ h => h) (Or.inl ⟨by rfl, fun w hSw => by go_simp⟩) hHeld ?_
                  simp only [List.getElem_toArray, List.getElem_cons_zero, List.getElem_cons_succ, Act.put, List.setIfInBounds_toArray, List.set_cons_zero, List.set_cons_succ]
                  refine wpAnyK_take (i := 3) (v := .int .i64 (Y : Int)) rfl (by kernel_rfl) (by kernel_rfl) (by kernel_rfl) (by kernel_rfl) (fun _ _ _ h => h) (Or.inl ⟨by rfl, fun w hSw => by go_simp⟩) hHeld ?_
                  simp only [List.getElem_toArray, List.getElem_cons_zero, List.getElem_cons_succ, Act.put, List.setIfInBounds_toArray, List.set_cons_zero, List.set_cons_succ]
                  refine wpAnyK_take (i := 4) (v := .pointer (some ⟨gz, A * 4096, none⟩)) rfl (by kernel_rfl) (by kernel_rfl) (by kernel_rfl) (by kernel_rfl) (fun _ _ _ h => h) (Or.inl ⟨by rfl, fun w hSw => by go_simp⟩) hHeld ?_
                  simp only [List.getElem_toArray, List.getElem_cons_zero, List.getElem_cons_succ, Act.put, List.setIfInBounds_toArray, List.set_cons_zero, List.set_cons_succ]
                  refine wpAnyK_take (i := 5) (v := .pointer (some ⟨gz, A * 4096 + Y, none⟩)) rfl (by kernel_rfl) (by kernel_rfl) (by kernel_rfl) (by kernel_rfl) (fun _ _ _ h => h) (Or.inl ⟨by rfl, fun w hSw => by go_simp⟩) hHeld ?_
                  simp only [List.getElem_toArray, List.getElem_cons_zero, List.getElem_cons_succ, Act.put, List.setIfInBounds_toArray, List.set_cons_zero, List.set_cons_succ]
                  refine wpAnyK_take (i := 6) (v := .int .i64 (cv : Int)) rfl (by kernel_rfl) (by kernel_rfl) (by kernel_rfl) (by kernel_rfl) (fun _ _ _ h => h) (Or.inl ⟨by rfl, fun w hSw => by go_simp⟩) hHeld ?_
                  simp only [List.getElem_toArray, List.getElem_cons_zero, List.getElem_cons_succ, Act.put, List.setIfInBounds_toArray, List.set_cons_zero, List.set_cons_succ]
                  refine wpAnyK_take (i := 7) (v := .int .i64 ((cv + 1 : Nat) : Int)) rfl (by kernel_rfl) (by kernel_rfl) (by kernel_rfl) (by kernel_rfl) (fun _ _ _ h => h) (Or.inl ⟨by rfl, fun w hSw => by go_simp⟩) hHeld ?_
                  simp only [List.getElem_toArray, List.getElem_cons_zero, List.getElem_cons_succ, Act.put, List.setIfInBounds_toArray, List.set_cons_zero, List.set_cons_succ]
                  refine wpAnyK_one (i := 8) (by kernel_rfl) rfl (fun K hK => ?_)
                  (try simp only [List.getElem_toArray, List.getElem_cons_zero, List.getElem_cons_succ, Act.put, List.setIfInBounds_toArray, List.set_cons_zero, List.set_cons_succ])
                  go_simp
                  refine hK.out _ _ (fun _ => HS.out) (fun hHeld0 => ?_)
                  have hHeld := hHeld0 (by decide)
                  clear hHeld0 hK K
                  (try simp only [List.getElem_toArray, List.getElem_cons_zero, List.getElem_cons_succ, Act.put, List.setIfInBounds_toArray, List.set_cons_zero, List.set_cons_succ])
                  refine wpAnyK_take (i := 9) (v := .pointer (some ⟨gz, A * 4096 + Y, none⟩)) rfl (by kernel_rfl) (by kernel_rfl) (by kernel_rfl) (by kernel_rfl) (fun _ _ _ h => h) (Or.inl ⟨by rfl, fun w hSw => by go_simp⟩) hHeld ?_
                  simp only [List.getElem_toArray, List.getElem_cons_zero, List.getElem_cons_succ, Act.put, List.setIfInBounds_toArray, List.set_cons_zero, List.set_cons_succ]
                  have huf := HUF.out
                  have huc := hHeld.2.2
                  refine wpAnyK_one (i := 10) (by kernel_rfl) rfl (fun K hK => ?_)
                  (try simp only [List.getElem_toArray, List.getElem_cons_zero, List.getElem_cons_succ, Act.put, List.setIfInBounds_toArray, List.set_cons_zero, List.set_cons_succ])
                  go_simp
                  refine hK.out _ _ (fun h => absurd rfl h) (fun _ => ?_)
                  clear hK K
                  (try simp only [List.getElem_toArray, List.getElem_cons_zero, List.getElem_cons_succ, Act.put, List.setIfInBounds_toArray, List.set_cons_zero, List.set_cons_succ])
                  refine wpAnyK_done (by kernel_rfl) ?_ _
                  go_wp2_with fail
                  go_roundw
                  case rel =>
                    have h := HEND1.out (by first | trivial | rfl)
                    exact ⟨j + 1, by omega, by go_num, ⟨h.1.os, h.1.tape, h.1.output, h.1.size, h.1.block⟩, h.2⟩
                  case measure => simp [intOf]; omega
                · have hkd' : (kd == 1) = false := by simp [hkd]
                  go_wp2_with fail
                  (try rw [HU.out])
                  go_roundw
                  case rel => exact ⟨j + 1, by omega, by go_num, HEND2.out hkd⟩
                  case measure => simp [intOf]; omega
              · by_cases hkd : kd = 1
                · subst hkd
                  go_wp2_with fail
                  rw [HU.out, HGU.out]
                  refine plain_region16 (fun V => V.cell? ⟨gu, 1, none⟩ = some (.int .i64 (A : Int)) ∧ V.cell? ⟨gu, 2, none⟩ = some (.int .i64 (Y : Int)) ∧ V.cell? ⟨gz, A * 4096 + Y, none⟩ = some (.int .i64 (cv : Int))) 10 (by kernel_rfl) HS.out (fun hHeld => ?_)
                  refine wpAnyK_take (i := 0) (v := .pointer (some ⟨gu, 1, none⟩)) rfl (by kernel_rfl) (by kernel_rfl) (by kernel_rfl) (by kernel_rfl) (fun _ _ _ h => h) (Or.inl ⟨by rfl, fun w hSw => by go_simp⟩) hHeld ?_
                  simp only [List.getElem_toArray, List.getElem_cons_zero, Act.put, List.setIfInBounds_toArray, List.set_cons_zero, List.set_cons_succ]
                  refine wpAnyK_take (i := 1) (v := .int .i64 (A : Int)) rfl (by kernel_rfl) (by kernel_rfl) (by kernel_rfl) (by kernel_rfl) (fun _ _ _ h => h) (Or.inl ⟨by rfl, fun w hSw => by go_simp⟩) hHeld ?_
                  simp only [List.getElem_toArray, List.getElem_cons_zero, List.getElem_cons_succ, Act.put, List.setIfInBounds_toArray, List.set_cons_zero, List.set_cons_succ]
                  refine wpAnyK_take (i := 2) (v := .pointer (some ⟨gu, 2, none⟩)) rfl (by kernel_rfl) (by kernel_rfl) (by kernel_rfl) (by kernel_rfl) (fun _ _ _ h => h) (Or.inl ⟨by rfl, fun w hSw => by go_simp⟩) hHeld ?_
                  simp only [List.getElem_toArray, List.getElem_cons_zero, List.getElem_cons_succ, Act.put, List.setIfInBounds_toArray, List.set_cons_zero, List.set_cons_succ]
                  refine wpAnyK_take (i := 3) (v := .int .i64 (Y : Int)) rfl (by kernel_rfl) (by kernel_rfl) (by kernel_rfl) (by kernel_rfl) (fun _ _ _ h => h) (Or.inl ⟨by rfl, fun w hSw => by go_simp⟩) hHeld ?_
                  simp only [List.getElem_toArray, List.getElem_cons_zero, List.getElem_cons_succ, Act.put, List.setIfInBounds_toArray, List.set_cons_zero, List.set_cons_succ]
                  refine wpAnyK_take (i := 4) (v := .pointer (some ⟨gz, A * 4096, none⟩)) rfl (by kernel_rfl) (by kernel_rfl) (by kernel_rfl) (by kernel_rfl) (fun _ _ _ h => h) (Or.inl ⟨by rfl, fun w hSw => by go_simp⟩) hHeld ?_
                  simp only [List.getElem_toArray, List.getElem_cons_zero, List.getElem_cons_succ, Act.put, List.setIfInBounds_toArray, List.set_cons_zero, List.set_cons_succ]
                  refine wpAnyK_take (i := 5) (v := .pointer (some ⟨gz, A * 4096 + Y, none⟩)) rfl (by kernel_rfl) (by kernel_rfl) (by kernel_rfl) (by kernel_rfl) (fun _ _ _ h => h) (Or.inl ⟨by rfl, fun w hSw => by go_simp⟩) hHeld ?_
                  simp only [List.getElem_toArray, List.getElem_cons_zero, List.getElem_cons_succ, Act.put, List.setIfInBounds_toArray, List.set_cons_zero, List.set_cons_succ]
                  refine wpAnyK_take (i := 6) (v := .int .i64 (cv : Int)) rfl (by kernel_rfl) (by kernel_rfl) (by kernel_rfl) (by kernel_rfl) (fun _ _ _ h => h) (Or.inl ⟨by rfl, fun w hSw => by go_simp⟩) hHeld ?_
                  simp only [List.getElem_toArray, List.getElem_cons_zero, List.getElem_cons_succ, Act.put, List.setIfInBounds_toArray, List.set_cons_zero, List.set_cons_succ]
                  refine wpAnyK_take (i := 7) (v := .int .i64 ((cv + 1 : Nat) : Int)) rfl (by kernel_rfl) (by kernel_rfl) (by kernel_rfl) (by kernel_rfl) (fun _ _ _ h => h) (Or.inl ⟨by rfl, fun w hSw => by go_simp⟩) hHeld ?_
                  simp only [List.getElem_toArray, List.getElem_cons_zero, List.getElem_cons_succ, Act.put, List.setIfInBounds_toArray, List.set_cons_zero, List.set_cons_succ]
                  refine wpAnyK_one (i := 8) (by kernel_rfl) rfl (fun K hK => ?_)
                  (try simp only [List.getElem_toArray, List.getElem_cons_zero, List.getElem_cons_succ, Act.put, List.setIfInBounds_toArray, List.set_cons_zero, List.set_cons_succ])
                  go_simp
                  refine hK.out _ _ (fun _ => HS.out) (fun hHeld0 => ?_)
                  have hHeld := hHeld0 (by decide)
                  clear hHeld0 hK K
                  (try simp only [List.getElem_toArray, List.getElem_cons_zero, List.getElem_cons_succ, Act.put, List.setIfInBounds_toArray, List.set_cons_zero, List.set_cons_succ])
                  refine wpAnyK_take (i := 9) (v := .pointer (some ⟨gz, A * 4096 + Y, none⟩)) rfl (by kernel_rfl) (by kernel_rfl) (by kernel_rfl) (by kernel_rfl) (fun _ _ _ h => h) (Or.inl ⟨by rfl, fun w hSw => by go_simp⟩) hHeld ?_
                  simp only [List.getElem_toArray, List.getElem_cons_zero, List.getElem_cons_succ, Act.put, List.setIfInBounds_toArray, List.set_cons_zero, List.set_cons_succ]
                  have huf := HUF.out
                  have huc := hHeld.2.2
                  refine wpAnyK_one (i := 10) (by kernel_rfl) rfl (fun K hK => ?_)
                  (try simp only [List.getElem_toArray, List.getElem_cons_zero, List.getElem_cons_succ, Act.put, List.setIfInBounds_toArray, List.set_cons_zero, List.set_cons_succ])
                  go_simp
                  refine hK.out _ _ (fun h => absurd rfl h) (fun _ => ?_)
                  clear hK K
                  (try simp only [List.getElem_toArray, List.getElem_cons_zero, List.getElem_cons_succ, Act.put, List.setIfInBounds_toArray, List.set_cons_zero, List.set_cons_succ])
                  refine wpAnyK_done (by kernel_rfl) ?_ _
                  go_wp2_with fail
                  go_roundw
                  case rel =>
                    have h := HEND1.out (by first | trivial | rfl)
                    exact ⟨j + 1, by omega, by go_num, ⟨h.1.os, h.1.tape, h.1.output, h.1.size, h.1.block⟩, h.2⟩
                  case measure => simp [intOf]; omega
                · have hkd' : (kd == 1) = false := by simp [hkd]
                  go_wp2_with fail
                  (try rw [HU.out])
                  go_roundw
                  case rel => exact ⟨j + 1, by omega, by go_num, HEND2.out hkd⟩
                  case measure => simp [intOf]; omega
            · obtain rfl : j = LN := by omega
              have hji : ¬ (j : Int) < (j : Int) := by omega
              have htk : S.lg.take j = S.lg := List.take_of_length_le (by omega)
              rw [htk] at hqv
              have b45 := HB5.out.1
              have hF6 : Fl21 wr b F S := (kk1.old b45).kp (fun k e => hK.block k (by have := kk6 k e; have := HB5.out.2; omega) (by have := kk6 k e; omega)) hK.size
              have hB6 : Below w1.heap.size w1 wr := kk8.trans ((b45.mono (by omega)).trans (hK.below (fun k e => by omega) (by have := b45.size; omega)))
              have HV : Hid (∀ a p : Nat, a < 3 → p < 4096 → (p : Int) < pn21 QN (a : Int) → weV21 S (a : Int) (p : Int) = (ct21 S.lg (a * 4096 + p) : Int) ∧ ms21 S.ps (a : Int) (p : Int) = 0 ∧ (ct21 S.lg (a * 4096 + p) : Int) ≤ lim) := fun a p ha hp hpn => by
                have hm : ms21 S.ps (a : Int) (p : Int) = 0 := by
                  unfold ms21
                  rw [kk5, if_neg (by omega)]
                have h1 := kk3.wr (a : Int) (p : Int)
                rw [ct21_at S.lg a p hp]
                refine ⟨?_, hm, by omega⟩
                unfold weV21
                rw [if_neg (by simp [hm]), h1.1]
              have HF6 : Hid (Fl21 wr b F S ∧ Ok21 S ∧ Below w1.heap.size w1 wr) := ⟨hF6, kk2, hB6⟩
              have HQV : Hid (wr.heap[gz]? = some (.cells (cl21 (ct21 S.lg)).toArray 57 (0, 0))) := hqv
              obtain ⟨w6, hw6⟩ : ∃ w6, w6 = wr := ⟨_, rfl⟩
              rw [← hw6] at HF6 HQV
              have HW6 : Hid (w6 = wr) := hw6
              clear HQ5 hqv hK htk b45 hF6 hB6 kk1 kk2 kk3 kk4 kk5 kk6 kk7 kk8 kk9 kk10 kk11 kk12 hw6
              go_wp2_with fail
              go_loopw [16] (fun ta wv => ∃ a : Nat, a ≤ 3 ∧ ta = .int .i64 (a : Int) ∧ Below w6.heap.size w6 wv) (fun ta _ => 3 - (intOf ta).toNat)
              case atStart => exact ⟨0, by omega, rfl, by rw [HW6.out]; exact Below.refl _ _⟩
              case round =>
                obtain ⟨a, ha3, rfl, hBa⟩ := hrel
                by_cases ha : a < 3
                · have hai : (a : Int) < 3 := by omega
                  have haw : IntKind.i64.wrap ((a : Int) + 1) = ((a + 1 : Nat) : Int) := by rw [IntWalk.i64_in _ (by omega)]; omega
                  obtain ⟨PA, hPA⟩ : ∃ PA, PA = if a = 2 then 2 else QN := ⟨_, rfl⟩
                  have HPA : Hid (PA = (if a = 2 then 2 else QN) ∧ pn21 QN (a : Int) = (PA : Int) ∧ PA ≤ 4096) := by
                    have h1 := HPQ.out
                    refine ⟨hPA, ?_, ?_⟩
                    · rw [hPA]; unfold pn21; rw [if_neg (by omega)]
                      by_cases h : a = 2
                      · rw [if_pos (by omega), if_pos h]; rfl
                      · rw [if_neg (by omega), if_neg h]
                    · rw [hPA]; split <;> omega
                  have HBA : Hid (Below w6.heap.size w6 wr) := hBa
                  clear hPA hBa
                  by_cases ha2 : a = 2
                  · have HP2 : Hid (PA = 2) := by have := HPA.out.1; rw [if_pos ha2] at this; exact this
                    subst ha2
                    (try rw [show ((2 : Nat) : Int) = 2 from rfl])
                    clear hai haw
                    go_wp2_with fail
                    go_loopw [17] (fun tp wv => ∃ p : Nat, p ≤ PA ∧ tp = .int .i64 (p : Int) ∧ Below w6.heap.size w6 wv) (fun tp _ => PA - (intOf tp).toNat)
                    case atStart => exact ⟨0, by omega, rfl, HBA.out⟩
                    case round =>
                      obtain ⟨p, hpP, rfl, hBp⟩ := hrel
                      have HBP : Hid (Below w6.heap.size w6 wr) := hBp
                      have hqq := HQ.out wr (HF6.out.2.2.trans (hBp.mono HF6.out.2.2.size))
                      have hpw : IntKind.i64.wrap ((p : Int) + 1) = ((p + 1 : Nat) : Int) := by rw [IntWalk.i64_in _ (by have := HPA.out.2.2; omega)]; omega
                      by_cases hp : p < PA
                      · have hp4 : p < 4096 := by have := HPA.out.2.2; omega
                        obtain ⟨v1, v2, v3⟩ := HV.out 2 p (by omega) hp4 (by rw [HPA.out.2.1]; omega)
                        have hWR := pwear21 (HF6.out.1.old hBp) HF6.out.2.1 ((2 : Nat) : Int) (p : Int) ⟨by omega, by omega⟩ ⟨by omega, by omega⟩
                        rw [v1, v2] at hWR
                        obtain ⟨cv, hcv⟩ : ∃ cv, cv = ct21 S.lg (2 * 4096 + p) := ⟨_, rfl⟩
                        rw [← hcv] at hWR v3
                        have HCV : Hid (∀ V : World, Below w6.heap.size w6 V → V.cell? ⟨gz, 2 * 4096 + p, none⟩ = some (.int .i64 (cv : Int))) := fun V hV => by
                          have h1 := (hV.block gz (Array.getElem?_eq_some_iff.1 HQV.out).1).trans HQV.out
                          rw [hcv]; exact (cell_cl21 h1 _ (by omega)).1
                        have v3' : ¬ (lim : Int) < (cv : Int) := by omega
                        have hpi4 : (p : Int) < 4096 := by omega
                        have hp0 : (0 : Int) ≤ (p : Int) := by omega
                        clear v1 v2 hcv hBp
                        have hWR2 : Calls Try.prog 20 #[.pointer (some ⟨b, 0, none⟩), .int .i64 2, .int .i64 (p : Int)] wr fun e w' => e = .returned (.tuple #[.int .i64 (cv : Int), .int .i64 0]) ∧ Below wr.heap.size wr w' := hWR
                        clear hWR
                        have hp2i : (p : Int) < 2 := by have := HP2.out; omega
                        have hp2' : ¬ (2 : Int) ≤ (p : Int) := by omega
                        by_cases hps : (p : Int) < su.q
                        · go_wp2_with fail
                          refine hWR2.mono ?_
                          rintro e w7 ⟨rfl, b7⟩
                          have b7' : Below w6.heap.size w6 w7 := HBP.out.trans (b7.mono HBP.out.size)
                          have cx := HCV.out w7 b7'
                          have cx2 : w7.cell? ⟨gz, 8192 + p, none⟩ = some (.int .i64 (cv : Int)) := cx
                          clear hWR2
                          go_wp2_with fail
                          go_roundw
                          case rel => exact ⟨p + 1, by omega, by go_num, b7'⟩
                          case measure => simp [intOf]; omega
                        · go_wp2_with fail
                          refine hWR2.mono ?_
                          rintro e w7 ⟨rfl, b7⟩
                          have b7' : Below w6.heap.size w6 w7 := HBP.out.trans (b7.mono HBP.out.size)
                          have cx := HCV.out w7 b7'
                          have cx2 : w7.cell? ⟨gz, 8192 + p, none⟩ = some (.int .i64 (cv : Int)) := cx
                          clear hWR2
                          go_wp2_with fail
                          go_roundw
                          case rel => exact ⟨p + 1, by omega, by go_num, b7'⟩
                          case measure => simp [intOf]; omega
                      · obtain rfl : p = PA := by omega
                        have hp2 := HP2.out
                        subst hp2
                        clear hp hBp
                        by_cases hps : (2 : Int) < su.q
                        · go_wp2_with fail
                          refine ⟨⟨3, by omega, by first | rfl | simp, HBP.out⟩, ?_⟩
                          first | (simp [intOf]; done) | (simp [intOf]; omega)
                        · go_wp2_with fail
                          refine ⟨⟨3, by omega, by first | rfl | simp, HBP.out⟩, ?_⟩
                          first | (simp [intOf]; done) | (simp [intOf]; omega)
                  · have HP1 : Hid (PA = QN) := by have := HPA.out.1; rw [if_neg ha2] at this; exact this
                    have ha2' : ((a : Int) == 2) = false := by simp; omega
                    have ha2'' : ¬ (a : Int) = 2 := by omega
                    have ha0 : (0 : Int) ≤ (a : Int) := by omega
                    go_wp2_with fail
                    go_loopw [17] (fun tp wv => ∃ p : Nat, p ≤ PA ∧ tp = .int .i64 (p : Int) ∧ Below w6.heap.size w6 wv) (fun tp _ => PA - (intOf tp).toNat)
                    case atStart => exact ⟨0, by omega, rfl, HBA.out⟩
                    case round =>
                      obtain ⟨p, hpP, rfl, hBp⟩ := hrel
                      have HBP : Hid (Below w6.heap.size w6 wr) := hBp
                      have hqq := HQ.out wr (HF6.out.2.2.trans (hBp.mono HF6.out.2.2.size))
                      have hpw : IntKind.i64.wrap ((p : Int) + 1) = ((p + 1 : Nat) : Int) := by rw [IntWalk.i64_in _ (by have := HPA.out.2.2; omega)]; omega
                      by_cases hp : p < PA
                      · have hp4 : p < 4096 := by have := HPA.out.2.2; omega
                        obtain ⟨v1, v2, v3⟩ := HV.out a p (by omega) hp4 (by rw [HPA.out.2.1]; omega)
                        have hWR := pwear21 (HF6.out.1.old hBp) HF6.out.2.1 (a : Int) (p : Int) ⟨by omega, by omega⟩ ⟨by omega, by omega⟩
                        rw [v1, v2] at hWR
                        obtain ⟨cv, hcv⟩ : ∃ cv, cv = ct21 S.lg (a * 4096 + p) := ⟨_, rfl⟩
                        rw [← hcv] at hWR v3
                        have HCV : Hid (∀ V : World, Below w6.heap.size w6 V → V.cell? ⟨gz, a * 4096 + p, none⟩ = some (.int .i64 (cv : Int))) := fun V hV => by
                          have h1 := (hV.block gz (Array.getElem?_eq_some_iff.1 HQV.out).1).trans HQV.out
                          rw [hcv]; exact (cell_cl21 h1 _ (by omega)).1
                        have v3' : ¬ (lim : Int) < (cv : Int) := by omega
                        have hpi4 : (p : Int) < 4096 := by omega
                        have hp0 : (0 : Int) ≤ (p : Int) := by omega
                        clear v1 v2 hcv hBp
                        have hps : (p : Int) < su.q := by have := HP1.out; have := HPQ.out; omega
                        go_wp2_with fail
                        refine hWR.mono ?_
                        rintro e w7 ⟨rfl, b7⟩
                        have b7' : Below w6.heap.size w6 w7 := HBP.out.trans (b7.mono HBP.out.size)
                        have cx := HCV.out w7 b7'
                        clear hWR
                        go_wp2_with fail
                        go_roundw
                        case rel => exact ⟨p + 1, by omega, by go_num, b7'⟩
                        case measure => simp [intOf]; omega
                      · obtain rfl : p = PA := by omega
                        have hps : ¬ (p : Int) < su.q := by have := HP1.out; have := HPQ.out; omega
                        clear hp hBp
                        go_wp2_with fail
                        refine ⟨⟨a + 1, by omega, by first | rfl | simp, HBP.out⟩, ?_⟩
                        first | (simp [intOf]; done) | (simp [intOf]; omega)
                · obtain rfl : a = 3 := by omega
                  have hai : ¬ ((3 : Nat) : Int) < 3 := by omega
                  have HBA : Hid (Below w6.heap.size w6 wr) := hBa
                  clear hBa
                  go_wp2_with fail
                  refine (HLV.out _).mono ?_
                  rintro e w7 ⟨rfl, b7⟩
                  go_wp2_with fail
                  go_ret
                  have h1 := HF6.out.2.2.trans (HBA.out.mono HF6.out.2.2.size)
                  have h2 := HB1.out
                  have h3 := h1.size
                  exact ⟨rfl, (h2.1.trans (h1.mono (by have := h2.1.size; omega))).trans (b7.mono (by have := h2.1.size; omega))⟩
end Go.Proofs.Ytelohdakfiibaaa
