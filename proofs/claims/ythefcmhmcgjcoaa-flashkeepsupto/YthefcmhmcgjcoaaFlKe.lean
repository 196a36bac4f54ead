
import Derived.Test.YthefcmhmcgjcoaaFlY
import Derived.Test.YthefcmhmcgjcoaaFlKb
import Derived.Test.YthefcmhmcgjcoaaFlQ
import Derived.Test.YthefcmhmcgjcoaaFlV
import Derived.Test.YthefcmhmcgjcoaaOpenFl
import Derived.Test.YthefcmhmcgjcoaaSame
import Derived.Test.YthefcmhmcgjcoaaLend
import Derived.Deep.CutBlock
import Derived.Deep.RegionHeld3
namespace Go.Proofs.Ythefcmhmcgjcoaa
open Go.RowKit Go.Shelf Go.Deep
set_option linter.unusedVariables false
set_option linter.unusedSimpArgs false
set_option maxRecDepth 1000000

/-! FlashKeeps. -/
set_option maxRecDepth 100000 in
set_option maxHeartbeats 64000000 in
theorem flashKeeps_walk (w : World) (su : Su21) (fs : Sf21 w su) (sa : Option Addr) (len cap : Nat) (O : Nat → Oq21) (so : Ss21 w sa len O) (hlen : len ≤ 1048576 ∧ ∀ i, i < len → (O i).b.length ≤ 1048576) :
    Calls Try.prog 3 #[.agg #[.int .i64 su.p, .int .i64 su.q, .int .i64 su.ac, .slice su.a0 su.l0.length su.k0, .slice su.a1 su.l1.length su.k1], .slice sa len cap] w fun e w' => e = .returned (.bool true) ∧ Below w.heap.size w w' := by
  have HLV : Hid (∀ W : World, Calls Try.prog 6 #[] W fun e w' => e = .returned (.bool true) ∧ Below W.heap.size W w') := plives21
  obtain ⟨hlen, hlb⟩ := hlen
  have HLB : Hid (∀ i, i < len → (O i).b.length ≤ 1048576) := hlb
  clear hlb
  obtain ⟨w1, hw1⟩ : ∃ w1, w1 = w.alloc (.cells #[.int .i64 su.p, .int .i64 su.q, .int .i64 su.ac, .slice su.a0 su.l0.length su.k0, .slice su.a1 su.l1.length su.k1] 24) := ⟨_, rfl⟩
  have HW1 : Hid (w.alloc (.cells #[.int .i64 su.p, .int .i64 su.q, .int .i64 su.ac, .slice su.a0 su.l0.length su.k0, .slice su.a1 su.l1.length su.k1] 24) = w1) := hw1.symm
  have b1 : Below w.heap.size w w1 := by rw [hw1]; exact (Below.refl _ _).alloc (Nat.le_refl _) _
  have q1 : w1.heap[w.heap.size]? = some (.cells #[.int .i64 su.p, .int .i64 su.q, .int .i64 su.ac, .slice su.a0 su.l0.length su.k0, .slice su.a1 su.l1.length su.k1] 24 (0, 0)) := by rw [hw1]; exact heap_alloc_new _ _
  obtain ⟨g0, hg0⟩ : ∃ g0, g0 = w.heap.size := ⟨_, rfl⟩
  have HG0 : Hid (w.heap.size = g0) := hg0.symm
  have hs1 : w1.heap.size = g0 + 1 := by rw [hw1, hg0]; simp
  rw [← hg0] at q1
  have HN := pnew21 (w := w1) su.p su.q su.ac fs.p fs.q su.a0 su.a1 su.l0 su.l1 su.l0.length su.l1.length su.k0 su.k1 (fs.s0.old b1) (fs.s1.old b1) rfl rfl fs.z0 fs.z1
  have HQ : Hid (∀ V : World, Below w1.heap.size w1 V → V.cell? ⟨g0, 0, none⟩ = some (.int .i64 su.p) ∧ V.cell? ⟨g0, 1, none⟩ = some (.int .i64 su.q) ∧ V.cell? ⟨g0, 2, none⟩ = some (.int .i64 su.ac) ∧ V.cell? ⟨g0, 3, none⟩ = some (.slice su.a0 su.l0.length su.k0) ∧ V.cell? ⟨g0, 4, none⟩ = some (.slice su.a1 su.l1.length su.k1)) := fun V hV => by
    have := (hV.block g0 (by omega)).trans q1
    simp [World.cell?, this]
  have HB1 : Hid (Below w.heap.size w w1 ∧ w1.heap.size = g0 + 1) := ⟨b1, hs1⟩
  have HSO : Hid (Ss21 w sa len O) := so
  have c0 : w1.cell? ⟨g0, 0, none⟩ = some (.int .i64 su.p) := by simp [World.cell?, q1]
  have c1 : w1.cell? ⟨g0, 1, none⟩ = some (.int .i64 su.q) := by simp [World.cell?, q1]
  have c2 : w1.cell? ⟨g0, 2, none⟩ = some (.int .i64 su.ac) := by simp [World.cell?, q1]
  have c3 : w1.cell? ⟨g0, 3, none⟩ = some (.slice su.a0 su.l0.length su.k0) := by simp [World.cell?, q1]
  have c4 : w1.cell? ⟨g0, 4, none⟩ = some (.slice su.a1 su.l1.length su.k1) := by simp [World.cell?, q1]
  clear hw1 b1 hg0 hs1 so
  go_enter Try.func3, Try.ntmps3
  go_wp2_with fail
  rw [HW1.out, HG0.out]
  go_wp2_with fail
  refine HN.mono ?_
  rintro e w2 ⟨b2, h2⟩
  have b2' : Below w.heap.size w w2 := HB1.out.1.trans (b2.mono HB1.out.1.size)
  clear HN c0 c1 c2 c3 c4
  rcases h2 with ⟨-, rfl⟩ | ⟨he, b, F, rfl, hF, hFw⟩
  · go_wp2_with fail
    refine (HLV.out _).mono ?_
    rintro e w3 ⟨rfl, b3⟩
    go_wp2_with fail
    go_ret
    exact ⟨rfl, b2'.trans (b3.mono b2'.size)⟩
  have hmb : 64 ≤ su.p ∧ su.p ≤ 4096 ∧ 1 ≤ su.q ∧ su.q ≤ 4096 ∧ 0 ≤ su.ac ∧ su.ac < 2 := by
    unfold nwE21 at he
    by_cases h : mb21 su.p su.q = false ∨ su.ac < 0 ∨ 2 ≤ su.ac
    · rw [if_pos h] at he; omega
    · have h1 : mb21 su.p su.q = true := by
        cases h' : mb21 su.p su.q
        · exact absurd (.inl h') h
        · rfl
      simp [mb21] at h1
      omega
  have hok : Ok21 (nw21 su.p.toNat su.q.toNat su.ac su.l0 su.l1) := ok21_new _ _ _ _ _ (by omega) (by omega) (by omega)
  obtain ⟨PN, hPN⟩ : ∃ PN, PN = su.p.toNat := ⟨_, rfl⟩
  obtain ⟨QN, hQN⟩ : ∃ QN, QN = su.q.toNat := ⟨_, rfl⟩
  rw [← hPN, ← hQN] at hF hok
  have HPQ : Hid ((PN : Int) = su.p ∧ (QN : Int) = su.q ∧ 1 ≤ QN ∧ QN ≤ 4096) := ⟨by omega, by omega, by omega, by omega⟩
  have HKE : Ke21 w1 b PN QN 0 (.slice none 0 0) w2 := ⟨⟨F, _, ⟨hF, hok, wk21_new PN QN su.ac su.l0 su.l1, rfl, rfl, by simp [nw21], hFw, b2⟩, fun h => by simp [nw21] at h⟩, none, 0, 0, rfl⟩
  clear he hmb hPN hQN hok hF hFw b2
  go_wp2_with fail
  go_loopw [7, 51] (fun v ti wr => ∃ i : Nat, i ≤ len ∧ ti = .int .i64 (i : Int) ∧ Ke21 w1 b PN QN i v wr) (fun v ti _ => len - (intOf ti).toNat)
  case atStart => exact ⟨0, by omega, rfl, HKE⟩
  case round =>
    obtain ⟨i, hin, rfl, hK⟩ := hrel
    obtain ⟨⟨F, S, hD, hLA⟩, a7, n7, c7, rfl⟩ := hK
    by_cases hi : i < len
    rotate_left
    · obtain rfl : i = len := by omega
      have hii : ¬ (i : Int) < (i : Int) := by omega
      have HBL : Hid (Below w.heap.size w wr) := HB1.out.1.trans (hD.bl.mono HB1.out.1.size)
      clear HKE hi hD hLA
      go_wp2_with fail
      refine (HLV.out _).mono ?_
      rintro e w3 ⟨rfl, b3⟩
      go_wp2_with fail
      go_ret
      exact ⟨rfl, HBL.out.trans (b3.mono HBL.out.size)⟩
    have hii : (i : Int) < (len : Int) := by omega
    have hiw : IntKind.i64.wrap ((i : Int) + 1) = ((i + 1 : Nat) : Int) := by rw [IntWalk.i64_in _ (by omega)]; omega
    obtain ⟨g, off, hsa, e0, e1, e2, e3, e4⟩ := HSO.out.at_ i hi
    have hof := HSO.out.of i hi
    have hbl := HLB.out i hi
    subst hsa
    have hBw : Below w.heap.size w wr := HB1.out.1.trans (hD.bl.mono (by have := HB1.out.1.size; omega))
    have hgl := World.block_lt_of_cell? w _ e0
    replace e0 := (hBw.cell (p := ⟨g, off + i * 5, none⟩) hgl).trans e0
    replace e1 := (hBw.cell (p := ⟨g, off + i * 5 + 1, none⟩) hgl).trans e1
    replace e2 := (hBw.cell (p := ⟨g, off + i * 5 + 2, none⟩) hgl).trans e2
    replace e3 := (hBw.cell (p := ⟨g, off + i * 5 + 3, none⟩) hgl).trans e3
    replace e4 := (hBw.cell (p := ⟨g, off + i * 5 + 4, none⟩) hgl).trans e4
    generalize O i = op at *
    obtain ⟨u, hu⟩ : ∃ u, u = wr.alloc (.cells #[.int .i64 op.c, .int .i64 op.a, .int .i64 op.p, .int .i64 op.n, .slice op.ba op.b.length op.bc] 36) := ⟨_, rfl⟩
    have HU : Hid (wr.alloc (.cells #[.int .i64 op.c, .int .i64 op.a, .int .i64 op.p, .int .i64 op.n, .slice op.ba op.b.length op.bc] 36) = u) := hu.symm
    have bu : Below wr.heap.size wr u := by rw [hu]; exact (Below.refl _ _).alloc (Nat.le_refl _) _
    have qu : u.heap[wr.heap.size]? = some (.cells #[.int .i64 op.c, .int .i64 op.a, .int .i64 op.p, .int .i64 op.n, .slice op.ba op.b.length op.bc] 36 (0, 0)) := by rw [hu]; exact heap_alloc_new _ _
    have hDu := hD.old bu
    have hNF : ¬ F wr.heap.size := fun e => by have := hD.lt _ e; omega
    obtain ⟨gu, hgu⟩ : ∃ gu, gu = wr.heap.size := ⟨_, rfl⟩
    have HGU : Hid (wr.heap.size = gu ∧ w1.heap.size ≤ gu) := ⟨hgu.symm, by rw [hgu]; exact hD.bl.size⟩
    rw [← hgu] at qu hNF
    have HNU : Hid (gu < u.heap.size ∧ ¬ F gu) := ⟨(Array.getElem?_eq_some_iff.1 qu).1, hNF⟩
    have HQU : Hid (u.heap[gu]? = some (.cells #[.int .i64 op.c, .int .i64 op.a, .int .i64 op.p, .int .i64 op.n, .slice op.ba op.b.length op.bc] 36 (0, 0))) := qu
    have HOF : Hid (Of21 w op ∧ op.b.length ≤ 1048576) := ⟨hof, hbl⟩
    have HSG : Hid (Seg u op.ba op.b) := (hof.sg.old hBw).old bu
    have HD : Hid (De21 w1 b PN QN (2 * i) F S u) := hDu
    have HLA : Hid (S.on = false → ∃ g S0, Value.slice a7 n7 c7 = .slice (some ⟨g, 0, none⟩) 12288 12288 ∧ La21 F S0 12288 g u ∧ Eq21 S0 S) := fun h => by
      obtain ⟨g, S0, h1, h2, h3⟩ := hLA h
      exact ⟨g, S0, h1, h2.old bu, h3⟩
    have HALL := pall21 hDu.fl hDu.ok su (by rw [hDu.pg]; exact HPQ.out.1.symm) (by rw [hDu.ps]; exact HPQ.out.2.1.symm)
    obtain ⟨z0, z1, z2, z3, z4⟩ := HQ.out u hDu.bl
    have HII : Hid (i < len ∧ len ≤ 1048576) := ⟨hi, hlen⟩
    obtain ⟨NL, hNL⟩ : ∃ NL, NL = S.lg.length := ⟨_, rfl⟩
    have HNL : Hid (S.lg.length = NL ∧ NL ≤ 2 * i ∧ NL ≤ 2097152) := ⟨hNL.symm, by rw [hNL]; exact hD.lg, by have := hD.lg; omega⟩
    clear HKE hu bu qu hDu hNF hD hLA hof hbl hBw hgl hgu hi hNL
    go_upto_region 8 with fail
    rw [HU.out, HGU.out.1]
    clear e0 e1 e2 e3 e4
    go_wp2_with fail
    clear z0 z1 z2 z3 z4
    refine HALL.mono ?_
    rintro e w2 ⟨⟨gw, rfl, hAr⟩, b2x⟩
    clear HALL
    have hD2 := HD.out.old b2x
    have hLw : La21 F S (if S.on then 12288 else 0) gw w2 := hAr.la HD.out.lt
    have HOP := pops21 hD2.fl hD2.ok
    rw [HNL.out.1] at HOP
    have HON := pon21 hD2.fl hD2.ok
    have q2 := (b2x.block gu HNU.out.1).trans HQU.out
    have x4 : w2.cell? ⟨gu, 4, none⟩ = some (.slice op.ba op.b.length op.bc) := by simp [World.cell?, q2]
    have HLE := lend_any op.ba op.b op.bc w2 (HSG.out.old b2x) HOF.out.1.nil (by have := HOF.out.2; omega)
    have HD2 : Hid (De21 w1 b PN QN (2 * i) F S w2 ∧ La21 F S (if S.on then 12288 else 0) gw w2 ∧ w2.heap[gu]? = some (.cells #[.int .i64 op.c, .int .i64 op.a, .int .i64 op.p, .int .i64 op.n, .slice op.ba op.b.length op.bc] 36 (0, 0)) ∧ gu < w2.heap.size ∧ (S.on = false → ∃ g S0, Value.slice a7 n7 c7 = .slice (some ⟨g, 0, none⟩) 12288 12288 ∧ La21 F S0 12288 g w2 ∧ Eq21 S0 S)) := ⟨hD2, hLw, q2, (Array.getElem?_eq_some_iff.1 q2).1, fun h => by
      obtain ⟨g, S0, h1, h2, h3⟩ := HLA.out h
      exact ⟨g, S0, h1, h2.old b2x, h3⟩⟩
    have hle0 : ¬ ((op.b.length : Int) + 5) ≤ 0 := by omega
    clear hD2 hLw q2 hAr b2x
    cases hon : S.on
    · as_aux_lemma =>
        rw [hon] at HON
        have HSN : Hid (S.on = false) := hon
        clear hon
        go_wp2_with fail
        refine HOP.mono ?_
        rintro e w2' ⟨rfl, hw2'⟩
        subst w2'
        go_wp2_with fail
        refine HON.mono ?_
        rintro e w2' ⟨rfl, hw2'⟩
        subst w2'
        clear HOP HON
        go_wp2_with fail
        refine HLE.mono ?_
        rintro e w3 ⟨gl, cl, rfl, hol, b3⟩
        clear HLE x4
        obtain ⟨hn3, al, c3, hv3, sl, -, -, -⟩ := own_seg hol (M := 255) (by decide) (lent_bd HSG.out.mem)
        injection hv3 with qv1 qv2 qv3
        subst qv1; subst qv3
        have hsg : Seg w3 (some ⟨gl, 0, none⟩) op.b := by
          have := sl.take op.b.length
          have e : (lentL op.b).take op.b.length = op.b := by unfold lentL; simp
          rw [e] at this
          exact this
        obtain ⟨lo1, lo2, v0, hv0⟩ := own_first21 hol (by omega)
        obtain ⟨hd2, hlw, hq2, hgu2, hla2⟩ := HD2.out
        have hD3 := hd2.old b3
        have hNG : ¬ F gl := fun e => by have := hd2.lt _ e; omega
        have q3 := (b3.block gu hgu2).trans hq2
        have x0 : w3.cell? ⟨gu, 0, none⟩ = some (.int .i64 op.c) := by simp [World.cell?, q3]
        have x1 : w3.cell? ⟨gu, 1, none⟩ = some (.int .i64 op.a) := by simp [World.cell?, q3]
        have x2 : w3.cell? ⟨gu, 2, none⟩ = some (.int .i64 op.p) := by simp [World.cell?, q3]
        have x3 : w3.cell? ⟨gu, 3, none⟩ = some (.int .i64 op.n) := by simp [World.cell?, q3]
        have HG3 : Hid (∀ (t g' : Nat) (S0 : Fs21), La21 F S0 t g' w2 → La21 (fun k => F k ∨ k = gl) S0 t g' w3) := fun t g' S0 h => h.kp b3.size (fun k hk _ => b3.block k hk) (fun k e => by rcases e with e | e; (exact .inl e); (subst e; exact .inr lo1))
        have HD3 : Hid (De21 w1 b PN QN (2 * i) F S w3 ∧ La21 (fun k => F k ∨ k = gl) S (if S.on then 12288 else 0) gw w3 ∧ w3.heap[gu]? = some (.cells #[.int .i64 op.c, .int .i64 op.a, .int .i64 op.p, .int .i64 op.n, .slice op.ba op.b.length op.bc] 36 (0, 0)) ∧ gu < w3.heap.size ∧ (S.on = false → ∃ g S0, Value.slice a7 n7 c7 = .slice (some ⟨g, 0, none⟩) 12288 12288 ∧ La21 (fun k => F k ∨ k = gl) S0 12288 g w3 ∧ Eq21 S0 S)) := ⟨hD3, HG3.out _ _ _ hlw, q3, Nat.lt_of_lt_of_le hgu2 b3.size, fun h => by
          obtain ⟨g, S0, h1, h2, h3⟩ := hla2 h
          exact ⟨g, S0, h1, HG3.out _ _ _ h2, h3⟩⟩
        have HGL : Hid (¬ F gl ∧ gl < w3.heap.size ∧ w2.heap.size ≤ gl ∧ w1.heap.size ≤ gl ∧ gu ≠ gl ∧ ∀ V : World, V.heap[gl]? = w3.heap[gl]? → V.cell? ⟨gl, 0, none⟩ = some v0 ∧ V.frozen? ⟨gl, 0, none⟩ = false) := ⟨hNG, lo2, lo1, by have := hd2.bl.size; omega, by omega, hv0⟩
        have hlg3 : S.lg.length ≤ 4398046511000 := by have := HNL.out; omega
        have hER := perase21 hD3.fl hD3.ok op.a op.p HOF.out.1.a HOF.out.1.p hlg3
        have hPG := pprog21 hD3.fl hD3.ok op.a op.p HOF.out.1.a HOF.out.1.p hlg3 (some ⟨gl, 0, none⟩) op.b op.b.length cl hsg rfl (fun e => by cases e)
        have hCU := pcut21 hD3.fl hD3.ok op.n (some ⟨gl, 0, none⟩) op.b op.b.length cl hsg rfl (fun e => by cases e)
        have hPO := ppow21 hD3.fl hD3.ok
        have hTU := ptrn21 hD3.fl hD3.ok
        have HNX : Hid (∀ (S' : Fs21) (W' : World), Fn21 w3 W' b F S' → Ok21 S' → Wk21 S' → St21 S S' → ∃ F4, De21 w1 b PN QN (2 * i + 1) F4 S' W' ∧ (∀ k, F4 k → F k ∨ w3.heap.size ≤ k) ∧ Kp F w3 W') := fun S' W' hn ho hw hs => HD3.out.1.next hn ho hw hs.1 hs.2.1 (by have := hs.len; have := HNL.out; omega)
        have HOK : Hid (Ok21 S ∧ Wk21 S) := ⟨hD3.ok, hD3.wk⟩
        clear hol hn3 sl qv2 hsg lo1 lo2 hv0 hd2 hlw hq2 hgu2 hla2 hD3 hNG q3 hlg3 b3
        go_upto_block 2 with fail
        go_cut [16] from 52 to 263 (fun s16 wc => ∃ code F4 S4, s16 = .int .i64 code ∧ De21 w1 b PN QN (2 * i + 1) F4 S4 wc ∧ St21 S S4 ∧ (op.c = 1 ∨ op.c = 2 → code = 0 → S.on = true ∧ S4.lg.length = NL + 1) ∧ (∀ k, F4 k → F k ∨ w3.heap.size ≤ k) ∧ Kp F w3 wc)
        case first =>
          as_aux_lemma =>
            by_cases hc : op.c = 1
            · as_aux_lemma =>
                rw [hc] at x0
                have ho4 := ok21_er HOK.out.1 op.a op.p
                have hw4 := HOK.out.2.er op.a op.p
                have hs4 := st21_er S op.a op.p
                have hz4 := er21_zero (S := S) (x := op.a) (y := op.p)
                have HZ : Hid (erE21 S op.a op.p = 0 → S.on = true ∧ (erS21 S op.a op.p).lg.length = NL + 1) := fun h => ⟨(hz4 h).1, by have := (hz4 h).2; have := HNL.out.1; omega⟩
                clear hPG hCU hPO hTU hz4 x3
                generalize erE21 S op.a op.p = EE at *
                generalize erS21 S op.a op.p = SS at *
                go_wp2_with fail
                refine hER.mono ?_
                rintro e w4 ⟨rfl, hn4⟩
                clear hER
                go_wp2_with fail
                go_meet
                case rel =>
                  obtain ⟨F4, d1, d2, d3⟩ := HNX.out _ _ hn4 ho4 hw4 hs4
                  exact ⟨_, F4, SS, rfl, d1, hs4, fun _ h => HZ.out h, d2, d3⟩
            have hc1' : (op.c == 1) = false := by simp [hc]
            by_cases hcb : op.c = 2
            · as_aux_lemma =>
                rw [hcb] at x0 hc1'
                have ho4 := ok21_pg HOK.out.1 op.a op.p op.b
                have hw4 := HOK.out.2.pg op.a op.p op.b
                have hs4 := st21_pg S op.a op.p op.b
                have hz4 := pg21_zero (S := S) (x := op.a) (y := op.p) (L := op.b)
                have HZ : Hid (pgE21 S op.a op.p op.b.length = 0 → S.on = true ∧ (pgS21 S op.a op.p op.b).lg.length = NL + 1) := fun h => ⟨(hz4 h).1, by have := (hz4 h).2; have := HNL.out.1; omega⟩
                clear hER hCU hPO hTU hz4 x3 hc1' hc
                generalize pgE21 S op.a op.p op.b.length = EE at *
                generalize pgS21 S op.a op.p op.b = SS at *
                go_wp2_with fail
                refine hPG.mono ?_
                rintro e w4 ⟨rfl, hn4⟩
                clear hPG
                go_wp2_with fail
                go_meet
                case rel =>
                  obtain ⟨F4, d1, d2, d3⟩ := HNX.out _ _ hn4 ho4 hw4 hs4
                  exact ⟨_, F4, SS, rfl, d1, hs4, fun _ h => HZ.out h, d2, d3⟩
            have hc2' : (op.c == 2) = false := by simp [hcb]
            have HN12 : Hid (¬ (op.c = 1 ∨ op.c = 2)) := fun h => by rcases h with h | h; (exact hc h); (exact hcb h)
            clear hER hPG x1 x2
            by_cases hcc : op.c = 4
            · as_aux_lemma =>
                rw [hcc] at x0 hc1' hc2'
                have ho4 := ok21_cu HOK.out.1 op.n HOF.out.1.n op.b
                have hw4 := HOK.out.2.cu op.n op.b
                have hs4 := st21_cu S op.n op.b
                clear hPO hTU hc hcb hc1' hc2'
                generalize cuE21 S op.n op.b.length = EE at *
                generalize cuS21 S op.n op.b = SS at *
                go_wp2_with fail
                refine hCU.mono ?_
                rintro e w4 ⟨rfl, hn4⟩
                clear hCU
                go_wp2_with fail
                go_meet
                case rel =>
                  obtain ⟨F4, d1, d2, d3⟩ := HNX.out _ _ hn4 ho4 hw4 hs4
                  exact ⟨_, F4, SS, rfl, d1, hs4, fun h _ => absurd h HN12.out, d2, d3⟩
            have hc3' : (op.c == 4) = false := by simp [hcc]
            by_cases hcd : op.c = 5
            · as_aux_lemma =>
                rw [hcd] at x0 hc1' hc2' hc3'
                have ho4 := ok21_po HOK.out.1
                have hw4 := HOK.out.2.po
                have hs4 := st21_po S
                clear hCU hTU hc hcb hcc hc1' hc2' hc3' x3
                generalize ({ S with on := true } : Fs21) = SS at *
                go_wp2_with fail
                refine hPO.mono ?_
                rintro e w4 ⟨rfl, hn4⟩
                clear hPO
                go_wp2_with fail
                go_meet
                case rel =>
                  obtain ⟨F4, d1, d2, d3⟩ := HNX.out _ _ hn4 ho4 hw4 hs4
                  exact ⟨_, F4, SS, rfl, d1, hs4, fun h _ => absurd h HN12.out, d2, d3⟩
            have hc4' : (op.c == 5) = false := by simp [hcd]
            by_cases hce : op.c = 6
            · as_aux_lemma =>
                rw [hce] at x0 hc1' hc2' hc3' hc4'
                have ho4 := ok21_tu HOK.out.1
                have hw4 := HOK.out.2.tu
                have hs4 := st21_tu S
                clear hCU hPO hc hcb hcc hcd hc1' hc2' hc3' hc4' x3
                generalize st21 S.on = EE at *
                generalize tuS21 S = SS at *
                go_wp2_with fail
                refine hTU.mono ?_
                rintro e w4 ⟨rfl, hn4⟩
                clear hTU
                go_wp2_with fail
                go_meet
                case rel =>
                  obtain ⟨F4, d1, d2, d3⟩ := HNX.out _ _ hn4 ho4 hw4 hs4
                  exact ⟨_, F4, SS, rfl, d1, hs4, fun h _ => absurd h HN12.out, d2, d3⟩
            have hc5' : (op.c == 6) = false := by simp [hce]
            clear hCU hPO hTU hc hcb hcc hcd hce x3
            go_wp2_with fail
            go_meet
            case rel =>
              have hn4 := HD3.out.1.fl.stay (Below.refl _ _)
              obtain ⟨F4, d1, d2, d3⟩ := HNX.out _ _ hn4 HOK.out.1 HOK.out.2 (st21_refl S)
              exact ⟨_, F4, S, rfl, d1, st21_refl S, fun h _ => absurd h HN12.out, d2, d3⟩
        case rest =>
          as_aux_lemma =>
            obtain ⟨code, F4, S4, rfl, hd4, hs4, hz4, hf4, hk4⟩ := hcut
            clear x0 x1 x2 x3 hER hPG hCU hPO hTU
            obtain ⟨y1, y2⟩ := HGL.out.2.2.2.2.2 wc (hk4.block gl HGL.out.2.1 HGL.out.1)
            obtain ⟨w5, hw5⟩ : ∃ w5, w5 = wc.setCell ⟨gl, 0, none⟩ (.int .u8 1) := ⟨_, rfl⟩
            have HW5 : Hid (wc.setCell ⟨gl, 0, none⟩ (.int .u8 1) = w5) := hw5.symm
            have k5 : Kp (fun k => k = gl) wc w5 := by rw [hw5]; exact Kp.set (S := fun k => k = gl) rfl _
            have hn5 : ¬ F4 gl := fun e => by
              rcases hf4 _ e with h | h
              · exact HGL.out.1 h
              · have := HGL.out.2.1; omega
            have hD5 := hd4.set k5 hn5 HGL.out.2.2.2.1
            have HKK : Hid (∀ k, k < w3.heap.size → ¬ (F k ∨ k = gl) → w5.heap[k]? = w3.heap[k]?) := fun k hk hn => (k5.block k (Nat.lt_of_lt_of_le hk hk4.size) (fun e => hn (.inr e))).trans (hk4.block k hk (fun e => hn (.inl e)))
            have HLK : Hid (∀ (t g' : Nat) (S0 : Fs21), La21 (fun k => F k ∨ k = gl) S0 t g' w3 → La21 F4 S0 t g' w5) := fun t g' S0 h => h.kp (Nat.le_trans hk4.size k5.size) HKK.out (fun k e => by rcases hf4 k e with h | h; (exact .inl (.inl h)); (exact .inr h))
            have q5 := (HKK.out gu HD3.out.2.2.2.1 (fun e => by rcases e with e | e; (exact HNU.out.2 e); (exact HGL.out.2.2.2.2.1 e))).trans HD3.out.2.2.1
            have x0 : w5.cell? ⟨gu, 0, none⟩ = some (.int .i64 op.c) := by simp [World.cell?, q5]
            obtain ⟨LN, hLN⟩ : ∃ LN, LN = S4.lg.length := ⟨_, rfl⟩
            have hlen4 := hs4.len
            rw [← hLN] at hlen4 hz4
            rw [HNL.out.1] at hlen4
            have hnl := HNL.out.2.2
            have HO5 := pops21 hD5.fl hD5.ok
            rw [← hLN] at HO5
            have HON5 := pon21 hD5.fl hD5.ok
            have HPO5 := ppow21 hD5.fl hD5.ok
            have HD5 : Hid (De21 w1 b PN QN (2 * i + 1) F4 S4 w5 ∧ St21 S S4 ∧ LN = S4.lg.length) := ⟨hD5, hs4, hLN⟩
            have HZ4 : Hid (op.c = 1 ∨ op.c = 2 → code = 0 → S.on = true ∧ LN = NL + 1) := hz4
            have HLE4 : Hid (NL ≤ LN ∧ LN ≤ NL + 1 ∧ (S.on = false → LN = NL)) := hlen4
            have hnw : IntKind.i64.wrap ((NL : Int) + 1) = ((NL + 1 : Nat) : Int) := by rw [IntWalk.i64_in _ (by omega)]; omega
            clear hw5 hd4 hs4 hz4 hf4 hk4 k5 hn5 hD5 q5 hLN hlen4
            go_upto_region 24 with fail
            (try rw [HW5.out])
            clear y1 y2
            go_cut [128] from 52 to 263 (fun s128 wx => s128 = .bool false ∧ wx = w5)
            case first =>
              as_aux_lemma =>
                have hLE : LN = NL := HLE4.out.2.2 HSN.out
                rw [hLE] at HO5
                have hnn : ((NL : Int) == (NL : Int)) = true := by simp
                have hnn' : ((NL : Int) != (NL : Int)) = false := by simp
                clear hLE
                by_cases h0 : code = 0
                · as_aux_lemma =>
                    have hN1 : ¬ op.c = 1 := fun h => by have := (HZ4.out (.inl h) h0).1; rw [HSN.out] at this; cases this
                    have hN2 : ¬ op.c = 2 := fun h => by have := (HZ4.out (.inr h) h0).1; rw [HSN.out] at this; cases this
                    have hN1' : (op.c == 1) = false := by simp [hN1]
                    have hN2' : (op.c == 2) = false := by simp [hN2]
                    subst h0
                    clear hN1 hN2
                    go_wp2_with fail
                    refine HO5.mono ?_
                    rintro e wx ⟨rfl, hwx⟩
                    subst wx
                    go_wp2_with fail
                    go_meet
                    case rel => exact ⟨rfl, rfl⟩
                · as_aux_lemma =>
                    have h0' : (code == 0) = false := by simp [h0]
                    clear h0
                    go_wp2_with fail
                    refine HO5.mono ?_
                    rintro e wx ⟨rfl, hwx⟩
                    subst wx
                    go_wp2_with fail
                    go_meet
                    case rel => exact ⟨rfl, rfl⟩

            case rest =>
              as_aux_lemma =>
                obtain ⟨rfl, hwx⟩ := hcut
                subst wc
                go_upto_region 26 with fail
                go_cut [160] from 52 to 263 (fun s160 wx => s160 = .bool false ∧ wx = w5)
                case first =>
                  as_aux_lemma =>
                    have hl1 : ¬ (NL : Int) + 1 < (LN : Int) := by have := HLE4.out; omega
                    have hl2 : ¬ LN < NL := by have := HLE4.out; omega
                    by_cases h0 : code = 0
                    · as_aux_lemma =>
                        by_cases hN : op.c = 1 ∨ op.c = 2
                        · as_aux_lemma =>
                            have hLE := (HZ4.out hN h0).2
                            have HL1 : Hid (LN = NL + 1) := hLE
                            have hq : ((LN : Int) == (NL : Int) + 1) = true := by simp; omega
                            have hq' : ((LN : Int) != (NL : Int) + 1) = false := by simp; omega
                            subst h0
                            clear hLE
                            rcases hN with hN | hN
                            · as_aux_lemma =>
                                rw [hN] at x0
                                go_wp2_with (go_at_call 8; refine HO5.mono ?_; rintro e wx ⟨rfl, hwx⟩; subst wx)
                                go_meet
                                case rel => exact ⟨by first | rfl | exact congrArg Value.bool (by have := HL1.out; simp; omega), rfl⟩
                            · as_aux_lemma =>
                                rw [hN] at x0
                                go_wp2_with (go_at_call 8; refine HO5.mono ?_; rintro e wx ⟨rfl, hwx⟩; subst wx)
                                go_meet
                                case rel => exact ⟨by first | rfl | exact congrArg Value.bool (by have := HL1.out; simp; omega), rfl⟩
                        · as_aux_lemma =>
                            have hN1' : (op.c == 1) = false := by simp; exact fun h => hN (.inl h)
                            have hN2' : (op.c == 2) = false := by simp; exact fun h => hN (.inr h)
                            subst h0
                            clear hN
                            go_wp2_with (go_at_call 8; refine HO5.mono ?_; rintro e wx ⟨rfl, hwx⟩; subst wx)
                            go_meet
                            case rel => exact ⟨by first | rfl | exact congrArg Value.bool (by have := HLE4.out; simp; omega), rfl⟩
                    · as_aux_lemma =>
                        have h0' : (code == 0) = false := by simp [h0]
                        clear h0
                        go_wp2_with (go_at_call 8; refine HO5.mono ?_; rintro e wx ⟨rfl, hwx⟩; subst wx)
                        go_meet
                        case rel => exact ⟨by first | rfl | exact congrArg Value.bool (by have := HLE4.out; simp; omega), rfl⟩

                case rest =>
                  as_aux_lemma =>
                    obtain ⟨rfl, hwx⟩ := hcut
                    subst wc
                    clear x0
                    go_wp2_with fail
                    refine HON5.mono ?_
                    rintro e wx ⟨rfl, hwx⟩
                    subst wx
                    clear HON5 HO5
                    go_wp2_with fail
                    refine HPO5.mono ?_
                    rintro e w6 ⟨rfl, hn6⟩
                    clear HPO5
                    obtain ⟨S6, hS6⟩ : ∃ S6, S6 = ({ S4 with on := true } : Fs21) := ⟨_, rfl⟩
                    rw [← hS6] at hn6
                    have hs6 : St21 S S6 := by rw [hS6]; exact HD5.out.2.1.pow
                    have hl6 : S6.lg.length = LN := by rw [hS6]; exact HD5.out.2.2.symm
                    have hon6 : S6.on = true := by rw [hS6]
                    obtain ⟨F6, hD6, hf6, hk6⟩ := HD5.out.1.next hn6 (by rw [hS6]; exact ok21_po HD5.out.1.ok) (by rw [hS6]; exact HD5.out.1.wk.po) (by rw [hS6]) (by rw [hS6]) (m := 2 * i + 1) (by rw [hl6, HD5.out.2.2]; exact HD5.out.1.lg)
                    have HLK6 : Hid (∀ (t g' : Nat) (S0 : Fs21), La21 (fun k => F k ∨ k = gl) S0 t g' w3 → La21 F6 S0 t g' w6) := fun t g' S0 h => (HLK.out t g' S0 h).fn hk6 hf6
                    have HALL := pall21 hD6.fl hD6.ok su (by rw [hD6.pg]; exact HPQ.out.1.symm) (by rw [hD6.ps]; exact HPQ.out.2.1.symm)
                    rw [hon6] at HALL
                    obtain ⟨z0, z1, z2, z3, z4⟩ := HQ.out w6 hD6.bl
                    have HD6 : Hid (De21 w1 b PN QN (2 * i + 1) F6 S6 w6 ∧ St21 S S6 ∧ S6.lg.length = LN ∧ S6.on = true) := ⟨hD6, hs6, hl6, hon6⟩
                    clear hn6 hS6 hs6 hl6 hon6 hD6 hf6 hk6
                    go_wp2_with fail
                    clear z0 z1 z2 z3 z4
                    refine HALL.mono ?_
                    rintro e w7 ⟨⟨gn, rfl, hArn⟩, b7⟩
                    clear HALL
                    have hD7 := HD6.out.1.old b7
                    have hLn : La21 F6 S6 12288 gn w7 := hArn.la HD6.out.1.lt
                    have HLG := plog21 hD7.fl hD7.ok (by have := HD6.out.2.2.1; have := HLE4.out; have := HNL.out; omega)
                    have HO7 := fun (V : World) (hV : Below w7.heap.size w7 V) => pops21 (hD7.old hV).fl hD7.ok
                    rw [HD6.out.2.2.1] at HLG
                    have HD7 : Hid (De21 w1 b PN QN (2 * i + 1) F6 S6 w7 ∧ La21 F6 S6 12288 gn w7 ∧ (∀ (t g' : Nat) (S0 : Fs21), La21 (fun k => F k ∨ k = gl) S0 t g' w3 → La21 F6 S0 t g' w7)) := ⟨hD7, hLn, fun t g' S0 h => (HLK6.out t g' S0 h).old b7⟩
                    clear hD7 hLn hArn b7 HO7
                    go_wp2_with fail
                    refine HLG.mono ?_
                    rintro e w8 ⟨⟨ra, rc, rfl, hown⟩, b8⟩
                    clear HLG
                    have hD8 := HD7.out.1.old b8
                    have HO8 : Hid (∀ V : World, Below w8.heap.size w8 V → Calls Try.prog 8 #[.pointer (some ⟨b, 0, none⟩)] V fun e w' => e = .returned (.int .i64 (LN : Int)) ∧ w' = V) := fun V hV => by
                      have := pops21 (hD8.old hV).fl hD8.ok
                      rw [HD6.out.2.2.1] at this
                      exact this
                    have hO8 := HO8.out w8 (Below.refl _ _)
                    have HROW : Hid (NL < LN → ∃ gr o, S6.lg[NL]? = some o ∧ ra = some ⟨gr, 0, none⟩ ∧ (∀ V : World, Below w8.heap.size w8 V → V.cell? ⟨gr, NL * 3, none⟩ = some (.int .i64 o.1) ∧ V.cell? ⟨gr, NL * 3 + 1, none⟩ = some (.int .i64 o.2.1) ∧ V.cell? ⟨gr, NL * 3 + 2, none⟩ = some (.int .i64 o.2.2))) := fun hj => by
                      have hj' : NL < S6.lg.length := by have := HD6.out.2.2.1; omega
                      obtain ⟨gr, hgr1, hgr2⟩ : ∃ gr, ra = some ⟨gr, 0, none⟩ ∧ w7.heap.size ≤ gr := by
                        rcases hown.2 with ⟨h1, h2⟩ | ⟨gr, cp, cur, h1, h2, _⟩
                        · omega
                        · simp only [Value.slice.injEq] at h1
                          exact ⟨gr, h1.1, h2⟩
                      subst hgr1
                      obtain ⟨l1, l2, l3⟩ := lgc21_get S6.lg NL S6.lg[NL] (List.getElem?_eq_getElem hj')
                      have hadd : ∀ k, (⟨gr, 0, none⟩ : Addr).add k = ⟨gr, k, none⟩ := by intro k; unfold Addr.add; split <;> simp_all
                      have m1 := hown.cells (g := gr) rfl _ _ l1
                      have m2 := hown.cells (g := gr) rfl _ _ l2
                      have m3 := hown.cells (g := gr) rfl _ _ l3
                      rw [hadd] at m1 m2 m3
                      have hlt := World.block_lt_of_cell? _ _ m1
                      exact ⟨gr, S6.lg[NL], List.getElem?_eq_getElem hj', rfl, fun V hV => ⟨(hV.cell (p := ⟨gr, NL * 3, none⟩) hlt).trans m1, (hV.cell (p := ⟨gr, NL * 3 + 1, none⟩) hlt).trans m2, (hV.cell (p := ⟨gr, NL * 3 + 2, none⟩) hlt).trans m3⟩⟩
                    have HD8 : Hid (∀ V : World, Below w8.heap.size w8 V → De21 w1 b PN QN (2 * i + 1) F6 S6 V ∧ La21 F6 S6 12288 gn V ∧ (∀ (t g' : Nat) (S0 : Fs21), La21 (fun k => F k ∨ k = gl) S0 t g' w3 → La21 F6 S0 t g' V)) := fun V hV => by
                      have h := b8.trans (hV.mono b8.size)
                      exact ⟨HD7.out.1.old h, HD7.out.2.1.old h, fun t g' S0 hh => (HD7.out.2.2 t g' S0 hh).old h⟩
                    clear hown b8 hD8
                    go_wp2_with fail
                    refine hO8.mono ?_
                    rintro e wx ⟨rfl, hwx⟩
                    subst wx
                    clear hO8
                    obtain ⟨NN, hNN⟩ : ∃ NN : Nat, NN = 12288 := ⟨_, rfl⟩
                    have HNN : Hid (NN = 12288) := hNN
                    clear hNN
                    go_upto_block 3 with fail
                    go_cut [] from 186 to 248 (fun wx => Below w8.heap.size w8 wx)
                    case first =>
                      as_aux_lemma =>
                        go_wp2_with fail
                        go_loopw [188] (fun tj wv => ∃ j : Nat, j ≤ NN ∧ tj = .int .i64 (j : Int) ∧ Below w8.heap.size w8 wv) (fun tj _ => NN - (intOf tj).toNat)
                        case atStart => exact ⟨0, by omega, rfl, Below.refl _ _⟩
                        case round =>
                          obtain ⟨j, hj, rfl, hbv⟩ := hrel
                          obtain ⟨d1, d2, d3⟩ := HD8.out wr hbv
                          have hnn := HNN.out
                          by_cases hj2 : j < 12288
                          rotate_left
                          · as_aux_lemma =>
                              have hji : ¬ (j : Int) < 12288 := by omega
                              have HBV : Hid (Below w8.heap.size w8 wr) := hbv
                              clear hj hj2 hnn d1 d2 d3 hbv
                              go_wp2_with fail
                              go_meet
                              case rel => exact HBV.out
                          have hji : (j : Int) < 12288 := by omega
                          have hj0 : (0 : Int) ≤ (j : Int) := by omega
                          have hjw : IntKind.i64.wrap ((j : Int) + 1) = ((j + 1 : Nat) : Int) := by rw [IntWalk.i64_in _ (by omega)]; omega
                          have hO := HO8.out wr hbv
                          obtain ⟨kb, cB, sB⟩ := d2.at j hj2
                          clear hnn

                          obtain ⟨g7, S0, hv7, hl7, hq7⟩ := HD3.out.2.2.2.2 HSN.out
                          injection hv7 with r1 r2 r3
                          subst r1; subst r2; subst r3
                          obtain ⟨ka, cA, sA⟩ := (d3 _ g7 S0 hl7).at j hj2
                          obtain ⟨A, hA⟩ : ∃ A, A = al21 S0 12288 j := ⟨_, rfl⟩
                          obtain ⟨B, hB⟩ : ∃ B, B = al21 S6 12288 j := ⟨_, rfl⟩
                          rw [← hA] at cA sA
                          rw [← hB] at cB sB
                          have HAB : Hid (A = B) := by
                            show A = B
                            rw [hA, hB]
                            exact ((hq7.trans (HD6.out.2.1.eq HSN.out)).al 12288 j).symm
                          obtain ⟨LA, hLA⟩ : ∃ LA, LA = A.length := ⟨_, rfl⟩
                          obtain ⟨LB, hLB⟩ : ∃ LB, LB = B.length := ⟨_, rfl⟩
                          rw [← hLA] at cA
                          rw [← hLB] at cB
                          have HLL : Hid (LA = A.length ∧ LB = B.length) := ⟨hLA, hLB⟩
                          have HSM : Hid (∀ W : World, Below wr.heap.size wr W → Calls Try.prog 17 #[.slice ka LA LA, .slice kb LB LB] W fun e w' => e = .returned (.bool true) ∧ w' = W) := fun W hW => by
                            have := bsame_any ka kb A B A.length B.length W (sA.old hW) (sB.old hW)
                            rw [HAB.out, show (B == B) = true by simp] at this
                            rw [HLL.out.1, HLL.out.2, HAB.out]
                            exact this
                          have hLE : LN = NL := HLE4.out.2.2 HSN.out
                          rw [hLE] at hO
                          have hgti : ¬ (NL : Int) < (NL : Int) := by omega
                          have HBV : Hid (Below w8.heap.size w8 wr) := hbv
                          obtain ⟨v9, hv9⟩ : ∃ x, x = wr.drew := ⟨_, rfl⟩
                          have HV9 : Hid (wr.drew = v9) := hv9.symm
                          have HB9 : Hid (Below wr.heap.size wr v9 ∧ True) := ⟨by rw [hv9]; exact (Below.refl _ _).drew, trivial⟩
                          have hcc : v9.cell? ⟨g7, j, none⟩ = some (.slice ka LA LA) ∧ v9.cell? ⟨gn, j, none⟩ = some (.slice kb LB LB) := by rw [hv9]; exact ⟨cA, cB⟩
                          clear hA hB hLA hLB sA sB cA cB d1 d2 d3 hbv hLE hl7 hq7 hv9
                          go_upto_region 40 with (first | (go_at_call 8; refine hO.mono ?_; rintro e wx ⟨rfl, hwx⟩; subst wx))
                          refine plain_region16 (fun w' => w'.cell? ⟨g7, j, none⟩ = some (.slice ka LA LA) ∧ w'.cell? ⟨gn, j, none⟩ = some (.slice kb LB LB)) 33 (by kernel_rfl) (by rw [HV9.out]; exact hcc) (fun hHeld => ?_)
                          rw [HV9.out] at hHeld ⊢
                          clear hcc
                          refine wpAnyK_take (i := 0) (v := .bool false) rfl (by kernel_rfl) (by kernel_rfl) (by kernel_rfl) (by kernel_rfl) (fun _ _ _ h => h) (Or.inl ⟨by rfl, fun w hSw => by go_simp⟩) hHeld ?_
                          simp only [List.getElem_toArray, List.getElem_cons_zero, Act.put, List.setIfInBounds_toArray, List.set_cons_zero, List.set_cons_succ]
                          refine wpAnyK_take (i := 1) (v := .bool false) rfl (by kernel_rfl) (by kernel_rfl) (by kernel_rfl) (by kernel_rfl) (fun _ _ _ h => h) (Or.inl ⟨by rfl, fun w hSw => by go_simp⟩) hHeld ?_
                          simp only [List.getElem_toArray, List.getElem_cons_zero, List.getElem_cons_succ, Act.put, List.setIfInBounds_toArray, List.set_cons_zero, List.set_cons_succ]
                          refine wpAnyK_take (i := 2) (v := undef) rfl (by kernel_rfl) (by kernel_rfl) (by kernel_rfl) (by kernel_rfl) (fun _ _ _ h => h) (Or.inr ⟨by rfl, rfl⟩) hHeld ?_
                          simp only [List.getElem_toArray, List.getElem_cons_zero, List.getElem_cons_succ, Act.put, List.setIfInBounds_toArray, List.set_cons_zero, List.set_cons_succ]
                          refine wpAnyK_take (i := 3) (v := undef) rfl (by kernel_rfl) (by kernel_rfl) (by kernel_rfl) (by kernel_rfl) (fun _ _ _ h => h) (Or.inr ⟨by rfl, rfl⟩) hHeld ?_
                          simp only [List.getElem_toArray, List.getElem_cons_zero, List.getElem_cons_succ, Act.put, List.setIfInBounds_toArray, List.set_cons_zero, List.set_cons_succ]
                          refine wpAnyK_take (i := 4) (v := .bool false) rfl (by kernel_rfl) (by kernel_rfl) (by kernel_rfl) (by kernel_rfl) (fun _ _ _ h => h) (Or.inl ⟨by rfl, fun w hSw => by go_simp⟩) hHeld ?_
                          simp only [List.getElem_toArray, List.getElem_cons_zero, List.getElem_cons_succ, Act.put, List.setIfInBounds_toArray, List.set_cons_zero, List.set_cons_succ]
                          refine wpAnyK_take (i := 5) (v := .bool false) rfl (by kernel_rfl) (by kernel_rfl) (by kernel_rfl) (by kernel_rfl) (fun _ _ _ h => h) (Or.inl ⟨by rfl, fun w hSw => by go_simp⟩) hHeld ?_
                          simp only [List.getElem_toArray, List.getElem_cons_zero, List.getElem_cons_succ, Act.put, List.setIfInBounds_toArray, List.set_cons_zero, List.set_cons_succ]
                          refine wpAnyK_take (i := 6) (v := undef) rfl (by kernel_rfl) (by kernel_rfl) (by kernel_rfl) (by kernel_rfl) (fun _ _ _ h => h) (Or.inr ⟨by rfl, rfl⟩) hHeld ?_
                          simp only [List.getElem_toArray, List.getElem_cons_zero, List.getElem_cons_succ, Act.put, List.setIfInBounds_toArray, List.set_cons_zero, List.set_cons_succ]
                          refine wpAnyK_take (i := 7) (v := undef) rfl (by kernel_rfl) (by kernel_rfl) (by kernel_rfl) (by kernel_rfl) (fun _ _ _ h => h) (Or.inr ⟨by rfl, rfl⟩) hHeld ?_
                          simp only [List.getElem_toArray, List.getElem_cons_zero, List.getElem_cons_succ, Act.put, List.setIfInBounds_toArray, List.set_cons_zero, List.set_cons_succ]
                          refine wpAnyK_take (i := 8) (v := undef) rfl (by kernel_rfl) (by kernel_rfl) (by kernel_rfl) (by kernel_rfl) (fun _ _ _ h => h) (Or.inr ⟨by rfl, rfl⟩) hHeld ?_
                          simp only [List.getElem_toArray, List.getElem_cons_zero, List.getElem_cons_succ, Act.put, List.setIfInBounds_toArray, List.set_cons_zero, List.set_cons_succ]
                          refine wpAnyK_take (i := 9) (v := undef) rfl (by kernel_rfl) (by kernel_rfl) (by kernel_rfl) (by kernel_rfl) (fun _ _ _ h => h) (Or.inr ⟨by rfl, rfl⟩) hHeld ?_
                          simp only [List.getElem_toArray, List.getElem_cons_zero, List.getElem_cons_succ, Act.put, List.setIfInBounds_toArray, List.set_cons_zero, List.set_cons_succ]
                          refine wpAnyK_take (i := 10) (v := undef) rfl (by kernel_rfl) (by kernel_rfl) (by kernel_rfl) (by kernel_rfl) (fun _ _ _ h => h) (Or.inr ⟨by rfl, rfl⟩) hHeld ?_
                          simp only [List.getElem_toArray, List.getElem_cons_zero, List.getElem_cons_succ, Act.put, List.setIfInBounds_toArray, List.set_cons_zero, List.set_cons_succ]
                          refine wpAnyK_take (i := 11) (v := undef) rfl (by kernel_rfl) (by kernel_rfl) (by kernel_rfl) (by kernel_rfl) (fun _ _ _ h => h) (Or.inr ⟨by rfl, rfl⟩) hHeld ?_
                          simp only [List.getElem_toArray, List.getElem_cons_zero, List.getElem_cons_succ, Act.put, List.setIfInBounds_toArray, List.set_cons_zero, List.set_cons_succ]
                          refine wpAnyK_take (i := 12) (v := undef) rfl (by kernel_rfl) (by kernel_rfl) (by kernel_rfl) (by kernel_rfl) (fun _ _ _ h => h) (Or.inr ⟨by rfl, rfl⟩) hHeld ?_
                          simp only [List.getElem_toArray, List.getElem_cons_zero, List.getElem_cons_succ, Act.put, List.setIfInBounds_toArray, List.set_cons_zero, List.set_cons_succ]
                          refine wpAnyK_take (i := 13) (v := undef) rfl (by kernel_rfl) (by kernel_rfl) (by kernel_rfl) (by kernel_rfl) (fun _ _ _ h => h) (Or.inr ⟨by rfl, rfl⟩) hHeld ?_
                          simp only [List.getElem_toArray, List.getElem_cons_zero, List.getElem_cons_succ, Act.put, List.setIfInBounds_toArray, List.set_cons_zero, List.set_cons_succ]
                          refine wpAnyK_take (i := 14) (v := undef) rfl (by kernel_rfl) (by kernel_rfl) (by kernel_rfl) (by kernel_rfl) (fun _ _ _ h => h) (Or.inr ⟨by rfl, rfl⟩) hHeld ?_
                          simp only [List.getElem_toArray, List.getElem_cons_zero, List.getElem_cons_succ, Act.put, List.setIfInBounds_toArray, List.set_cons_zero, List.set_cons_succ]
                          refine wpAnyK_take (i := 15) (v := undef) rfl (by kernel_rfl) (by kernel_rfl) (by kernel_rfl) (by kernel_rfl) (fun _ _ _ h => h) (Or.inr ⟨by rfl, rfl⟩) hHeld ?_
                          simp only [List.getElem_toArray, List.getElem_cons_zero, List.getElem_cons_succ, Act.put, List.setIfInBounds_toArray, List.set_cons_zero, List.set_cons_succ]
                          refine wpAnyK_take (i := 16) (v := .bool false) rfl (by kernel_rfl) (by kernel_rfl) (by kernel_rfl) (by kernel_rfl) (fun _ _ _ h => h) (Or.inl ⟨by rfl, fun w hSw => by go_simp⟩) hHeld ?_
                          simp only [List.getElem_toArray, List.getElem_cons_zero, List.getElem_cons_succ, Act.put, List.setIfInBounds_toArray, List.set_cons_zero, List.set_cons_succ]
                          refine wpAnyK_take (i := 17) (v := .bool false) rfl (by kernel_rfl) (by kernel_rfl) (by kernel_rfl) (by kernel_rfl) (fun _ _ _ h => h) (Or.inl ⟨by rfl, fun w hSw => by go_simp⟩) hHeld ?_
                          simp only [List.getElem_toArray, List.getElem_cons_zero, List.getElem_cons_succ, Act.put, List.setIfInBounds_toArray, List.set_cons_zero, List.set_cons_succ]
                          refine wpAnyK_take (i := 18) (v := .bool false) rfl (by kernel_rfl) (by kernel_rfl) (by kernel_rfl) (by kernel_rfl) (fun _ _ _ h => h) (Or.inl ⟨by rfl, fun w hSw => by go_simp⟩) hHeld ?_
                          simp only [List.getElem_toArray, List.getElem_cons_zero, List.getElem_cons_succ, Act.put, List.setIfInBounds_toArray, List.set_cons_zero, List.set_cons_succ]
                          refine wpAnyK_take (i := 19) (v := .bool true) rfl (by kernel_rfl) (by kernel_rfl) (by kernel_rfl) (by kernel_rfl) (fun _ _ _ h => h) (Or.inl ⟨by rfl, fun w hSw => by go_simp⟩) hHeld ?_
                          simp only [List.getElem_toArray, List.getElem_cons_zero, List.getElem_cons_succ, Act.put, List.setIfInBounds_toArray, List.set_cons_zero, List.set_cons_succ]
                          refine wpAnyK_take (i := 20) (v := .bool true) rfl (by kernel_rfl) (by kernel_rfl) (by kernel_rfl) (by kernel_rfl) (fun _ _ _ h => h) (Or.inl ⟨by rfl, fun w hSw => by go_simp⟩) hHeld ?_
                          simp only [List.getElem_toArray, List.getElem_cons_zero, List.getElem_cons_succ, Act.put, List.setIfInBounds_toArray, List.set_cons_zero, List.set_cons_succ]
                          refine wpAnyK_take (i := 21) (v := .slice (some ⟨g7, 0, none⟩) 12288 12288) rfl (by kernel_rfl) (by kernel_rfl) (by kernel_rfl) (by kernel_rfl) (fun _ _ _ h => h) (Or.inl ⟨by rfl, fun w hSw => by go_simp⟩) hHeld ?_
                          simp only [List.getElem_toArray, List.getElem_cons_zero, List.getElem_cons_succ, Act.put, List.setIfInBounds_toArray, List.set_cons_zero, List.set_cons_succ]
                          refine wpAnyK_take (i := 22) (v := .int .i64 (j : Int)) rfl (by kernel_rfl) (by kernel_rfl) (by kernel_rfl) (by kernel_rfl) (fun _ _ _ h => h) (Or.inl ⟨by rfl, fun w hSw => by go_simp⟩) hHeld ?_
                          simp only [List.getElem_toArray, List.getElem_cons_zero, List.getElem_cons_succ, Act.put, List.setIfInBounds_toArray, List.set_cons_zero, List.set_cons_succ]
                          refine wpAnyK_take (i := 23) (v := .pointer (some ⟨g7, j, none⟩)) rfl (by kernel_rfl) (by kernel_rfl) (by kernel_rfl) (by kernel_rfl) (fun _ _ _ h => h) (Or.inl ⟨by rfl, fun w hSw => by go_simp⟩) hHeld ?_
                          simp only [List.getElem_toArray, List.getElem_cons_zero, List.getElem_cons_succ, Act.put, List.setIfInBounds_toArray, List.set_cons_zero, List.set_cons_succ]
                          refine wpAnyK_take (i := 24) (v := .slice ka LA LA) rfl (by kernel_rfl) (by kernel_rfl) (by kernel_rfl) (by kernel_rfl) (fun _ _ _ h => h) (Or.inl ⟨by rfl, fun w hSw => by go_simp⟩) hHeld ?_
                          simp only [List.getElem_toArray, List.getElem_cons_zero, List.getElem_cons_succ, Act.put, List.setIfInBounds_toArray, List.set_cons_zero, List.set_cons_succ]
                          refine wpAnyK_take (i := 25) (v := .slice (some ⟨gn, 0, none⟩) 12288 12288) rfl (by kernel_rfl) (by kernel_rfl) (by kernel_rfl) (by kernel_rfl) (fun _ _ _ h => h) (Or.inl ⟨by rfl, fun w hSw => by go_simp⟩) hHeld ?_
                          simp only [List.getElem_toArray, List.getElem_cons_zero, List.getElem_cons_succ, Act.put, List.setIfInBounds_toArray, List.set_cons_zero, List.set_cons_succ]
                          refine wpAnyK_take (i := 26) (v := .int .i64 (j : Int)) rfl (by kernel_rfl) (by kernel_rfl) (by kernel_rfl) (by kernel_rfl) (fun _ _ _ h => h) (Or.inl ⟨by rfl, fun w hSw => by go_simp⟩) hHeld ?_
                          simp only [List.getElem_toArray, List.getElem_cons_zero, List.getElem_cons_succ, Act.put, List.setIfInBounds_toArray, List.set_cons_zero, List.set_cons_succ]
                          refine wpAnyK_take (i := 27) (v := .pointer (some ⟨gn, j, none⟩)) rfl (by kernel_rfl) (by kernel_rfl) (by kernel_rfl) (by kernel_rfl) (fun _ _ _ h => h) (Or.inl ⟨by rfl, fun w hSw => by go_simp⟩) hHeld ?_
                          simp only [List.getElem_toArray, List.getElem_cons_zero, List.getElem_cons_succ, Act.put, List.setIfInBounds_toArray, List.set_cons_zero, List.set_cons_succ]
                          refine wpAnyK_take (i := 28) (v := .slice kb LB LB) rfl (by kernel_rfl) (by kernel_rfl) (by kernel_rfl) (by kernel_rfl) (fun _ _ _ h => h) (Or.inl ⟨by rfl, fun w hSw => by go_simp⟩) hHeld ?_
                          simp only [List.getElem_toArray, List.getElem_cons_zero, List.getElem_cons_succ, Act.put, List.setIfInBounds_toArray, List.set_cons_zero, List.set_cons_succ]
                          refine wpAnyK_one (i := 29) (by kernel_rfl) rfl (fun K hK => ?_)
                          (try simp only [List.getElem_toArray, List.getElem_cons_zero, List.getElem_cons_succ, Act.put, List.setIfInBounds_toArray, List.set_cons_zero, List.set_cons_succ])
                          go_simp
                          refine (HSM.out v9 HB9.out.1).mono ?_
                          rintro e ws ⟨rfl, hws⟩
                          subst ws
                          refine hK.out _ _ (fun _ => hHeld) (fun hHeld0 => ?_)
                          have hHeld := hHeld0 (by decide)
                          clear hHeld0 hK K
                          (try simp only [List.getElem_toArray, List.getElem_cons_zero, List.getElem_cons_succ, Act.put, List.setIfInBounds_toArray, List.set_cons_zero, List.set_cons_succ])
                          refine wpAnyK_take (i := 30) (v := .bool false) rfl (by kernel_rfl) (by kernel_rfl) (by kernel_rfl) (by kernel_rfl) (fun _ _ _ h => h) (Or.inl ⟨by rfl, fun w hSw => by go_simp⟩) hHeld ?_
                          simp only [List.getElem_toArray, List.getElem_cons_zero, List.getElem_cons_succ, Act.put, List.setIfInBounds_toArray, List.set_cons_zero, List.set_cons_succ]
                          refine wpAnyK_take (i := 31) (v := .bool false) rfl (by kernel_rfl) (by kernel_rfl) (by kernel_rfl) (by kernel_rfl) (fun _ _ _ h => h) (Or.inl ⟨by rfl, fun w hSw => by go_simp⟩) hHeld ?_
                          simp only [List.getElem_toArray, List.getElem_cons_zero, List.getElem_cons_succ, Act.put, List.setIfInBounds_toArray, List.set_cons_zero, List.set_cons_succ]
                          refine wpAnyK_one (i := 32) (by kernel_rfl) rfl (fun K hK => ?_)
                          (try simp only [List.getElem_toArray, List.getElem_cons_zero, List.getElem_cons_succ, Act.put, List.setIfInBounds_toArray, List.set_cons_zero, List.set_cons_succ])
                          go_simp
                          refine hK.out _ _ (fun _ => hHeld) (fun _ => ?_)
                          clear hK K hHeld
                          refine wpAnyK_done (by kernel_rfl) ?_ _
                          go_wp2_with fail
                          go_roundw
                          case rel => exact ⟨j + 1, by have := HNN.out; omega, by go_num, by rw [← HV9.out]; exact HBV.out.drew⟩
                          case measure => have := HNN.out; simp [intOf]; omega
                    case rest =>
                      as_aux_lemma =>
                        have hbv := hcut
                        clear hcut
                        obtain ⟨d1, d2, d3⟩ := HD8.out wc hbv

                        have HDV : Hid (De21 w1 b PN QN (2 * i + 1) F6 S6 wc ∧ La21 F6 S6 12288 gn wc) := ⟨d1, d2⟩
                        have hdn := dn21 d1.ok d1.wk HD6.out.2.2.2 (by have := HD6.out.2.2.1; have := HLE4.out; have := HNL.out; omega)
                        have HDN : Hid (cuE21 S6 1 0 = 0 ∧ erE21 (cuS21 S6 1 []) 2 1 = 213 ∧ (erS21 (cuS21 S6 1 []) 2 1).on = false ∧ (erS21 (cuS21 S6 1 []) 2 1).lg.length = S6.lg.length + 1 ∧ Eq21 S6 (erS21 (cuS21 S6 1 []) 2 1)) := hdn
                        have hCT := pcut21 d1.fl d1.ok 1 none [] 0 0 (SegK.nil (by decide) _ _) rfl (fun _ => rfl)
                        rw [hdn.1] at hCT
                        clear hdn d1 d2 d3 hbv
                        cases hdo : S4.on
                        · as_aux_lemma =>
                            have HDO : Hid (S4.on = false) := hdo
                            clear hdo
                            go_wp2_with fail
                            refine hCT.mono ?_
                            rintro e wa ⟨rfl, hna⟩
                            clear hCT
                            obtain ⟨Fa, hDa, hfa, hka⟩ := HDV.out.1.next hna (ok21_cu HDV.out.1.ok 1 ⟨by omega, by omega⟩ []) (HDV.out.1.wk.cu 1 []) (st21_cu S6 1 []).1 (st21_cu S6 1 []).2.1 (m := 2 * i + 1) (by have h := (st21_cu S6 1 []).len; have h2 := HDV.out.1.lg; have h3 : (cuS21 S6 1 []).lg = S6.lg := by { unfold cuS21; split; rfl; split; rfl; rfl }; rw [h3]; exact h2)
                            have hEA := perase21 hDa.fl hDa.ok 2 1 ⟨by omega, by omega⟩ ⟨by omega, by omega⟩ (by have := hDa.lg; have := HII.out; omega)
                            rw [HDN.out.2.1] at hEA
                            have HDA : Hid (De21 w1 b PN QN (2 * i + 1) Fa (cuS21 S6 1 []) wa ∧ La21 Fa S6 12288 gn wa) := ⟨hDa, HDV.out.2.fn hka hfa⟩
                            clear hna hDa hfa hka
                            go_wp2_with fail
                            refine hEA.mono ?_
                            rintro e wb ⟨rfl, hnb⟩
                            clear hEA
                            obtain ⟨Fb, hDb, hfb, hkb⟩ := HDA.out.1.next hnb (ok21_er HDA.out.1.ok 2 1) (HDA.out.1.wk.er 2 1) (st21_er _ 2 1).1 (st21_er _ 2 1).2.1 (m := 2 * (i + 1)) (by have h1 := HDN.out.2.2.2.1; have h2 := HDV.out.1.lg; omega)
                            have hOB := pon21 hDb.fl hDb.ok
                            rw [HDN.out.2.2.1] at hOB
                            have HDB : Hid (De21 w1 b PN QN (2 * (i + 1)) Fb (erS21 (cuS21 S6 1 []) 2 1) wb ∧ La21 Fb S6 12288 gn wb) := ⟨hDb, HDA.out.2.fn hkb hfb⟩
                            clear hnb hDb hfb hkb
                            go_wp2_with fail
                            refine hOB.mono ?_
                            rintro e wx ⟨rfl, hwx⟩
                            subst wx
                            clear hOB
                            go_wp2_with fail
                            go_roundw
                            case rel =>
                              exact ⟨i + 1, by have := HII.out; omega, by go_num, ⟨Fb, _, HDB.out.1, fun _ => ⟨gn, S6, rfl, HDB.out.2, HDN.out.2.2.2.2⟩⟩, _, _, _, rfl⟩
                            case measure => have := HII.out; simp [intOf]; omega
                        · as_aux_lemma =>
                            clear hdo hCT
                            go_wp2_with fail
                            go_roundw
                            case rel =>
                              have hD := HDV.out.1
                              exact ⟨i + 1, by have := HII.out; omega, by go_num, ⟨F6, S6, ⟨hD.fl, hD.ok, hD.wk, hD.pg, hD.ps, by have := hD.lg; omega, hD.lo, hD.bl⟩, fun h => by rw [HD6.out.2.2.2] at h; cases h⟩, _, _, _, rfl⟩
                            case measure => have := HII.out; simp [intOf]; omega
    · as_aux_lemma =>
        rw [hon] at HON
        have HSN : Hid (S.on = true) := hon
        clear hon
        go_wp2_with fail
        refine HOP.mono ?_
        rintro e w2' ⟨rfl, hw2'⟩
        subst w2'
        go_wp2_with fail
        refine HON.mono ?_
        rintro e w2' ⟨rfl, hw2'⟩
        subst w2'
        clear HOP HON
        go_wp2_with fail
        refine HLE.mono ?_
        rintro e w3 ⟨gl, cl, rfl, hol, b3⟩
        clear HLE x4
        obtain ⟨hn3, al, c3, hv3, sl, -, -, -⟩ := own_seg hol (M := 255) (by decide) (lent_bd HSG.out.mem)
        injection hv3 with qv1 qv2 qv3
        subst qv1; subst qv3
        have hsg : Seg w3 (some ⟨gl, 0, none⟩) op.b := by
          have := sl.take op.b.length
          have e : (lentL op.b).take op.b.length = op.b := by unfold lentL; simp
          rw [e] at this
          exact this
        obtain ⟨lo1, lo2, v0, hv0⟩ := own_first21 hol (by omega)
        obtain ⟨hd2, hlw, hq2, hgu2, hla2⟩ := HD2.out
        have hD3 := hd2.old b3
        have hNG : ¬ F gl := fun e => by have := hd2.lt _ e; omega
        have q3 := (b3.block gu hgu2).trans hq2
        have x0 : w3.cell? ⟨gu, 0, none⟩ = some (.int .i64 op.c) := by simp [World.cell?, q3]
        have x1 : w3.cell? ⟨gu, 1, none⟩ = some (.int .i64 op.a) := by simp [World.cell?, q3]
        have x2 : w3.cell? ⟨gu, 2, none⟩ = some (.int .i64 op.p) := by simp [World.cell?, q3]
        have x3 : w3.cell? ⟨gu, 3, none⟩ = some (.int .i64 op.n) := by simp [World.cell?, q3]
        have HG3 : Hid (∀ (t g' : Nat) (S0 : Fs21), La21 F S0 t g' w2 → La21 (fun k => F k ∨ k = gl) S0 t g' w3) := fun t g' S0 h => h.kp b3.size (fun k hk _ => b3.block k hk) (fun k e => by rcases e with e | e; (exact .inl e); (subst e; exact .inr lo1))
        have HD3 : Hid (De21 w1 b PN QN (2 * i) F S w3 ∧ La21 (fun k => F k ∨ k = gl) S (if S.on then 12288 else 0) gw w3 ∧ w3.heap[gu]? = some (.cells #[.int .i64 op.c, .int .i64 op.a, .int .i64 op.p, .int .i64 op.n, .slice op.ba op.b.length op.bc] 36 (0, 0)) ∧ gu < w3.heap.size ∧ (S.on = false → ∃ g S0, Value.slice a7 n7 c7 = .slice (some ⟨g, 0, none⟩) 12288 12288 ∧ La21 (fun k => F k ∨ k = gl) S0 12288 g w3 ∧ Eq21 S0 S)) := ⟨hD3, HG3.out _ _ _ hlw, q3, Nat.lt_of_lt_of_le hgu2 b3.size, fun h => by
          obtain ⟨g, S0, h1, h2, h3⟩ := hla2 h
          exact ⟨g, S0, h1, HG3.out _ _ _ h2, h3⟩⟩
        have HGL : Hid (¬ F gl ∧ gl < w3.heap.size ∧ w2.heap.size ≤ gl ∧ w1.heap.size ≤ gl ∧ gu ≠ gl ∧ ∀ V : World, V.heap[gl]? = w3.heap[gl]? → V.cell? ⟨gl, 0, none⟩ = some v0 ∧ V.frozen? ⟨gl, 0, none⟩ = false) := ⟨hNG, lo2, lo1, by have := hd2.bl.size; omega, by omega, hv0⟩
        have hlg3 : S.lg.length ≤ 4398046511000 := by have := HNL.out; omega
        have hER := perase21 hD3.fl hD3.ok op.a op.p HOF.out.1.a HOF.out.1.p hlg3
        have hPG := pprog21 hD3.fl hD3.ok op.a op.p HOF.out.1.a HOF.out.1.p hlg3 (some ⟨gl, 0, none⟩) op.b op.b.length cl hsg rfl (fun e => by cases e)
        have hCU := pcut21 hD3.fl hD3.ok op.n (some ⟨gl, 0, none⟩) op.b op.b.length cl hsg rfl (fun e => by cases e)
        have hPO := ppow21 hD3.fl hD3.ok
        have hTU := ptrn21 hD3.fl hD3.ok
        have HNX : Hid (∀ (S' : Fs21) (W' : World), Fn21 w3 W' b F S' → Ok21 S' → Wk21 S' → St21 S S' → ∃ F4, De21 w1 b PN QN (2 * i + 1) F4 S' W' ∧ (∀ k, F4 k → F k ∨ w3.heap.size ≤ k) ∧ Kp F w3 W') := fun S' W' hn ho hw hs => HD3.out.1.next hn ho hw hs.1 hs.2.1 (by have := hs.len; have := HNL.out; omega)
        have HOK : Hid (Ok21 S ∧ Wk21 S) := ⟨hD3.ok, hD3.wk⟩
        clear hol hn3 sl qv2 hsg lo1 lo2 hv0 hd2 hlw hq2 hgu2 hla2 hD3 hNG q3 hlg3 b3
        go_upto_block 2 with fail
        go_cut [16] from 52 to 263 (fun s16 wc => ∃ code F4 S4, s16 = .int .i64 code ∧ De21 w1 b PN QN (2 * i + 1) F4 S4 wc ∧ St21 S S4 ∧ (op.c = 1 ∨ op.c = 2 → code = 0 → S.on = true ∧ S4.lg.length = NL + 1) ∧ (∀ k, F4 k → F k ∨ w3.heap.size ≤ k) ∧ Kp F w3 wc)
        case first =>
          as_aux_lemma =>
            by_cases hc : op.c = 1
            · as_aux_lemma =>
                rw [hc] at x0
                have ho4 := ok21_er HOK.out.1 op.a op.p
                have hw4 := HOK.out.2.er op.a op.p
                have hs4 := st21_er S op.a op.p
                have hz4 := er21_zero (S := S) (x := op.a) (y := op.p)
                have HZ : Hid (erE21 S op.a op.p = 0 → S.on = true ∧ (erS21 S op.a op.p).lg.length = NL + 1) := fun h => ⟨(hz4 h).1, by have := (hz4 h).2; have := HNL.out.1; omega⟩
                clear hPG hCU hPO hTU hz4 x3
                generalize erE21 S op.a op.p = EE at *
                generalize erS21 S op.a op.p = SS at *
                go_wp2_with fail
                refine hER.mono ?_
                rintro e w4 ⟨rfl, hn4⟩
                clear hER
                go_wp2_with fail
                go_meet
                case rel =>
                  obtain ⟨F4, d1, d2, d3⟩ := HNX.out _ _ hn4 ho4 hw4 hs4
                  exact ⟨_, F4, SS, rfl, d1, hs4, fun _ h => HZ.out h, d2, d3⟩
            have hc1' : (op.c == 1) = false := by simp [hc]
            by_cases hcb : op.c = 2
            · as_aux_lemma =>
                rw [hcb] at x0 hc1'
                have ho4 := ok21_pg HOK.out.1 op.a op.p op.b
                have hw4 := HOK.out.2.pg op.a op.p op.b
                have hs4 := st21_pg S op.a op.p op.b
                have hz4 := pg21_zero (S := S) (x := op.a) (y := op.p) (L := op.b)
                have HZ : Hid (pgE21 S op.a op.p op.b.length = 0 → S.on = true ∧ (pgS21 S op.a op.p op.b).lg.length = NL + 1) := fun h => ⟨(hz4 h).1, by have := (hz4 h).2; have := HNL.out.1; omega⟩
                clear hER hCU hPO hTU hz4 x3 hc1' hc
                generalize pgE21 S op.a op.p op.b.length = EE at *
                generalize pgS21 S op.a op.p op.b = SS at *
                go_wp2_with fail
                refine hPG.mono ?_
                rintro e w4 ⟨rfl, hn4⟩
                clear hPG
                go_wp2_with fail
                go_meet
                case rel =>
                  obtain ⟨F4, d1, d2, d3⟩ := HNX.out _ _ hn4 ho4 hw4 hs4
                  exact ⟨_, F4, SS, rfl, d1, hs4, fun _ h => HZ.out h, d2, d3⟩
            have hc2' : (op.c == 2) = false := by simp [hcb]
            have HN12 : Hid (¬ (op.c = 1 ∨ op.c = 2)) := fun h => by rcases h with h | h; (exact hc h); (exact hcb h)
            clear hER hPG x1 x2
            by_cases hcc : op.c = 4
            · as_aux_lemma =>
                rw [hcc] at x0 hc1' hc2'
                have ho4 := ok21_cu HOK.out.1 op.n HOF.out.1.n op.b
                have hw4 := HOK.out.2.cu op.n op.b
                have hs4 := st21_cu S op.n op.b
                clear hPO hTU hc hcb hc1' hc2'
                generalize cuE21 S op.n op.b.length = EE at *
                generalize cuS21 S op.n op.b = SS at *
                go_wp2_with fail
                refine hCU.mono ?_
                rintro e w4 ⟨rfl, hn4⟩
                clear hCU
                go_wp2_with fail
                go_meet
                case rel =>
                  obtain ⟨F4, d1, d2, d3⟩ := HNX.out _ _ hn4 ho4 hw4 hs4
                  exact ⟨_, F4, SS, rfl, d1, hs4, fun h _ => absurd h HN12.out, d2, d3⟩
            have hc3' : (op.c == 4) = false := by simp [hcc]
            by_cases hcd : op.c = 5
            · as_aux_lemma =>
                rw [hcd] at x0 hc1' hc2' hc3'
                have ho4 := ok21_po HOK.out.1
                have hw4 := HOK.out.2.po
                have hs4 := st21_po S
                clear hCU hTU hc hcb hcc hc1' hc2' hc3' x3
                generalize ({ S with on := true } : Fs21) = SS at *
                go_wp2_with fail
                refine hPO.mono ?_
                rintro e w4 ⟨rfl, hn4⟩
                clear hPO
                go_wp2_with fail
                go_meet
                case rel =>
                  obtain ⟨F4, d1, d2, d3⟩ := HNX.out _ _ hn4 ho4 hw4 hs4
                  exact ⟨_, F4, SS, rfl, d1, hs4, fun h _ => absurd h HN12.out, d2, d3⟩
            have hc4' : (op.c == 5) = false := by simp [hcd]
            by_cases hce : op.c = 6
            · as_aux_lemma =>
                rw [hce] at x0 hc1' hc2' hc3' hc4'
                have ho4 := ok21_tu HOK.out.1
                have hw4 := HOK.out.2.tu
                have hs4 := st21_tu S
                clear hCU hPO hc hcb hcc hcd hc1' hc2' hc3' hc4' x3
                generalize st21 S.on = EE at *
                generalize tuS21 S = SS at *
                go_wp2_with fail
                refine hTU.mono ?_
                rintro e w4 ⟨rfl, hn4⟩
                clear hTU
                go_wp2_with fail
                go_meet
                case rel =>
                  obtain ⟨F4, d1, d2, d3⟩ := HNX.out _ _ hn4 ho4 hw4 hs4
                  exact ⟨_, F4, SS, rfl, d1, hs4, fun h _ => absurd h HN12.out, d2, d3⟩
            have hc5' : (op.c == 6) = false := by simp [hce]
            clear hCU hPO hTU hc hcb hcc hcd hce x3
            go_wp2_with fail
            go_meet
            case rel =>
              have hn4 := HD3.out.1.fl.stay (Below.refl _ _)
              obtain ⟨F4, d1, d2, d3⟩ := HNX.out _ _ hn4 HOK.out.1 HOK.out.2 (st21_refl S)
              exact ⟨_, F4, S, rfl, d1, st21_refl S, fun h _ => absurd h HN12.out, d2, d3⟩
        case rest =>
          as_aux_lemma =>
            obtain ⟨code, F4, S4, rfl, hd4, hs4, hz4, hf4, hk4⟩ := hcut
            clear x0 x1 x2 x3 hER hPG hCU hPO hTU
            obtain ⟨y1, y2⟩ := HGL.out.2.2.2.2.2 wc (hk4.block gl HGL.out.2.1 HGL.out.1)
            obtain ⟨w5, hw5⟩ : ∃ w5, w5 = wc.setCell ⟨gl, 0, none⟩ (.int .u8 1) := ⟨_, rfl⟩
            have HW5 : Hid (wc.setCell ⟨gl, 0, none⟩ (.int .u8 1) = w5) := hw5.symm
            have k5 : Kp (fun k => k = gl) wc w5 := by rw [hw5]; exact Kp.set (S := fun k => k = gl) rfl _
            have hn5 : ¬ F4 gl := fun e => by
              rcases hf4 _ e with h | h
              · exact HGL.out.1 h
              · have := HGL.out.2.1; omega
            have hD5 := hd4.set k5 hn5 HGL.out.2.2.2.1
            have HKK : Hid (∀ k, k < w3.heap.size → ¬ (F k ∨ k = gl) → w5.heap[k]? = w3.heap[k]?) := fun k hk hn => (k5.block k (Nat.lt_of_lt_of_le hk hk4.size) (fun e => hn (.inr e))).trans (hk4.block k hk (fun e => hn (.inl e)))
            have HLK : Hid (∀ (t g' : Nat) (S0 : Fs21), La21 (fun k => F k ∨ k = gl) S0 t g' w3 → La21 F4 S0 t g' w5) := fun t g' S0 h => h.kp (Nat.le_trans hk4.size k5.size) HKK.out (fun k e => by rcases hf4 k e with h | h; (exact .inl (.inl h)); (exact .inr h))
            have q5 := (HKK.out gu HD3.out.2.2.2.1 (fun e => by rcases e with e | e; (exact HNU.out.2 e); (exact HGL.out.2.2.2.2.1 e))).trans HD3.out.2.2.1
            have x0 : w5.cell? ⟨gu, 0, none⟩ = some (.int .i64 op.c) := by simp [World.cell?, q5]
            obtain ⟨LN, hLN⟩ : ∃ LN, LN = S4.lg.length := ⟨_, rfl⟩
            have hlen4 := hs4.len
            rw [← hLN] at hlen4 hz4
            rw [HNL.out.1] at hlen4
            have hnl := HNL.out.2.2
            have HO5 := pops21 hD5.fl hD5.ok
            rw [← hLN] at HO5
            have HON5 := pon21 hD5.fl hD5.ok
            have HPO5 := ppow21 hD5.fl hD5.ok
            have HD5 : Hid (De21 w1 b PN QN (2 * i + 1) F4 S4 w5 ∧ St21 S S4 ∧ LN = S4.lg.length) := ⟨hD5, hs4, hLN⟩
            have HZ4 : Hid (op.c = 1 ∨ op.c = 2 → code = 0 → S.on = true ∧ LN = NL + 1) := hz4
            have HLE4 : Hid (NL ≤ LN ∧ LN ≤ NL + 1 ∧ (S.on = false → LN = NL)) := hlen4
            have hnw : IntKind.i64.wrap ((NL : Int) + 1) = ((NL + 1 : Nat) : Int) := by rw [IntWalk.i64_in _ (by omega)]; omega
            clear hw5 hd4 hs4 hz4 hf4 hk4 k5 hn5 hD5 q5 hLN hlen4
            go_upto_region 24 with fail
            (try rw [HW5.out])
            clear y1 y2
            go_upto_region 26 with fail
            go_cut [160] from 52 to 263 (fun s160 wx => s160 = .bool false ∧ wx = w5)
            case first =>
              as_aux_lemma =>
                have hl1 : ¬ (NL : Int) + 1 < (LN : Int) := by have := HLE4.out; omega
                have hl2 : ¬ LN < NL := by have := HLE4.out; omega
                by_cases h0 : code = 0
                · as_aux_lemma =>
                    by_cases hN : op.c = 1 ∨ op.c = 2
                    · as_aux_lemma =>
                        have hLE := (HZ4.out hN h0).2
                        have HL1 : Hid (LN = NL + 1) := hLE
                        have hq : ((LN : Int) == (NL : Int) + 1) = true := by simp; omega
                        have hq' : ((LN : Int) != (NL : Int) + 1) = false := by simp; omega
                        subst h0
                        clear hLE
                        rcases hN with hN | hN
                        · as_aux_lemma =>
                            rw [hN] at x0
                            go_wp2_with (go_at_call 8; refine HO5.mono ?_; rintro e wx ⟨rfl, hwx⟩; subst wx)
                            go_meet
                            case rel => exact ⟨by first | rfl | exact congrArg Value.bool (by have := HL1.out; simp; omega), rfl⟩
                        · as_aux_lemma =>
                            rw [hN] at x0
                            go_wp2_with (go_at_call 8; refine HO5.mono ?_; rintro e wx ⟨rfl, hwx⟩; subst wx)
                            go_meet
                            case rel => exact ⟨by first | rfl | exact congrArg Value.bool (by have := HL1.out; simp; omega), rfl⟩
                    · as_aux_lemma =>
                        have hN1' : (op.c == 1) = false := by simp; exact fun h => hN (.inl h)
                        have hN2' : (op.c == 2) = false := by simp; exact fun h => hN (.inr h)
                        subst h0
                        clear hN
                        go_wp2_with (go_at_call 8; refine HO5.mono ?_; rintro e wx ⟨rfl, hwx⟩; subst wx)
                        go_meet
                        case rel => exact ⟨by first | rfl | exact congrArg Value.bool (by have := HLE4.out; simp; omega), rfl⟩
                · as_aux_lemma =>
                    have h0' : (code == 0) = false := by simp [h0]
                    clear h0
                    go_wp2_with (go_at_call 8; refine HO5.mono ?_; rintro e wx ⟨rfl, hwx⟩; subst wx)
                    go_meet
                    case rel => exact ⟨by first | rfl | exact congrArg Value.bool (by have := HLE4.out; simp; omega), rfl⟩

            case rest =>
              as_aux_lemma =>
                obtain ⟨rfl, hwx⟩ := hcut
                subst wc
                clear x0
                go_wp2_with fail
                refine HON5.mono ?_
                rintro e wx ⟨rfl, hwx⟩
                subst wx
                clear HON5 HO5
                go_wp2_with fail
                refine HPO5.mono ?_
                rintro e w6 ⟨rfl, hn6⟩
                clear HPO5
                obtain ⟨S6, hS6⟩ : ∃ S6, S6 = ({ S4 with on := true } : Fs21) := ⟨_, rfl⟩
                rw [← hS6] at hn6
                have hs6 : St21 S S6 := by rw [hS6]; exact HD5.out.2.1.pow
                have hl6 : S6.lg.length = LN := by rw [hS6]; exact HD5.out.2.2.symm
                have hon6 : S6.on = true := by rw [hS6]
                obtain ⟨F6, hD6, hf6, hk6⟩ := HD5.out.1.next hn6 (by rw [hS6]; exact ok21_po HD5.out.1.ok) (by rw [hS6]; exact HD5.out.1.wk.po) (by rw [hS6]) (by rw [hS6]) (m := 2 * i + 1) (by rw [hl6, HD5.out.2.2]; exact HD5.out.1.lg)
                have HLK6 : Hid (∀ (t g' : Nat) (S0 : Fs21), La21 (fun k => F k ∨ k = gl) S0 t g' w3 → La21 F6 S0 t g' w6) := fun t g' S0 h => (HLK.out t g' S0 h).fn hk6 hf6
                have HALL := pall21 hD6.fl hD6.ok su (by rw [hD6.pg]; exact HPQ.out.1.symm) (by rw [hD6.ps]; exact HPQ.out.2.1.symm)
                rw [hon6] at HALL
                obtain ⟨z0, z1, z2, z3, z4⟩ := HQ.out w6 hD6.bl
                have HD6 : Hid (De21 w1 b PN QN (2 * i + 1) F6 S6 w6 ∧ St21 S S6 ∧ S6.lg.length = LN ∧ S6.on = true) := ⟨hD6, hs6, hl6, hon6⟩
                clear hn6 hS6 hs6 hl6 hon6 hD6 hf6 hk6
                go_wp2_with fail
                clear z0 z1 z2 z3 z4
                refine HALL.mono ?_
                rintro e w7 ⟨⟨gn, rfl, hArn⟩, b7⟩
                clear HALL
                have hD7 := HD6.out.1.old b7
                have hLn : La21 F6 S6 12288 gn w7 := hArn.la HD6.out.1.lt
                have HLG := plog21 hD7.fl hD7.ok (by have := HD6.out.2.2.1; have := HLE4.out; have := HNL.out; omega)
                have HO7 := fun (V : World) (hV : Below w7.heap.size w7 V) => pops21 (hD7.old hV).fl hD7.ok
                rw [HD6.out.2.2.1] at HLG
                have HD7 : Hid (De21 w1 b PN QN (2 * i + 1) F6 S6 w7 ∧ La21 F6 S6 12288 gn w7 ∧ (∀ (t g' : Nat) (S0 : Fs21), La21 (fun k => F k ∨ k = gl) S0 t g' w3 → La21 F6 S0 t g' w7)) := ⟨hD7, hLn, fun t g' S0 h => (HLK6.out t g' S0 h).old b7⟩
                clear hD7 hLn hArn b7 HO7
                go_wp2_with fail
                refine HLG.mono ?_
                rintro e w8 ⟨⟨ra, rc, rfl, hown⟩, b8⟩
                clear HLG
                have hD8 := HD7.out.1.old b8
                have HO8 : Hid (∀ V : World, Below w8.heap.size w8 V → Calls Try.prog 8 #[.pointer (some ⟨b, 0, none⟩)] V fun e w' => e = .returned (.int .i64 (LN : Int)) ∧ w' = V) := fun V hV => by
                  have := pops21 (hD8.old hV).fl hD8.ok
                  rw [HD6.out.2.2.1] at this
                  exact this
                have hO8 := HO8.out w8 (Below.refl _ _)
                have HROW : Hid (NL < LN → ∃ gr o, S6.lg[NL]? = some o ∧ ra = some ⟨gr, 0, none⟩ ∧ (∀ V : World, Below w8.heap.size w8 V → V.cell? ⟨gr, NL * 3, none⟩ = some (.int .i64 o.1) ∧ V.cell? ⟨gr, NL * 3 + 1, none⟩ = some (.int .i64 o.2.1) ∧ V.cell? ⟨gr, NL * 3 + 2, none⟩ = some (.int .i64 o.2.2))) := fun hj => by
                  have hj' : NL < S6.lg.length := by have := HD6.out.2.2.1; omega
                  obtain ⟨gr, hgr1, hgr2⟩ : ∃ gr, ra = some ⟨gr, 0, none⟩ ∧ w7.heap.size ≤ gr := by
                    rcases hown.2 with ⟨h1, h2⟩ | ⟨gr, cp, cur, h1, h2, _⟩
                    · omega
                    · simp only [Value.slice.injEq] at h1
                      exact ⟨gr, h1.1, h2⟩
                  subst hgr1
                  obtain ⟨l1, l2, l3⟩ := lgc21_get S6.lg NL S6.lg[NL] (List.getElem?_eq_getElem hj')
                  have hadd : ∀ k, (⟨gr, 0, none⟩ : Addr).add k = ⟨gr, k, none⟩ := by intro k; unfold Addr.add; split <;> simp_all
                  have m1 := hown.cells (g := gr) rfl _ _ l1
                  have m2 := hown.cells (g := gr) rfl _ _ l2
                  have m3 := hown.cells (g := gr) rfl _ _ l3
                  rw [hadd] at m1 m2 m3
                  have hlt := World.block_lt_of_cell? _ _ m1
                  exact ⟨gr, S6.lg[NL], List.getElem?_eq_getElem hj', rfl, fun V hV => ⟨(hV.cell (p := ⟨gr, NL * 3, none⟩) hlt).trans m1, (hV.cell (p := ⟨gr, NL * 3 + 1, none⟩) hlt).trans m2, (hV.cell (p := ⟨gr, NL * 3 + 2, none⟩) hlt).trans m3⟩⟩
                have HD8 : Hid (∀ V : World, Below w8.heap.size w8 V → De21 w1 b PN QN (2 * i + 1) F6 S6 V ∧ La21 F6 S6 12288 gn V ∧ (∀ (t g' : Nat) (S0 : Fs21), La21 (fun k => F k ∨ k = gl) S0 t g' w3 → La21 F6 S0 t g' V)) := fun V hV => by
                  have h := b8.trans (hV.mono b8.size)
                  exact ⟨HD7.out.1.old h, HD7.out.2.1.old h, fun t g' S0 hh => (HD7.out.2.2 t g' S0 hh).old h⟩
                clear hown b8 hD8
                go_wp2_with fail
                refine hO8.mono ?_
                rintro e wx ⟨rfl, hwx⟩
                subst wx
                clear hO8
                obtain ⟨NN, hNN⟩ : ∃ NN : Nat, NN = 12288 := ⟨_, rfl⟩
                have HNN : Hid (NN = 12288) := hNN
                clear hNN
                go_upto_block 3 with fail
                go_cut [] from 186 to 248 (fun wx => Below w8.heap.size w8 wx)
                case first =>
                  as_aux_lemma =>
                    go_wp2_with fail
                    go_loopw [188] (fun tj wv => ∃ j : Nat, j ≤ NN ∧ tj = .int .i64 (j : Int) ∧ Below w8.heap.size w8 wv) (fun tj _ => NN - (intOf tj).toNat)
                    case atStart => exact ⟨0, by omega, rfl, Below.refl _ _⟩
                    case round =>
                      obtain ⟨j, hj, rfl, hbv⟩ := hrel
                      obtain ⟨d1, d2, d3⟩ := HD8.out wr hbv
                      have hnn := HNN.out
                      by_cases hj2 : j < 12288
                      rotate_left
                      · as_aux_lemma =>
                          have hji : ¬ (j : Int) < 12288 := by omega
                          have HBV : Hid (Below w8.heap.size w8 wr) := hbv
                          clear hj hj2 hnn d1 d2 d3 hbv
                          go_wp2_with fail
                          go_meet
                          case rel => exact HBV.out
                      have hji : (j : Int) < 12288 := by omega
                      have hj0 : (0 : Int) ≤ (j : Int) := by omega
                      have hjw : IntKind.i64.wrap ((j : Int) + 1) = ((j + 1 : Nat) : Int) := by rw [IntWalk.i64_in _ (by omega)]; omega
                      have hO := HO8.out wr hbv
                      obtain ⟨kb, cB, sB⟩ := d2.at j hj2
                      clear hnn

                      obtain ⟨ka, cA, sA⟩ := (d3 _ gw S HD3.out.2.1).at j hj2
                      rw [HSN.out, if_pos rfl] at cA sA
                      have hal := HD6.out.2.1.al (by have := HD3.out.1.ok.pg; omega) 12288 j
                      rw [HNL.out.1, HD6.out.2.2.1] at hal
                      have HAL : Hid (al21 S6 12288 j = al21 S 12288 j ∨ (∃ o, S6.lg[NL]? = some o ∧ NL < LN ∧ o.2.1 = ((j / 4096 : Nat) : Int) ∧ o.2.2 = ((j % 4096 : Nat) : Int))) := hal
                      obtain ⟨A, hA⟩ : ∃ A, A = al21 S 12288 j := ⟨_, rfl⟩
                      obtain ⟨B, hB⟩ : ∃ B, B = al21 S6 12288 j := ⟨_, rfl⟩
                      rw [← hA] at cA sA
                      rw [← hB] at cB sB
                      have HABE : Hid (A = al21 S 12288 j ∧ B = al21 S6 12288 j) := ⟨hA, hB⟩
                      have hdiv : (j : Int) / 4096 = ((j / 4096 : Nat) : Int) := by omega
                      have hmod : (j : Int) % 4096 = ((j % 4096 : Nat) : Int) := by omega
                      have htd : Int.tdiv (j : Int) 4096 = ((j / 4096 : Nat) : Int) := by rw [Int.tdiv_eq_ediv_of_nonneg hj0]; exact hdiv
                      have htm : Int.tmod (j : Int) 4096 = ((j % 4096 : Nat) : Int) := by rw [Int.tmod_eq_emod_of_nonneg hj0]; exact hmod
                      have hwd : IntKind.i64.wrap ((j / 4096 : Nat) : Int) = ((j / 4096 : Nat) : Int) := IntWalk.i64_in _ (by omega)
                      have hwm : IntKind.i64.wrap ((j % 4096 : Nat) : Int) = ((j % 4096 : Nat) : Int) := IntWalk.i64_in _ (by omega)
                      have HC : Hid (wr.cell? ⟨gw, j, none⟩ = some (.slice ka A.length A.length) ∧ wr.cell? ⟨gn, j, none⟩ = some (.slice kb B.length B.length) ∧ Seg wr ka A ∧ Seg wr kb B ∧ Below w8.heap.size w8 wr) := ⟨cA, cB, sA, sB, hbv⟩
                      clear hal hA hB cA cB sA sB d1 d2 d3 hbv hdiv hmod
                      go_upto_region 39 with fail
                      go_cut [22] from 189 to 248 (fun s22 wx => wx = wr ∧ ∃ tt : Bool, s22 = .bool tt ∧ (tt = false → B = A))
                      case first =>
                        as_aux_lemma =>
                          by_cases hgt : NL < LN
                          · as_aux_lemma =>
                              have hgti : (NL : Int) < (LN : Int) := by omega
                              obtain ⟨gr, o, ho, hra, hcs⟩ := HROW.out hgt
                              obtain ⟨k0, k1, k2⟩ := hcs wr HC.out.2.2.2.2
                              subst hra
                              have HO : Hid (S6.lg[NL]? = some o) := ho
                              obtain ⟨kd, ax, py⟩ := o
                              simp only at k0 k1 k2
                              clear hcs ho hgt k0
                              have hnl0 : (0 : Int) ≤ (NL : Int) := by omega
                              obtain ⟨JD, hJD⟩ : ∃ JD, JD = ((j / 4096 : Nat) : Int) := ⟨_, rfl⟩
                              obtain ⟨JM, hJM⟩ : ∃ JM, JM = ((j % 4096 : Nat) : Int) := ⟨_, rfl⟩
                              have HJ : Hid (JD = ((j / 4096 : Nat) : Int) ∧ JM = ((j % 4096 : Nat) : Int)) := ⟨hJD, hJM⟩
                              rw [← hJD] at htd hwd
                              rw [← hJM] at htm hwm
                              clear hJD hJM
                              have HFIN : Hid (¬ (ax = JD ∧ py = JM) → B = A) := fun hne => by
                                rcases HAL.out with e | ⟨o, e1, -, e2, e3⟩
                                · rw [HABE.out.1, HABE.out.2]; exact e
                                · rw [HO.out] at e1
                                  cases e1
                                  exact absurd ⟨e2.trans HJ.out.1.symm, e3.trans HJ.out.2.symm⟩ hne
                              by_cases h1 : ax = JD
                              · as_aux_lemma =>
                                  by_cases h2 : py = JM
                                  · as_aux_lemma =>
                                      subst h1 h2
                                      go_wp2_with (first | (go_at_call 8; refine hO.mono ?_; rintro e wx ⟨rfl, hwx⟩; subst wx))
                                      go_meet
                                      case rel => exact ⟨rfl, true, rfl, nofun⟩
                                  · as_aux_lemma =>
                                      have h2' : (py == JM) = false := by simp [h2]
                                      subst h1
                                      have HN2 : Hid (¬ py = JM) := h2
                                      clear h2
                                      go_wp2_with (first | (go_at_call 8; refine hO.mono ?_; rintro e wx ⟨rfl, hwx⟩; subst wx))
                                      go_meet
                                      case rel => exact ⟨rfl, false, rfl, fun _ => HFIN.out (fun h => HN2.out h.2)⟩
                              · as_aux_lemma =>
                                  have h1' : (ax == JD) = false := by simp [h1]
                                  have HN1 : Hid (¬ ax = JD) := h1
                                  clear h1
                                  go_wp2_with (first | (go_at_call 8; refine hO.mono ?_; rintro e wx ⟨rfl, hwx⟩; subst wx))
                                  go_meet
                                  case rel => exact ⟨rfl, false, rfl, fun _ => HFIN.out (fun h => HN1.out h.1)⟩
                          · as_aux_lemma =>
                              have hgti : ¬ (NL : Int) < (LN : Int) := by omega
                              have HGT : Hid (¬ NL < LN) := hgt
                              clear hgt
                              go_wp2_with (first | (go_at_call 8; refine hO.mono ?_; rintro e wx ⟨rfl, hwx⟩; subst wx))
                              go_meet
                              case rel =>
                                refine ⟨rfl, false, rfl, fun _ => ?_⟩
                                rcases HAL.out with e | ⟨o, -, e1, -⟩
                                · rw [HABE.out.1, HABE.out.2]; exact e
                                · exact absurd e1 HGT.out
                      case rest =>
                        as_aux_lemma =>
                          obtain ⟨hwc, tt, rfl, htt⟩ := hcut
                          subst wc
                          obtain ⟨cA, cB, sA, sB, hbv⟩ := HC.out
                          obtain ⟨LA, hLA⟩ : ∃ LA, LA = A.length := ⟨_, rfl⟩
                          obtain ⟨LB, hLB⟩ : ∃ LB, LB = B.length := ⟨_, rfl⟩
                          rw [← hLA] at cA
                          rw [← hLB] at cB
                          have HLL : Hid (LA = A.length ∧ LB = B.length) := ⟨hLA, hLB⟩
                          obtain ⟨v9, hv9⟩ : ∃ x, x = wr.drew := ⟨_, rfl⟩
                          have HV9 : Hid (wr.drew = v9) := hv9.symm
                          have HB9 : Hid (Below wr.heap.size wr v9 ∧ True) := ⟨by rw [hv9]; exact (Below.refl _ _).drew, trivial⟩
                          have hcc : v9.cell? ⟨gw, j, none⟩ = some (.slice ka LA LA) ∧ v9.cell? ⟨gn, j, none⟩ = some (.slice kb LB LB) := by rw [hv9]; exact ⟨cA, cB⟩
                          have HBV : Hid (Below w8.heap.size w8 wr) := hbv
                          clear hO hLA hLB hbv cA cB hv9
                          cases tt
                          · as_aux_lemma =>
                              have HAB : Hid (A = B) := (htt rfl).symm
                              have HSM : Hid (∀ W : World, Below wr.heap.size wr W → Calls Try.prog 17 #[.slice ka LA LA, .slice kb LB LB] W fun e w' => e = .returned (.bool true) ∧ w' = W) := fun W hW => by
                                have := bsame_any ka kb A B A.length B.length W (sA.old hW) (sB.old hW)
                                rw [HAB.out, show (B == B) = true by simp] at this
                                rw [HLL.out.1, HLL.out.2, HAB.out]
                                exact this

                              clear htt sA sB
                              go_upto_region 40 with fail
                              refine plain_region16 (fun w' => w'.cell? ⟨gw, j, none⟩ = some (.slice ka LA LA) ∧ w'.cell? ⟨gn, j, none⟩ = some (.slice kb LB LB)) 33 (by kernel_rfl) (by rw [HV9.out]; exact hcc) (fun hHeld => ?_)
                              rw [HV9.out] at hHeld ⊢
                              clear hcc
                              refine wpAnyK_take (i := 0) (v := .bool true) rfl (by kernel_rfl) (by kernel_rfl) (by kernel_rfl) (by kernel_rfl) (fun _ _ _ h => h) (Or.inl ⟨by rfl, fun w hSw => by go_simp⟩) hHeld ?_
                              simp only [List.getElem_toArray, List.getElem_cons_zero, Act.put, List.setIfInBounds_toArray, List.set_cons_zero, List.set_cons_succ]
                              refine wpAnyK_take (i := 1) (v := .bool true) rfl (by kernel_rfl) (by kernel_rfl) (by kernel_rfl) (by kernel_rfl) (fun _ _ _ h => h) (Or.inl ⟨by rfl, fun w hSw => by go_simp⟩) hHeld ?_
                              simp only [List.getElem_toArray, List.getElem_cons_zero, List.getElem_cons_succ, Act.put, List.setIfInBounds_toArray, List.set_cons_zero, List.set_cons_succ]
                              refine wpAnyK_take (i := 2) (v := .bool false) rfl (by kernel_rfl) (by kernel_rfl) (by kernel_rfl) (by kernel_rfl) (fun _ _ _ h => h) (Or.inl ⟨by rfl, fun w hSw => by go_simp⟩) hHeld ?_
                              simp only [List.getElem_toArray, List.getElem_cons_zero, List.getElem_cons_succ, Act.put, List.setIfInBounds_toArray, List.set_cons_zero, List.set_cons_succ]
                              refine wpAnyK_take (i := 3) (v := .bool true) rfl (by kernel_rfl) (by kernel_rfl) (by kernel_rfl) (by kernel_rfl) (fun _ _ _ h => h) (Or.inl ⟨by rfl, fun w hSw => by go_simp⟩) hHeld ?_
                              simp only [List.getElem_toArray, List.getElem_cons_zero, List.getElem_cons_succ, Act.put, List.setIfInBounds_toArray, List.set_cons_zero, List.set_cons_succ]
                              refine wpAnyK_take (i := 4) (v := .bool true) rfl (by kernel_rfl) (by kernel_rfl) (by kernel_rfl) (by kernel_rfl) (fun _ _ _ h => h) (Or.inl ⟨by rfl, fun w hSw => by go_simp⟩) hHeld ?_
                              simp only [List.getElem_toArray, List.getElem_cons_zero, List.getElem_cons_succ, Act.put, List.setIfInBounds_toArray, List.set_cons_zero, List.set_cons_succ]
                              refine wpAnyK_take (i := 5) (v := .bool true) rfl (by kernel_rfl) (by kernel_rfl) (by kernel_rfl) (by kernel_rfl) (fun _ _ _ h => h) (Or.inl ⟨by rfl, fun w hSw => by go_simp⟩) hHeld ?_
                              simp only [List.getElem_toArray, List.getElem_cons_zero, List.getElem_cons_succ, Act.put, List.setIfInBounds_toArray, List.set_cons_zero, List.set_cons_succ]
                              refine wpAnyK_take (i := 6) (v := .slice (some ⟨gw, 0, none⟩) 12288 12288) rfl (by kernel_rfl) (by kernel_rfl) (by kernel_rfl) (by kernel_rfl) (fun _ _ _ h => h) (Or.inl ⟨by rfl, fun w hSw => by go_simp⟩) hHeld ?_
                              simp only [List.getElem_toArray, List.getElem_cons_zero, List.getElem_cons_succ, Act.put, List.setIfInBounds_toArray, List.set_cons_zero, List.set_cons_succ]
                              refine wpAnyK_take (i := 7) (v := .int .i64 (j : Int)) rfl (by kernel_rfl) (by kernel_rfl) (by kernel_rfl) (by kernel_rfl) (fun _ _ _ h => h) (Or.inl ⟨by rfl, fun w hSw => by go_simp⟩) hHeld ?_
                              simp only [List.getElem_toArray, List.getElem_cons_zero, List.getElem_cons_succ, Act.put, List.setIfInBounds_toArray, List.set_cons_zero, List.set_cons_succ]
                              refine wpAnyK_take (i := 8) (v := .pointer (some ⟨gw, j, none⟩)) rfl (by kernel_rfl) (by kernel_rfl) (by kernel_rfl) (by kernel_rfl) (fun _ _ _ h => h) (Or.inl ⟨by rfl, fun w hSw => by go_simp⟩) hHeld ?_
                              simp only [List.getElem_toArray, List.getElem_cons_zero, List.getElem_cons_succ, Act.put, List.setIfInBounds_toArray, List.set_cons_zero, List.set_cons_succ]
                              refine wpAnyK_take (i := 9) (v := .slice ka LA LA) rfl (by kernel_rfl) (by kernel_rfl) (by kernel_rfl) (by kernel_rfl) (fun _ _ _ h => h) (Or.inl ⟨by rfl, fun w hSw => by go_simp⟩) hHeld ?_
                              simp only [List.getElem_toArray, List.getElem_cons_zero, List.getElem_cons_succ, Act.put, List.setIfInBounds_toArray, List.set_cons_zero, List.set_cons_succ]
                              refine wpAnyK_take (i := 10) (v := .slice (some ⟨gn, 0, none⟩) 12288 12288) rfl (by kernel_rfl) (by kernel_rfl) (by kernel_rfl) (by kernel_rfl) (fun _ _ _ h => h) (Or.inl ⟨by rfl, fun w hSw => by go_simp⟩) hHeld ?_
                              simp only [List.getElem_toArray, List.getElem_cons_zero, List.getElem_cons_succ, Act.put, List.setIfInBounds_toArray, List.set_cons_zero, List.set_cons_succ]
                              refine wpAnyK_take (i := 11) (v := .int .i64 (j : Int)) rfl (by kernel_rfl) (by kernel_rfl) (by kernel_rfl) (by kernel_rfl) (fun _ _ _ h => h) (Or.inl ⟨by rfl, fun w hSw => by go_simp⟩) hHeld ?_
                              simp only [List.getElem_toArray, List.getElem_cons_zero, List.getElem_cons_succ, Act.put, List.setIfInBounds_toArray, List.set_cons_zero, List.set_cons_succ]
                              refine wpAnyK_take (i := 12) (v := .pointer (some ⟨gn, j, none⟩)) rfl (by kernel_rfl) (by kernel_rfl) (by kernel_rfl) (by kernel_rfl) (fun _ _ _ h => h) (Or.inl ⟨by rfl, fun w hSw => by go_simp⟩) hHeld ?_
                              simp only [List.getElem_toArray, List.getElem_cons_zero, List.getElem_cons_succ, Act.put, List.setIfInBounds_toArray, List.set_cons_zero, List.set_cons_succ]
                              refine wpAnyK_take (i := 13) (v := .slice kb LB LB) rfl (by kernel_rfl) (by kernel_rfl) (by kernel_rfl) (by kernel_rfl) (fun _ _ _ h => h) (Or.inl ⟨by rfl, fun w hSw => by go_simp⟩) hHeld ?_
                              simp only [List.getElem_toArray, List.getElem_cons_zero, List.getElem_cons_succ, Act.put, List.setIfInBounds_toArray, List.set_cons_zero, List.set_cons_succ]
                              refine wpAnyK_one (i := 14) (by kernel_rfl) rfl (fun K hK => ?_)
                              (try simp only [List.getElem_toArray, List.getElem_cons_zero, List.getElem_cons_succ, Act.put, List.setIfInBounds_toArray, List.set_cons_zero, List.set_cons_succ])
                              go_simp
                              refine (HSM.out v9 HB9.out.1).mono ?_
                              rintro e ws ⟨rfl, hws⟩
                              subst ws
                              refine hK.out _ _ (fun _ => hHeld) (fun hHeld0 => ?_)
                              have hHeld := hHeld0 (by decide)
                              clear hHeld0 hK K
                              (try simp only [List.getElem_toArray, List.getElem_cons_zero, List.getElem_cons_succ, Act.put, List.setIfInBounds_toArray, List.set_cons_zero, List.set_cons_succ])
                              refine wpAnyK_take (i := 15) (v := .bool false) rfl (by kernel_rfl) (by kernel_rfl) (by kernel_rfl) (by kernel_rfl) (fun _ _ _ h => h) (Or.inl ⟨by rfl, fun w hSw => by go_simp⟩) hHeld ?_
                              simp only [List.getElem_toArray, List.getElem_cons_zero, List.getElem_cons_succ, Act.put, List.setIfInBounds_toArray, List.set_cons_zero, List.set_cons_succ]
                              refine wpAnyK_take (i := 16) (v := .bool false) rfl (by kernel_rfl) (by kernel_rfl) (by kernel_rfl) (by kernel_rfl) (fun _ _ _ h => h) (Or.inl ⟨by rfl, fun w hSw => by go_simp⟩) hHeld ?_
                              simp only [List.getElem_toArray, List.getElem_cons_zero, List.getElem_cons_succ, Act.put, List.setIfInBounds_toArray, List.set_cons_zero, List.set_cons_succ]
                              refine wpAnyK_take (i := 17) (v := .bool false) rfl (by kernel_rfl) (by kernel_rfl) (by kernel_rfl) (by kernel_rfl) (fun _ _ _ h => h) (Or.inl ⟨by rfl, fun w hSw => by go_simp⟩) hHeld ?_
                              simp only [List.getElem_toArray, List.getElem_cons_zero, List.getElem_cons_succ, Act.put, List.setIfInBounds_toArray, List.set_cons_zero, List.set_cons_succ]
                              refine wpAnyK_take (i := 18) (v := .bool true) rfl (by kernel_rfl) (by kernel_rfl) (by kernel_rfl) (by kernel_rfl) (fun _ _ _ h => h) (Or.inl ⟨by rfl, fun w hSw => by go_simp⟩) hHeld ?_
                              simp only [List.getElem_toArray, List.getElem_cons_zero, List.getElem_cons_succ, Act.put, List.setIfInBounds_toArray, List.set_cons_zero, List.set_cons_succ]
                              refine wpAnyK_take (i := 19) (v := .bool false) rfl (by kernel_rfl) (by kernel_rfl) (by kernel_rfl) (by kernel_rfl) (fun _ _ _ h => h) (Or.inl ⟨by rfl, fun w hSw => by go_simp⟩) hHeld ?_
                              simp only [List.getElem_toArray, List.getElem_cons_zero, List.getElem_cons_succ, Act.put, List.setIfInBounds_toArray, List.set_cons_zero, List.set_cons_succ]
                              refine wpAnyK_take (i := 20) (v := .bool false) rfl (by kernel_rfl) (by kernel_rfl) (by kernel_rfl) (by kernel_rfl) (fun _ _ _ h => h) (Or.inl ⟨by rfl, fun w hSw => by go_simp⟩) hHeld ?_
                              simp only [List.getElem_toArray, List.getElem_cons_zero, List.getElem_cons_succ, Act.put, List.setIfInBounds_toArray, List.set_cons_zero, List.set_cons_succ]
                              refine wpAnyK_take (i := 21) (v := undef) rfl (by kernel_rfl) (by kernel_rfl) (by kernel_rfl) (by kernel_rfl) (fun _ _ _ h => h) (Or.inr ⟨by rfl, rfl⟩) hHeld ?_
                              simp only [List.getElem_toArray, List.getElem_cons_zero, List.getElem_cons_succ, Act.put, List.setIfInBounds_toArray, List.set_cons_zero, List.set_cons_succ]
                              refine wpAnyK_take (i := 22) (v := undef) rfl (by kernel_rfl) (by kernel_rfl) (by kernel_rfl) (by kernel_rfl) (fun _ _ _ h => h) (Or.inr ⟨by rfl, rfl⟩) hHeld ?_
                              simp only [List.getElem_toArray, List.getElem_cons_zero, List.getElem_cons_succ, Act.put, List.setIfInBounds_toArray, List.set_cons_zero, List.set_cons_succ]
                              refine wpAnyK_take (i := 23) (v := undef) rfl (by kernel_rfl) (by kernel_rfl) (by kernel_rfl) (by kernel_rfl) (fun _ _ _ h => h) (Or.inr ⟨by rfl, rfl⟩) hHeld ?_
                              simp only [List.getElem_toArray, List.getElem_cons_zero, List.getElem_cons_succ, Act.put, List.setIfInBounds_toArray, List.set_cons_zero, List.set_cons_succ]
                              refine wpAnyK_take (i := 24) (v := undef) rfl (by kernel_rfl) (by kernel_rfl) (by kernel_rfl) (by kernel_rfl) (fun _ _ _ h => h) (Or.inr ⟨by rfl, rfl⟩) hHeld ?_
                              simp only [List.getElem_toArray, List.getElem_cons_zero, List.getElem_cons_succ, Act.put, List.setIfInBounds_toArray, List.set_cons_zero, List.set_cons_succ]
                              refine wpAnyK_take (i := 25) (v := undef) rfl (by kernel_rfl) (by kernel_rfl) (by kernel_rfl) (by kernel_rfl) (fun _ _ _ h => h) (Or.inr ⟨by rfl, rfl⟩) hHeld ?_
                              simp only [List.getElem_toArray, List.getElem_cons_zero, List.getElem_cons_succ, Act.put, List.setIfInBounds_toArray, List.set_cons_zero, List.set_cons_succ]
                              refine wpAnyK_take (i := 26) (v := undef) rfl (by kernel_rfl) (by kernel_rfl) (by kernel_rfl) (by kernel_rfl) (fun _ _ _ h => h) (Or.inr ⟨by rfl, rfl⟩) hHeld ?_
                              simp only [List.getElem_toArray, List.getElem_cons_zero, List.getElem_cons_succ, Act.put, List.setIfInBounds_toArray, List.set_cons_zero, List.set_cons_succ]
                              refine wpAnyK_take (i := 27) (v := undef) rfl (by kernel_rfl) (by kernel_rfl) (by kernel_rfl) (by kernel_rfl) (fun _ _ _ h => h) (Or.inr ⟨by rfl, rfl⟩) hHeld ?_
                              simp only [List.getElem_toArray, List.getElem_cons_zero, List.getElem_cons_succ, Act.put, List.setIfInBounds_toArray, List.set_cons_zero, List.set_cons_succ]
                              refine wpAnyK_take (i := 28) (v := undef) rfl (by kernel_rfl) (by kernel_rfl) (by kernel_rfl) (by kernel_rfl) (fun _ _ _ h => h) (Or.inr ⟨by rfl, rfl⟩) hHeld ?_
                              simp only [List.getElem_toArray, List.getElem_cons_zero, List.getElem_cons_succ, Act.put, List.setIfInBounds_toArray, List.set_cons_zero, List.set_cons_succ]
                              refine wpAnyK_take (i := 29) (v := undef) rfl (by kernel_rfl) (by kernel_rfl) (by kernel_rfl) (by kernel_rfl) (fun _ _ _ h => h) (Or.inr ⟨by rfl, rfl⟩) hHeld ?_
                              simp only [List.getElem_toArray, List.getElem_cons_zero, List.getElem_cons_succ, Act.put, List.setIfInBounds_toArray, List.set_cons_zero, List.set_cons_succ]
                              refine wpAnyK_take (i := 30) (v := undef) rfl (by kernel_rfl) (by kernel_rfl) (by kernel_rfl) (by kernel_rfl) (fun _ _ _ h => h) (Or.inr ⟨by rfl, rfl⟩) hHeld ?_
                              simp only [List.getElem_toArray, List.getElem_cons_zero, List.getElem_cons_succ, Act.put, List.setIfInBounds_toArray, List.set_cons_zero, List.set_cons_succ]
                              refine wpAnyK_take (i := 31) (v := .bool false) rfl (by kernel_rfl) (by kernel_rfl) (by kernel_rfl) (by kernel_rfl) (fun _ _ _ h => h) (Or.inl ⟨by rfl, fun w hSw => by go_simp⟩) hHeld ?_
                              simp only [List.getElem_toArray, List.getElem_cons_zero, List.getElem_cons_succ, Act.put, List.setIfInBounds_toArray, List.set_cons_zero, List.set_cons_succ]
                              refine wpAnyK_one (i := 32) (by kernel_rfl) rfl (fun K hK => ?_)
                              (try simp only [List.getElem_toArray, List.getElem_cons_zero, List.getElem_cons_succ, Act.put, List.setIfInBounds_toArray, List.set_cons_zero, List.set_cons_succ])
                              go_simp
                              refine hK.out _ _ (fun _ => hHeld) (fun _ => ?_)
                              clear hK K hHeld
                              refine wpAnyK_done (by kernel_rfl) ?_ _
                              go_wp2_with fail
                              go_roundw
                              case rel => exact ⟨j + 1, by have := HNN.out; omega, by go_num, by rw [← HV9.out]; exact HBV.out.drew⟩
                              case measure => have := HNN.out; simp [intOf]; omega
                          · as_aux_lemma =>
                              clear htt sA sB
                              go_upto_region 40 with fail
                              refine plain_region16 (fun w' => w'.cell? ⟨gw, j, none⟩ = some (.slice ka LA LA) ∧ w'.cell? ⟨gn, j, none⟩ = some (.slice kb LB LB)) 33 (by kernel_rfl) (by rw [HV9.out]; exact hcc) (fun hHeld => ?_)
                              rw [HV9.out] at hHeld ⊢
                              clear hcc
                              refine wpAnyK_take (i := 0) (v := .bool true) rfl (by kernel_rfl) (by kernel_rfl) (by kernel_rfl) (by kernel_rfl) (fun _ _ _ h => h) (Or.inl ⟨by rfl, fun w hSw => by go_simp⟩) hHeld ?_
                              simp only [List.getElem_toArray, List.getElem_cons_zero, Act.put, List.setIfInBounds_toArray, List.set_cons_zero, List.set_cons_succ]
                              refine wpAnyK_take (i := 1) (v := .bool true) rfl (by kernel_rfl) (by kernel_rfl) (by kernel_rfl) (by kernel_rfl) (fun _ _ _ h => h) (Or.inl ⟨by rfl, fun w hSw => by go_simp⟩) hHeld ?_
                              simp only [List.getElem_toArray, List.getElem_cons_zero, List.getElem_cons_succ, Act.put, List.setIfInBounds_toArray, List.set_cons_zero, List.set_cons_succ]
                              refine wpAnyK_take (i := 2) (v := .bool true) rfl (by kernel_rfl) (by kernel_rfl) (by kernel_rfl) (by kernel_rfl) (fun _ _ _ h => h) (Or.inl ⟨by rfl, fun w hSw => by go_simp⟩) hHeld ?_
                              simp only [List.getElem_toArray, List.getElem_cons_zero, List.getElem_cons_succ, Act.put, List.setIfInBounds_toArray, List.set_cons_zero, List.set_cons_succ]
                              refine wpAnyK_take (i := 3) (v := .bool false) rfl (by kernel_rfl) (by kernel_rfl) (by kernel_rfl) (by kernel_rfl) (fun _ _ _ h => h) (Or.inl ⟨by rfl, fun w hSw => by go_simp⟩) hHeld ?_
                              simp only [List.getElem_toArray, List.getElem_cons_zero, List.getElem_cons_succ, Act.put, List.setIfInBounds_toArray, List.set_cons_zero, List.set_cons_succ]
                              refine wpAnyK_take (i := 4) (v := .bool false) rfl (by kernel_rfl) (by kernel_rfl) (by kernel_rfl) (by kernel_rfl) (fun _ _ _ h => h) (Or.inl ⟨by rfl, fun w hSw => by go_simp⟩) hHeld ?_
                              simp only [List.getElem_toArray, List.getElem_cons_zero, List.getElem_cons_succ, Act.put, List.setIfInBounds_toArray, List.set_cons_zero, List.set_cons_succ]
                              refine wpAnyK_take (i := 5) (v := .bool false) rfl (by kernel_rfl) (by kernel_rfl) (by kernel_rfl) (by kernel_rfl) (fun _ _ _ h => h) (Or.inl ⟨by rfl, fun w hSw => by go_simp⟩) hHeld ?_
                              simp only [List.getElem_toArray, List.getElem_cons_zero, List.getElem_cons_succ, Act.put, List.setIfInBounds_toArray, List.set_cons_zero, List.set_cons_succ]
                              refine wpAnyK_take (i := 6) (v := undef) rfl (by kernel_rfl) (by kernel_rfl) (by kernel_rfl) (by kernel_rfl) (fun _ _ _ h => h) (Or.inr ⟨by rfl, rfl⟩) hHeld ?_
                              simp only [List.getElem_toArray, List.getElem_cons_zero, List.getElem_cons_succ, Act.put, List.setIfInBounds_toArray, List.set_cons_zero, List.set_cons_succ]
                              refine wpAnyK_take (i := 7) (v := undef) rfl (by kernel_rfl) (by kernel_rfl) (by kernel_rfl) (by kernel_rfl) (fun _ _ _ h => h) (Or.inr ⟨by rfl, rfl⟩) hHeld ?_
                              simp only [List.getElem_toArray, List.getElem_cons_zero, List.getElem_cons_succ, Act.put, List.setIfInBounds_toArray, List.set_cons_zero, List.set_cons_succ]
                              refine wpAnyK_take (i := 8) (v := undef) rfl (by kernel_rfl) (by kernel_rfl) (by kernel_rfl) (by kernel_rfl) (fun _ _ _ h => h) (Or.inr ⟨by rfl, rfl⟩) hHeld ?_
                              simp only [List.getElem_toArray, List.getElem_cons_zero, List.getElem_cons_succ, Act.put, List.setIfInBounds_toArray, List.set_cons_zero, List.set_cons_succ]
                              refine wpAnyK_take (i := 9) (v := undef) rfl (by kernel_rfl) (by kernel_rfl) (by kernel_rfl) (by kernel_rfl) (fun _ _ _ h => h) (Or.inr ⟨by rfl, rfl⟩) hHeld ?_
                              simp only [List.getElem_toArray, List.getElem_cons_zero, List.getElem_cons_succ, Act.put, List.setIfInBounds_toArray, List.set_cons_zero, List.set_cons_succ]
                              refine wpAnyK_take (i := 10) (v := undef) rfl (by kernel_rfl) (by kernel_rfl) (by kernel_rfl) (by kernel_rfl) (fun _ _ _ h => h) (Or.inr ⟨by rfl, rfl⟩) hHeld ?_
                              simp only [List.getElem_toArray, List.getElem_cons_zero, List.getElem_cons_succ, Act.put, List.setIfInBounds_toArray, List.set_cons_zero, List.set_cons_succ]
                              refine wpAnyK_take (i := 11) (v := undef) rfl (by kernel_rfl) (by kernel_rfl) (by kernel_rfl) (by kernel_rfl) (fun _ _ _ h => h) (Or.inr ⟨by rfl, rfl⟩) hHeld ?_
                              simp only [List.getElem_toArray, List.getElem_cons_zero, List.getElem_cons_succ, Act.put, List.setIfInBounds_toArray, List.set_cons_zero, List.set_cons_succ]
                              refine wpAnyK_take (i := 12) (v := undef) rfl (by kernel_rfl) (by kernel_rfl) (by kernel_rfl) (by kernel_rfl) (fun _ _ _ h => h) (Or.inr ⟨by rfl, rfl⟩) hHeld ?_
                              simp only [List.getElem_toArray, List.getElem_cons_zero, List.getElem_cons_succ, Act.put, List.setIfInBounds_toArray, List.set_cons_zero, List.set_cons_succ]
                              refine wpAnyK_take (i := 13) (v := undef) rfl (by kernel_rfl) (by kernel_rfl) (by kernel_rfl) (by kernel_rfl) (fun _ _ _ h => h) (Or.inr ⟨by rfl, rfl⟩) hHeld ?_
                              simp only [List.getElem_toArray, List.getElem_cons_zero, List.getElem_cons_succ, Act.put, List.setIfInBounds_toArray, List.set_cons_zero, List.set_cons_succ]
                              refine wpAnyK_take (i := 14) (v := undef) rfl (by kernel_rfl) (by kernel_rfl) (by kernel_rfl) (by kernel_rfl) (fun _ _ _ h => h) (Or.inr ⟨by rfl, rfl⟩) hHeld ?_
                              simp only [List.getElem_toArray, List.getElem_cons_zero, List.getElem_cons_succ, Act.put, List.setIfInBounds_toArray, List.set_cons_zero, List.set_cons_succ]
                              refine wpAnyK_take (i := 15) (v := undef) rfl (by kernel_rfl) (by kernel_rfl) (by kernel_rfl) (by kernel_rfl) (fun _ _ _ h => h) (Or.inr ⟨by rfl, rfl⟩) hHeld ?_
                              simp only [List.getElem_toArray, List.getElem_cons_zero, List.getElem_cons_succ, Act.put, List.setIfInBounds_toArray, List.set_cons_zero, List.set_cons_succ]
                              refine wpAnyK_take (i := 16) (v := .bool false) rfl (by kernel_rfl) (by kernel_rfl) (by kernel_rfl) (by kernel_rfl) (fun _ _ _ h => h) (Or.inl ⟨by rfl, fun w hSw => by go_simp⟩) hHeld ?_
                              simp only [List.getElem_toArray, List.getElem_cons_zero, List.getElem_cons_succ, Act.put, List.setIfInBounds_toArray, List.set_cons_zero, List.set_cons_succ]
                              refine wpAnyK_take (i := 17) (v := .bool false) rfl (by kernel_rfl) (by kernel_rfl) (by kernel_rfl) (by kernel_rfl) (fun _ _ _ h => h) (Or.inl ⟨by rfl, fun w hSw => by go_simp⟩) hHeld ?_
                              simp only [List.getElem_toArray, List.getElem_cons_zero, List.getElem_cons_succ, Act.put, List.setIfInBounds_toArray, List.set_cons_zero, List.set_cons_succ]
                              refine wpAnyK_take (i := 18) (v := .bool true) rfl (by kernel_rfl) (by kernel_rfl) (by kernel_rfl) (by kernel_rfl) (fun _ _ _ h => h) (Or.inl ⟨by rfl, fun w hSw => by go_simp⟩) hHeld ?_
                              simp only [List.getElem_toArray, List.getElem_cons_zero, List.getElem_cons_succ, Act.put, List.setIfInBounds_toArray, List.set_cons_zero, List.set_cons_succ]
                              refine wpAnyK_take (i := 19) (v := .bool false) rfl (by kernel_rfl) (by kernel_rfl) (by kernel_rfl) (by kernel_rfl) (fun _ _ _ h => h) (Or.inl ⟨by rfl, fun w hSw => by go_simp⟩) hHeld ?_
                              simp only [List.getElem_toArray, List.getElem_cons_zero, List.getElem_cons_succ, Act.put, List.setIfInBounds_toArray, List.set_cons_zero, List.set_cons_succ]
                              refine wpAnyK_take (i := 20) (v := .bool false) rfl (by kernel_rfl) (by kernel_rfl) (by kernel_rfl) (by kernel_rfl) (fun _ _ _ h => h) (Or.inl ⟨by rfl, fun w hSw => by go_simp⟩) hHeld ?_
                              simp only [List.getElem_toArray, List.getElem_cons_zero, List.getElem_cons_succ, Act.put, List.setIfInBounds_toArray, List.set_cons_zero, List.set_cons_succ]
                              refine wpAnyK_take (i := 21) (v := undef) rfl (by kernel_rfl) (by kernel_rfl) (by kernel_rfl) (by kernel_rfl) (fun _ _ _ h => h) (Or.inr ⟨by rfl, rfl⟩) hHeld ?_
                              simp only [List.getElem_toArray, List.getElem_cons_zero, List.getElem_cons_succ, Act.put, List.setIfInBounds_toArray, List.set_cons_zero, List.set_cons_succ]
                              refine wpAnyK_take (i := 22) (v := undef) rfl (by kernel_rfl) (by kernel_rfl) (by kernel_rfl) (by kernel_rfl) (fun _ _ _ h => h) (Or.inr ⟨by rfl, rfl⟩) hHeld ?_
                              simp only [List.getElem_toArray, List.getElem_cons_zero, List.getElem_cons_succ, Act.put, List.setIfInBounds_toArray, List.set_cons_zero, List.set_cons_succ]
                              refine wpAnyK_take (i := 23) (v := undef) rfl (by kernel_rfl) (by kernel_rfl) (by kernel_rfl) (by kernel_rfl) (fun _ _ _ h => h) (Or.inr ⟨by rfl, rfl⟩) hHeld ?_
                              simp only [List.getElem_toArray, List.getElem_cons_zero, List.getElem_cons_succ, Act.put, List.setIfInBounds_toArray, List.set_cons_zero, List.set_cons_succ]
                              refine wpAnyK_take (i := 24) (v := undef) rfl (by kernel_rfl) (by kernel_rfl) (by kernel_rfl) (by kernel_rfl) (fun _ _ _ h => h) (Or.inr ⟨by rfl, rfl⟩) hHeld ?_
                              simp only [List.getElem_toArray, List.getElem_cons_zero, List.getElem_cons_succ, Act.put, List.setIfInBounds_toArray, List.set_cons_zero, List.set_cons_succ]
                              refine wpAnyK_take (i := 25) (v := undef) rfl (by kernel_rfl) (by kernel_rfl) (by kernel_rfl) (by kernel_rfl) (fun _ _ _ h => h) (Or.inr ⟨by rfl, rfl⟩) hHeld ?_
                              simp only [List.getElem_toArray, List.getElem_cons_zero, List.getElem_cons_succ, Act.put, List.setIfInBounds_toArray, List.set_cons_zero, List.set_cons_succ]
                              refine wpAnyK_take (i := 26) (v := undef) rfl (by kernel_rfl) (by kernel_rfl) (by kernel_rfl) (by kernel_rfl) (fun _ _ _ h => h) (Or.inr ⟨by rfl, rfl⟩) hHeld ?_
                              simp only [List.getElem_toArray, List.getElem_cons_zero, List.getElem_cons_succ, Act.put, List.setIfInBounds_toArray, List.set_cons_zero, List.set_cons_succ]
                              refine wpAnyK_take (i := 27) (v := undef) rfl (by kernel_rfl) (by kernel_rfl) (by kernel_rfl) (by kernel_rfl) (fun _ _ _ h => h) (Or.inr ⟨by rfl, rfl⟩) hHeld ?_
                              simp only [List.getElem_toArray, List.getElem_cons_zero, List.getElem_cons_succ, Act.put, List.setIfInBounds_toArray, List.set_cons_zero, List.set_cons_succ]
                              refine wpAnyK_take (i := 28) (v := undef) rfl (by kernel_rfl) (by kernel_rfl) (by kernel_rfl) (by kernel_rfl) (fun _ _ _ h => h) (Or.inr ⟨by rfl, rfl⟩) hHeld ?_
                              simp only [List.getElem_toArray, List.getElem_cons_zero, List.getElem_cons_succ, Act.put, List.setIfInBounds_toArray, List.set_cons_zero, List.set_cons_succ]
                              refine wpAnyK_take (i := 29) (v := undef) rfl (by kernel_rfl) (by kernel_rfl) (by kernel_rfl) (by kernel_rfl) (fun _ _ _ h => h) (Or.inr ⟨by rfl, rfl⟩) hHeld ?_
                              simp only [List.getElem_toArray, List.getElem_cons_zero, List.getElem_cons_succ, Act.put, List.setIfInBounds_toArray, List.set_cons_zero, List.set_cons_succ]
                              refine wpAnyK_take (i := 30) (v := undef) rfl (by kernel_rfl) (by kernel_rfl) (by kernel_rfl) (by kernel_rfl) (fun _ _ _ h => h) (Or.inr ⟨by rfl, rfl⟩) hHeld ?_
                              simp only [List.getElem_toArray, List.getElem_cons_zero, List.getElem_cons_succ, Act.put, List.setIfInBounds_toArray, List.set_cons_zero, List.set_cons_succ]
                              refine wpAnyK_take (i := 31) (v := .bool false) rfl (by kernel_rfl) (by kernel_rfl) (by kernel_rfl) (by kernel_rfl) (fun _ _ _ h => h) (Or.inl ⟨by rfl, fun w hSw => by go_simp⟩) hHeld ?_
                              simp only [List.getElem_toArray, List.getElem_cons_zero, List.getElem_cons_succ, Act.put, List.setIfInBounds_toArray, List.set_cons_zero, List.set_cons_succ]
                              refine wpAnyK_one (i := 32) (by kernel_rfl) rfl (fun K hK => ?_)
                              (try simp only [List.getElem_toArray, List.getElem_cons_zero, List.getElem_cons_succ, Act.put, List.setIfInBounds_toArray, List.set_cons_zero, List.set_cons_succ])
                              go_simp
                              refine hK.out _ _ (fun _ => hHeld) (fun _ => ?_)
                              clear hK K hHeld
                              refine wpAnyK_done (by kernel_rfl) ?_ _
                              go_wp2_with fail
                              go_roundw
                              case rel => exact ⟨j + 1, by have := HNN.out; omega, by go_num, by rw [← HV9.out]; exact HBV.out.drew⟩
                              case measure => have := HNN.out; simp [intOf]; omega
                case rest =>
                  as_aux_lemma =>
                    have hbv := hcut
                    clear hcut
                    obtain ⟨d1, d2, d3⟩ := HD8.out wc hbv

                    have HDV : Hid (De21 w1 b PN QN (2 * i + 1) F6 S6 wc ∧ La21 F6 S6 12288 gn wc) := ⟨d1, d2⟩
                    have hdn := dn21 d1.ok d1.wk HD6.out.2.2.2 (by have := HD6.out.2.2.1; have := HLE4.out; have := HNL.out; omega)
                    have HDN : Hid (cuE21 S6 1 0 = 0 ∧ erE21 (cuS21 S6 1 []) 2 1 = 213 ∧ (erS21 (cuS21 S6 1 []) 2 1).on = false ∧ (erS21 (cuS21 S6 1 []) 2 1).lg.length = S6.lg.length + 1 ∧ Eq21 S6 (erS21 (cuS21 S6 1 []) 2 1)) := hdn
                    have hCT := pcut21 d1.fl d1.ok 1 none [] 0 0 (SegK.nil (by decide) _ _) rfl (fun _ => rfl)
                    rw [hdn.1] at hCT
                    clear hdn d1 d2 d3 hbv
                    cases hdo : S4.on
                    · as_aux_lemma =>
                        have HDO : Hid (S4.on = false) := hdo
                        clear hdo
                        go_wp2_with fail
                        refine hCT.mono ?_
                        rintro e wa ⟨rfl, hna⟩
                        clear hCT
                        obtain ⟨Fa, hDa, hfa, hka⟩ := HDV.out.1.next hna (ok21_cu HDV.out.1.ok 1 ⟨by omega, by omega⟩ []) (HDV.out.1.wk.cu 1 []) (st21_cu S6 1 []).1 (st21_cu S6 1 []).2.1 (m := 2 * i + 1) (by have h := (st21_cu S6 1 []).len; have h2 := HDV.out.1.lg; have h3 : (cuS21 S6 1 []).lg = S6.lg := by { unfold cuS21; split; rfl; split; rfl; rfl }; rw [h3]; exact h2)
                        have hEA := perase21 hDa.fl hDa.ok 2 1 ⟨by omega, by omega⟩ ⟨by omega, by omega⟩ (by have := hDa.lg; have := HII.out; omega)
                        rw [HDN.out.2.1] at hEA
                        have HDA : Hid (De21 w1 b PN QN (2 * i + 1) Fa (cuS21 S6 1 []) wa ∧ La21 Fa S6 12288 gn wa) := ⟨hDa, HDV.out.2.fn hka hfa⟩
                        clear hna hDa hfa hka
                        go_wp2_with fail
                        refine hEA.mono ?_
                        rintro e wb ⟨rfl, hnb⟩
                        clear hEA
                        obtain ⟨Fb, hDb, hfb, hkb⟩ := HDA.out.1.next hnb (ok21_er HDA.out.1.ok 2 1) (HDA.out.1.wk.er 2 1) (st21_er _ 2 1).1 (st21_er _ 2 1).2.1 (m := 2 * (i + 1)) (by have h1 := HDN.out.2.2.2.1; have h2 := HDV.out.1.lg; omega)
                        have hOB := pon21 hDb.fl hDb.ok
                        rw [HDN.out.2.2.1] at hOB
                        have HDB : Hid (De21 w1 b PN QN (2 * (i + 1)) Fb (erS21 (cuS21 S6 1 []) 2 1) wb ∧ La21 Fb S6 12288 gn wb) := ⟨hDb, HDA.out.2.fn hkb hfb⟩
                        clear hnb hDb hfb hkb
                        go_wp2_with fail
                        refine hOB.mono ?_
                        rintro e wx ⟨rfl, hwx⟩
                        subst wx
                        clear hOB
                        go_wp2_with fail
                        go_roundw
                        case rel =>
                          exact ⟨i + 1, by have := HII.out; omega, by go_num, ⟨Fb, _, HDB.out.1, fun _ => ⟨gn, S6, rfl, HDB.out.2, HDN.out.2.2.2.2⟩⟩, _, _, _, rfl⟩
                        case measure => have := HII.out; simp [intOf]; omega
                    · as_aux_lemma =>
                        clear hdo hCT
                        go_wp2_with fail
                        go_roundw
                        case rel =>
                          have hD := HDV.out.1
                          exact ⟨i + 1, by have := HII.out; omega, by go_num, ⟨F6, S6, ⟨hD.fl, hD.ok, hD.wk, hD.pg, hD.ps, by have := hD.lg; omega, hD.lo, hD.bl⟩, fun h => by rw [HD6.out.2.2.2] at h; cases h⟩, _, _, _, rfl⟩
                        case measure => have := HII.out; simp [intOf]; omega
end Go.Proofs.Ythefcmhmcgjcoaa
