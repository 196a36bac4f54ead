import Derived.Test.YtjoghmdjnkdokaaDoorPw
import Derived.Test.YtjoghmdjnkdokaaDoorPf
import Derived.Test.YtjoghmdjnkdokaaDoorRows
import Derived.Test.YtjoghmdjnkdokaaDoorPh
import Derived.WalkKit
import Derived.ProofKit
import Derived.OpenShut
import Derived.Deep.DeepHandedRow
import Derived.Lib.LaidTab
namespace Go.Proofs.YtjoghmdjnkdokaaDoor
open Go.RowKit Go.Shelf
set_option linter.unusedVariables false
set_option linter.unusedSimpArgs false

/-! FlashTwins. -/
structure Tq24 (w V : World) (f g : Nat) (F G : Nat → Prop) (S S' : Fs21) : Prop where
  bl : Below w.heap.size w V
  ff : Fl21 V f F S
  gf : Fl21 V g G S'
  dj : ∀ k, F k → ¬ G k
  fw : ∀ k, F k → w.heap.size ≤ k
  gw : ∀ k, G k → w.heap.size ≤ k
  ok : Ok21 S
  ok' : Ok21 S'
theorem fl_lts24 {w : World} {b : Nat} {F : Nat → Prop} {S : Fs21} (h : Fl21 w b F S) : ∀ k, F k → k < w.heap.size := by
  obtain ⟨m, c, f, ta, tc, la, lc, W, _, _, _, _, _, h6⟩ := h
  exact h6
section
variable {w V V' : World} {f g : Nat} {F G : Nat → Prop} {S S' S1 : Fs21}
theorem Tq24.swap (h : Tq24 w V f g F G S S') : Tq24 w V g f G F S' S := ⟨h.bl, h.gf, h.ff, fun k e q => h.dj k q e, h.gw, h.fw, h.ok', h.ok⟩
theorem Tq24.old (h : Tq24 w V f g F G S S') (hb : Below V.heap.size V V') : Tq24 w V' f g F G S S' := ⟨h.bl.trans (hb.mono h.bl.size), h.ff.old hb, h.gf.old hb, h.dj, h.fw, h.gw, h.ok, h.ok'⟩
theorem Tq24.st (h : Tq24 w V f g F G S S') (hn : Fn21 V V' f F S1) (ok1 : Ok21 S1) : ∃ F1, Tq24 w V' f g F1 G S1 S' ∧ (∀ k, F1 k → F k ∨ V.heap.size ≤ k) ∧ Kp F V V' := by
  obtain ⟨F1, h1, h2, h3⟩ := hn
  have hl := fl_lts24 h.gf
  have hs := h.bl.size
  refine ⟨F1, ⟨h.bl.trans (h3.below h.fw hs), h1, h.gf.kp (fun k e => h3.block k (hl k e) (fun q => h.dj k q e)) h3.size, fun k e q => ?_, fun k e => ?_, h.gw, ok1, h.ok'⟩, h2, h3⟩
  · rcases h2 k e with e | e
    · exact h.dj k e q
    · have := hl k q; omega
  · rcases h2 k e with e | e
    · exact h.fw k e
    · omega
end
/-- One device, ahead of the other one. -/
structure To24 (w V : World) (f : Nat) (F : Nat → Prop) (S : Fs21) : Prop where
  bl : Below w.heap.size w V
  ff : Fl21 V f F S
  fw : ∀ k, F k → w.heap.size ≤ k
  ok : Ok21 S
theorem To24.st {w V V' : World} {f : Nat} {F : Nat → Prop} {S S1 : Fs21} (h : To24 w V f F S) (hn : Fn21 V V' f F S1) (ok1 : Ok21 S1) : ∃ F1, To24 w V' f F1 S1 := by
  obtain ⟨F1, h1, h2, h3⟩ := hn
  have hs := h.bl.size
  refine ⟨F1, h.bl.trans (h3.below h.fw hs), h1, fun k e => ?_, ok1⟩
  rcases h2 k e with e | e
  · exact h.fw k e
  · omega
theorem To24.old {w V V' : World} {f : Nat} {F : Nat → Prop} {S : Fs21} (h : To24 w V f F S) (hb : Below V.heap.size V V') : To24 w V' f F S := ⟨h.bl.trans (hb.mono h.bl.size), h.ff.old hb, h.fw, h.ok⟩
theorem ok21_on24 {S : Fs21} (h : Ok21 S) : Ok21 { S with on := true } := ⟨h.pg, h.ps, h.ac, h.lm, h.lf, h.tn, h.sh⟩
/-- What a call takes, in a later world. -/
theorem of_old24 {W V : World} {o : Oq21} (h : Of21 W o) (hb : Below W.heap.size W V) : Of21 V o := ⟨h.sg.old hb, h.cap, h.nil, h.c, h.a, h.p, h.n⟩
set_option maxRecDepth 100000 in
set_option maxHeartbeats 64000000 in
theorem flashTwins_walk (w : World) (ht : Tab w) (su : Su21) (fs : Sf21 w su) (fg : Sg21 su) (sa : Option Addr) (len cap : Nat) (O : Nat → Oq21) (so : Ss21 w sa len O) (sb : ∀ i, i < len → (O i).b.length ≤ 140737488351232) (hlen : len * 56 ≤ 140737488351232) (ma : Option Addr) (mlen mcap : Nat) (M : Nat → Oq21) (mo : Ss21 w ma mlen M) (mb : ∀ i, i < mlen → (M i).b.length ≤ 140737488351232) (hmlen : mlen * 56 ≤ 140737488351232) :
    Calls Tryd.prog 5 #[.agg #[.int .i64 su.p, .int .i64 su.q, .int .i64 su.ac, .slice su.a0 su.l0.length su.k0, .slice su.a1 su.l1.length su.k1], .slice sa len cap, .slice ma mlen mcap] w fun e w' => e = .returned (.bool true) ∧ Below w.heap.size w w' := by
  have HLV : Hid (∀ W : World, Calls Tryd.prog 10 #[] W fun e w' => e = .returned (.bool true) ∧ Below W.heap.size W w') := plives21
  obtain ⟨p, q, ac, a0, l0, k0, a1, l1, k1⟩ := su
  obtain ⟨hs0, hs1, hz0, hz1, hp, hq, hac⟩ := fs
  simp only at hs0 hs1 hz0 hz1 hp hq hac ⊢
  obtain ⟨n0, hl0⟩ : ∃ n, n = l0.length := ⟨_, rfl⟩
  obtain ⟨n1, hl1⟩ : ∃ n, n = l1.length := ⟨_, rfl⟩
  rw [← hl0, ← hl1]
  rw [← hl0] at hz0
  rw [← hl1] at hz1
  have HSO : Hid (Ss21 w sa len O ∧ Ss21 w ma mlen M ∧ len ≤ 2600000000000 ∧ mlen ≤ 2600000000000) := ⟨so, mo, by omega, by omega⟩
  have HTB : Hid (Tab w) := ht
  obtain ⟨w1, hw1⟩ : ∃ w1, w1 = w.alloc (.cells #[.int .i64 p, .int .i64 q, .int .i64 ac, .slice a0 n0 k0, .slice a1 n1 k1] 24) := ⟨_, rfl⟩
  obtain ⟨g2, hg2⟩ : ∃ g, g = w.heap.size := ⟨_, rfl⟩
  have HW1 : Hid (w.alloc (.cells #[.int .i64 p, .int .i64 q, .int .i64 ac, .slice a0 n0 k0, .slice a1 n1 k1] 24) = w1 ∧ w.heap.size = g2) := ⟨hw1.symm, hg2.symm⟩
  have q1 : w1.heap[g2]? = some (.cells #[.int .i64 p, .int .i64 q, .int .i64 ac, .slice a0 n0 k0, .slice a1 n1 k1] 24 (0, 0)) := by rw [hw1, hg2]; exact heap_alloc_new _ _
  have b1 : Below w.heap.size w w1 := by rw [hw1]; exact (Below.refl _ _).alloc (Nat.le_refl _) _
  have m0 : w1.cell? ⟨g2, 0, none⟩ = some (.int .i64 p) := by simp [World.cell?, q1]
  have m1 : w1.cell? ⟨g2, 1, none⟩ = some (.int .i64 q) := by simp [World.cell?, q1]
  have m2 : w1.cell? ⟨g2, 2, none⟩ = some (.int .i64 ac) := by simp [World.cell?, q1]
  have m3 : w1.cell? ⟨g2, 3, none⟩ = some (.slice a0 n0 k0) := by simp [World.cell?, q1]
  have m4 : w1.cell? ⟨g2, 4, none⟩ = some (.slice a1 n1 k1) := by simp [World.cell?, q1]
  have HN := pnew21 (w := w1) p q ac hp hq a0 a1 l0 l1 n0 n1 k0 k1 (hs0.old b1) (hs1.old b1) hl0.symm hl1.symm hz0 hz1
  unfold NwQ21 at HN
  rw [← hl0, ← hl1] at HN
  obtain ⟨S0, hS0⟩ : ∃ S, S = nw21 p.toNat q.toNat ac l0 l1 := ⟨_, rfl⟩
  rw [← hS0] at HN
  have HOK0 : Hid (nwE21 p q ac n0 n1 = 0 → Ok21 S0 ∧ S0.lg = []) := fun hE => by
    unfold nwE21 at hE
    by_cases z : mb21 p q = false ∨ ac < 0 ∨ 2 ≤ ac
    · rw [if_pos z] at hE; cases hE
    · have zm : mb21 p q = true := by cases h : mb21 p q; exact absurd (.inl h) z; rfl
      unfold mb21 at zm
      simp at zm
      rw [hS0]
      exact ⟨ok21_new _ _ _ _ _ (by omega) (by omega) (by omega), rfl⟩
  have HB1 : Hid (Below w.heap.size w w1) := b1
  clear hs0 hs1 hz0 hz1 hp hq hac hl0 hl1 so mo sb mb hlen hmlen ht hw1 hg2 q1 b1 hS0 fg
  go_enter Tryd.func5, Tryd.ntmps5
  go_wp2_with fail
  rw [HW1.out.1, HW1.out.2]
  go_wp2_with fail
  refine HN.mono ?_
  rintro e v1 ⟨b2, h1⟩
  have HB2 : Hid (Below w.heap.size w v1) := HB1.out.trans (b2.mono HB1.out.size)
  rcases h1 with ⟨hE, rfl⟩ | ⟨hE, f, F, rfl, hF, hFN⟩
  · as_aux_lemma =>
    clear HN m0 m1 m2 m3 m4 b2 hE
    go_wp2_with fail
    refine (HLV.out v1).mono ?_
    rintro e v2 ⟨rfl, b3⟩
    have B3 : Hid (Below w.heap.size w v2) := HB2.out.trans (b3.mono HB2.out.size)
    clear b3
    go_wp2_with fail
    go_ret
    exact ⟨rfl, B3.out⟩
  · have HT1 : Hid (To24 w v1 f F S0 ∧ S0.lg.length ≤ 0) := ⟨⟨HB2.out, hF, fun k e => by have := hFN k e; have := HB1.out.size; omega, (HOK0.out hE).1⟩, by rw [(HOK0.out hE).2]; exact Nat.le_refl _⟩
    clear HN m0 m1 m2 m3 m4 b2 hE hF hFN HOK0
    go_wp2_with fail
    go_loopw [52] (fun ti wr => ∃ (i : Nat) (F : Nat → Prop) (S : Fs21), i ≤ len ∧ ti = .int .i64 (i : Int) ∧ Hid (To24 w wr f F S ∧ S.lg.length ≤ i)) (fun ti _ => len - (intOf ti).toNat)
    case atStart => exact ⟨0, F, S0, by omega, rfl, HT1.out⟩
    case round =>
      obtain ⟨i, F, S, hi, rfl, hT⟩ := hrel
      by_cases hil : i < len
      · as_aux_lemma =>
        have hii : (i : Int) < (len : Int) := by omega
        have hiw : IntKind.i64.wrap ((i : Int) + 1) = ((i + 1 : Nat) : Int) := by have := HSO.out.2.2.1; rw [IntWalk.i64_in _ (by omega)]; omega
        obtain ⟨g, off, hsa, e0, e1, e2, e3, e4⟩ := HSO.out.1.at_ i hil
        have hof := HSO.out.1.of i hil
        have bw : Below w.heap.size w wr := hT.out.1.bl
        have e0 := cel21 bw e0
        have e1 := cel21 bw e1
        have e2 := cel21 bw e2
        have e3 := cel21 bw e3
        have e4 := cel21 bw e4
        obtain ⟨⟨oc, oa, op, on, oba, ol, obc⟩, hoo⟩ : ∃ o, o = O i := ⟨_, rfl⟩
        rw [← hoo] at e0 e1 e2 e3 e4 hof
        simp only at e0 e1 e2 e3 e4
        obtain ⟨ll, hll⟩ : ∃ l, l = ol.length := ⟨_, rfl⟩
        rw [← hll] at e4
        subst hsa
        obtain ⟨v6, hv6⟩ : ∃ v, v = wr.alloc (.cells #[.int .i64 oc, .int .i64 oa, .int .i64 op, .int .i64 on, .slice oba ll obc] 40) := ⟨_, rfl⟩
        obtain ⟨g17, hg17⟩ : ∃ v, v = wr.heap.size := ⟨_, rfl⟩
        have HV6 : Hid (wr.alloc (.cells #[.int .i64 oc, .int .i64 oa, .int .i64 op, .int .i64 on, .slice oba ll obc] 40) = v6 ∧ wr.heap.size = g17) := ⟨hv6.symm, hg17.symm⟩
        have b6 : Below wr.heap.size wr v6 := by rw [hv6]; exact (Below.refl _ _).alloc (Nat.le_refl _) _
        have T6 := hT.out.1.old b6
        have hca := pcall24 T6.ff T6.ok (by have := hT.out.2; have := HSO.out.2.2.1; omega) oc oa op on oba ol ll obc (of_old24 hof T6.bl) hll.symm
        have HT6 : Hid (To24 w v6 f F S ∧ S.lg.length ≤ i ∧ Ok21 (ds21 S oc oa op on ol)) := ⟨T6, hT.out.2, ok21_ds T6.ok oc oa op on hof.n ol⟩
        clear hof bw hoo hll hv6 hg17 b6 T6 hT
        go_wp2_with fail
        (try rw [HV6.out.1])
        refine hca.mono ?_
        rintro e v7 ⟨ra, rc, rfl, -, -, hn⟩
        obtain ⟨F1, T7⟩ := HT6.out.1.st hn HT6.out.2.2
        have HT7 : Hid (To24 w v7 f F1 (ds21 S oc oa op on ol) ∧ (ds21 S oc oa op on ol).lg.length ≤ i + 1) := ⟨T7, by have := (lgl21_ds S oc oa op on ol).1; have := HT6.out.2.1; omega⟩
        clear hn T7 hca e0 e1 e2 e3 e4
        go_wp2_with fail
        go_roundw
        case rel => exact ⟨i + 1, F1, _, by omega, by go_num, HT7.out⟩
        case measure => simp [intOf]; omega
      · as_aux_lemma =>
        obtain rfl : i = len := by omega
        have hii : ¬ (i : Int) < (i : Int) := by omega
        have HTi : Hid (To24 w wr f F S ∧ S.lg.length ≤ i) := hT.out
        clear hT
        have hpw := ppow21 HTi.out.1.ff HTi.out.1.ok
        go_wp2_with fail
        refine hpw.mono ?_
        rintro e v7 ⟨rfl, hn⟩
        obtain ⟨F1, T7⟩ := HTi.out.1.st hn (ok21_on24 HTi.out.1.ok)
        have hcu := pcut21 T7.ff T7.ok 0 none [] 0 0 (SegK.nil (by decide) _ _) rfl (fun _ => rfl)
        rw [show cuE21 { S with on := true } 0 0 = 0 from rfl] at hcu
        have hlg : S.lg.length ≤ i := HTi.out.2
        have HT7 : Hid (To24 w v7 f F1 { S with on := true }) := T7
        obtain ⟨S2, hS2⟩ : ∃ S2, S2 = cuS21 { S with on := true } 0 [] := ⟨_, rfl⟩
        have HS2 : Hid (S2.on = true ∧ S2.lf = 0 ∧ S2.tn = [] ∧ S2.lg.length ≤ i ∧ Ok21 S2) := by
          rw [hS2]
          exact ⟨rfl, rfl, rfl, hlg, ok21_cu' T7.ok 0 (by unfold In21; omega) []⟩
        rw [← hS2] at hcu
        clear hn T7 hpw hlg hS2
        go_wp2_with fail
        refine hcu.mono ?_
        rintro e v8 ⟨rfl, hn⟩
        obtain ⟨F2, T8⟩ := HT7.out.st hn HS2.out.2.2.2.2
        have HT8 : Hid (To24 w v8 f F2 S2) := T8
        have hsv := psave21 T8.ff T8.ok (HTB.out.old T8.bl)
        clear hn T8 hcu
        go_wp2_with fail
        refine hsv.mono ?_
        rintro e v9 ⟨h9, b9⟩
        rcases h9 with ⟨h9, -⟩ | ⟨-, pp, pc, rfl, hown⟩
        · rw [HS2.out.1] at h9; cases h9
        have T9 := HT8.out.old b9
        have hby := T9.ff.by
        have hbd : ∀ z ∈ sav21 S2, 0 ≤ z ∧ z ≤ 255 := fun z hz => by
          unfold sav21 at hz
          rcases List.mem_append.1 hz with hz | hz
          · exact svb21_bd T9.ok hby z hz
          · exact sm21_bd _ z hz
        have hnil : pp = none → pc = 0 := fun e => by
          rcases hown.2 with ⟨z, _⟩ | ⟨g', cp, cu, z1, _⟩
          · injection z with _ _ z3
          · injection z1 with z1; rw [e] at z1; cases z1
        obtain ⟨-, a', c', hv, sg, -, hcap, -⟩ := own_seg (M := 255) hown (by decide) hbd
        injection hv with y1 y2 y3
        subst y1
        subst y3
        obtain ⟨sl, hsl⟩ : ∃ sl, sl = (sav21 S2).length := ⟨_, rfl⟩
        have hsl2 : sl ≤ 1073741824 := by
          have h1 := svb21_len T9.ok
          rw [hsl]
          unfold sav21
          rw [List.length_append, sm21_len]
          omega
        rw [← hsl] at hcap ⊢
        have hlo := pload24 pp sl pc (sav21 S2) sg hsl.symm hcap hnil hsl2 (HTB.out.old T9.bl)
        have HT9 : Hid (To24 w v9 f F2 S2) := T9
        clear T9 hby hbd sg hcap hnil hsl hsl2 hsv hown b9
        go_wp2_with fail
        refine hlo.mono ?_
        rintro e v10 ⟨b10, h10⟩
        obtain ⟨g1, g2', g3⟩ := ld24_sav HS2.out.2.2.2.2
        rcases h10 with ⟨h10, -⟩ | ⟨-, g, G, rfl, hG, hGN⟩
        · rw [g1] at h10; cases h10
        rw [g2', g3] at hG
        have T10 := HT9.out.old b10
        have HP : Hid (Tq24 w v10 f g F2 G S2 (nf24 S2) ∧ Tw24 S2 (nf24 S2)) := ⟨⟨T10.bl, T10.ff, hG, fun k e q => by have := fl_lts24 HT9.out.ff k e; have := hGN k q; omega, T10.fw, fun k e => by have := hGN k e; have := HT9.out.bl.size; omega, T10.ok, ok21_nf T10.ok⟩, Tw24.of_nf T10.ok HS2.out.1 HS2.out.2.1 HS2.out.2.2.1⟩
        clear T10 hG hGN b10 hlo g1 g2' g3
        go_wp2_with fail
        go_loopw [87] (fun ti wr => ∃ (j : Nat) (F G : Nat → Prop) (S S' : Fs21), j ≤ mlen ∧ ti = .int .i64 (j : Int) ∧ Hid (Tq24 w wr f g F G S S' ∧ Tw24 S S' ∧ S.lg.length ≤ i + j ∧ S'.lg.length ≤ j)) (fun ti _ => mlen - (intOf ti).toNat)
        case atStart => exact ⟨0, F2, G, S2, nf24 S2, by omega, rfl, HP.out.1, HP.out.2, HS2.out.2.2.2.1, Nat.le_refl _⟩
        case round =>
          obtain ⟨j, F, G, S, S', hj, rfl, hT⟩ := hrel
          by_cases hjl : j < mlen
          · as_aux_lemma =>
            have hjj : (j : Int) < (mlen : Int) := by omega
            have hjw : IntKind.i64.wrap ((j : Int) + 1) = ((j + 1 : Nat) : Int) := by have := HSO.out.2.2.2; rw [IntWalk.i64_in _ (by omega)]; omega
            obtain ⟨gg, off, hsa, e0, e1, e2, e3, e4⟩ := HSO.out.2.1.at_ j hjl
            have hof := HSO.out.2.1.of j hjl
            have bw : Below w.heap.size w wr := hT.out.1.bl
            have e0 := cel21 bw e0
            have e1 := cel21 bw e1
            have e2 := cel21 bw e2
            have e3 := cel21 bw e3
            have e4 := cel21 bw e4
            obtain ⟨⟨oc, oa, op, on, oba, ol, obc⟩, hoo⟩ : ∃ o, o = M j := ⟨_, rfl⟩
            rw [← hoo] at e0 e1 e2 e3 e4 hof
            simp only at e0 e1 e2 e3 e4
            obtain ⟨ll, hll⟩ : ∃ l, l = ol.length := ⟨_, rfl⟩
            rw [← hll] at e4
            subst hsa
            obtain ⟨v6, hv6⟩ : ∃ v, v = wr.alloc (.cells #[.int .i64 oc, .int .i64 oa, .int .i64 op, .int .i64 on, .slice oba ll obc] 40) := ⟨_, rfl⟩
            obtain ⟨g17, hg17⟩ : ∃ v, v = wr.heap.size := ⟨_, rfl⟩
            have HV6 : Hid (wr.alloc (.cells #[.int .i64 oc, .int .i64 oa, .int .i64 op, .int .i64 on, .slice oba ll obc] 40) = v6 ∧ wr.heap.size = g17) := ⟨hv6.symm, hg17.symm⟩
            have b6 : Below wr.heap.size wr v6 := by rw [hv6]; exact (Below.refl _ _).alloc (Nat.le_refl _) _
            have q17 : v6.heap[g17]? = some (.cells #[.int .i64 oc, .int .i64 oa, .int .i64 op, .int .i64 on, .slice oba ll obc] 40 (0, 0)) := by rw [hv6, hg17]; exact heap_alloc_new _ _
            have hF17 : ¬ F g17 := fun e => by have := fl_lts24 hT.out.1.ff g17 e; omega
            have hG17 : ¬ G g17 := fun e => by have := fl_lts24 hT.out.1.gf g17 e; omega
            have T6 := hT.out.1.old b6
            have hca := pcall24 T6.ff T6.ok (by have := hT.out.2.2.1; have := HSO.out.2.2; omega) oc oa op on oba ol ll obc (of_old24 hof T6.bl) hll.symm
            obtain ⟨A, hA⟩ : ∃ A, A = ca24 S oc oa op on ol := ⟨_, rfl⟩
            have HA : Hid (A = ca24 S oc oa op on ol ∧ ca24 S' oc oa op on ol = A) := ⟨hA, by rw [hA]; exact hT.out.2.1.ca hT.out.1.ok oc oa op on ol⟩
            have HT6 : Hid (Tq24 w v6 f g F G S S' ∧ Tw24 S S' ∧ S.lg.length ≤ i + j ∧ S'.lg.length ≤ j ∧ Ok21 (ds21 S oc oa op on ol) ∧ Ok21 (ds21 S' oc oa op on ol) ∧ g17 < v6.heap.size ∧ v6.heap[g17]? = some (.cells #[.int .i64 oc, .int .i64 oa, .int .i64 op, .int .i64 on, .slice oba ll obc] 40 (0, 0)) ∧ ¬ F g17 ∧ Of21 w ⟨oc, oa, op, on, oba, ol, obc⟩ ∧ ol.length = ll) := ⟨T6, hT.out.2.1, hT.out.2.2.1, hT.out.2.2.2, ok21_ds T6.ok oc oa op on hof.n ol, ok21_ds T6.ok' oc oa op on hof.n ol, (Array.getElem?_eq_some_iff.1 q17).1, q17, hF17, hof, hll.symm⟩
            clear hof bw hoo hll hv6 hg17 b6 T6 hT hA q17 hF17 hG17
            go_wp2_with fail
            (try rw [HV6.out.1])
            (try rw [HV6.out.2])
            refine hca.mono ?_
            rintro e v7 ⟨ra, rc, rfl, sgx, hfx, hn⟩
            rw [← HA.out.1] at sgx hfx
            rw [← HA.out.1]
            obtain ⟨F1, T7, hF1, k7⟩ := HT6.out.1.st hn HT6.out.2.2.2.2.1
            have q7 := (k7.block g17 HT6.out.2.2.2.2.2.2.1 HT6.out.2.2.2.2.2.2.2.2.1).trans HT6.out.2.2.2.2.2.2.2.1
            have d0 : v7.cell? ⟨g17, 0, none⟩ = some (.int .i64 oc) := by simp [World.cell?, q7]
            have d1 : v7.cell? ⟨g17, 1, none⟩ = some (.int .i64 oa) := by simp [World.cell?, q7]
            have d2 : v7.cell? ⟨g17, 2, none⟩ = some (.int .i64 op) := by simp [World.cell?, q7]
            have d3 : v7.cell? ⟨g17, 3, none⟩ = some (.int .i64 on) := by simp [World.cell?, q7]
            have d4 : v7.cell? ⟨g17, 4, none⟩ = some (.slice oba ll obc) := by simp [World.cell?, q7]
            have hcb := pcall24 T7.gf T7.ok' (by have := HT6.out.2.2.2.1; have := HSO.out.2.2; omega) oc oa op on oba ol ll obc (of_old24 HT6.out.2.2.2.2.2.2.2.2.2.1 T7.bl) HT6.out.2.2.2.2.2.2.2.2.2.2
            have HT7 : Hid (Tq24 w v7 f g F1 G (ds21 S oc oa op on ol) S' ∧ Seg v7 ra A.1 ∧ (∀ k off, ra = some ⟨k, off, none⟩ → 0 < A.1.length → ¬ G k ∧ k < v7.heap.size)) := ⟨T7, sgx, fun k off e h => ⟨fun q => by have := hfx k off e h; have := fl_lts24 HT6.out.1.gf k q; omega, sgx.lt k off e h⟩⟩
            clear hca sgx hfx hn T7 hF1 k7 q7
            go_wp2_with fail
            refine hcb.mono ?_
            rintro e v8 ⟨rb, rd, rfl, sgy, hfy, hn⟩
            rw [HA.out.2] at sgy hfy
            rw [HA.out.2]
            obtain ⟨G1, T8, hG1, k8⟩ := HT7.out.1.swap.st hn HT6.out.2.2.2.2.2.1
            have T8 := T8.swap
            have sgx : Seg v8 ra A.1 := by
              refine HT7.out.2.1.of_cells fun b' off i' v hi ha hc => ?_
              have h0 := HT7.out.2.2 b' off ha (by omega)
              rw [World.cell?_of_block (a := ⟨b', off + i', none⟩) (k8.block b' h0.2 h0.1)]
              exact hc
            have htw := HT6.out.2.1.ds HT6.out.1.ok HT6.out.1.ok' oc oa op on ol
            have HT8 : Hid (Tq24 w v8 f g F1 G1 (ds21 S oc oa op on ol) (ds21 S' oc oa op on ol) ∧ Tw24 (ds21 S oc oa op on ol) (ds21 S' oc oa op on ol) ∧ (ds21 S oc oa op on ol).lg.length ≤ i + (j + 1) ∧ (ds21 S' oc oa op on ol).lg.length ≤ j + 1) := ⟨T8, htw, by have := (lgl21_ds S oc oa op on ol).1; have := HT6.out.2.2.1; omega, by have := (lgl21_ds S' oc oa op on ol).1; have := HT6.out.2.2.2.1; omega⟩
            have SM := bsame_any ra rb A.1 A.1 rc rd v8 sgx sgy
            rw [beq_self_eq_true] at SM
            have hon1 := pon21 T8.ff T8.ok
            have hon2 := pon21 T8.gf T8.ok'
            have hac1 := pact22 T8.ff T8.ok
            have hac2 := pact22 T8.gf T8.ok'
            rw [htw.on] at hon2
            rw [htw.ac] at hac2
            generalize (ds21 S oc oa op on ol).on = TB at hon1 hon2
            generalize (ds21 S oc oa op on ol).ac = TA at hac1 hac2
            obtain ⟨A1, A2⟩ := A
            obtain ⟨al, hal⟩ : ∃ al, al = A1.length := ⟨_, rfl⟩
            simp only at SM ⊢
            rw [← hal] at SM ⊢
            clear hcb sgx sgy hfy hn T8 hG1 k8 htw hal d0 d1 d2 d3 d4
            go_wp2_with fail
            refine SM.mono ?_
            rintro e vv ⟨rfl, hw⟩
            subst vv
            go_wp2_with fail
            refine hon1.mono ?_
            rintro e vv ⟨rfl, hw⟩
            subst vv
            go_wp2_with fail
            refine hon2.mono ?_
            rintro e vv ⟨rfl, hw⟩
            subst vv
            have hTB : (TB != TB) = false := by cases TB <;> rfl
            go_wp2_with fail
            refine hac1.mono ?_
            rintro e vv ⟨rfl, hw⟩
            subst vv
            go_wp2_with fail
            refine hac2.mono ?_
            rintro e vv ⟨rfl, hw⟩
            subst vv
            clear SM hon1 hon2 hac1 hac2
            go_wp2_with fail
            go_roundw
            case rel => exact ⟨j + 1, F1, G1, _, _, by omega, by go_num, HT8.out⟩
            case measure => simp [intOf]; omega
          · as_aux_lemma =>
            obtain rfl : j = mlen := by omega
            have hjj : ¬ (j : Int) < (j : Int) := by omega
            have HTj : Hid (Tq24 w wr f g F G S S' ∧ Tw24 S S') := ⟨hT.out.1, hT.out.2.1⟩
            clear hT
            have hpw := ppow21 HTj.out.1.ff HTj.out.1.ok
            go_wp2_with fail
            refine hpw.mono ?_
            rintro e v11 ⟨rfl, hn⟩
            obtain ⟨F1, T11, -, -⟩ := HTj.out.1.st hn (ok21_on24 HTj.out.1.ok)
            have hpx := ppow21 T11.gf T11.ok'
            have HT11 : Hid (Tq24 w v11 f g F1 G { S with on := true } S') := T11
            clear hn T11 hpw
            go_wp2_with fail
            refine hpx.mono ?_
            rintro e v12 ⟨rfl, hn⟩
            obtain ⟨G1, T12, -, -⟩ := HT11.out.swap.st hn (ok21_on24 HT11.out.ok')
            have T12 := T12.swap
            have htw : Tw24 { S with on := true } { S' with on := true } := by
              have h := HTj.out.2
              exact ⟨h.pg, h.ps, h.ac, rfl, h.lm, h.lf, h.tn, h.sh⟩
            obtain ⟨Sa, hSa⟩ : ∃ Sa : Fs21, Sa = { S with on := true } := ⟨_, rfl⟩
            obtain ⟨Sb, hSb⟩ : ∃ Sb : Fs21, Sb = { S' with on := true } := ⟨_, rfl⟩
            rw [← hSa, ← hSb] at T12 htw
            have HON : Hid (Sa.on = true ∧ Sb.on = true ∧ sav21 Sb = sav21 Sa) := ⟨by rw [hSa], by rw [hSb], htw.sav T12.ok⟩
            have HT12 : Hid (Tq24 w v12 f g F1 G1 Sa Sb) := T12
            have hsv := psave21 T12.ff T12.ok (HTB.out.old T12.bl)
            clear hn T12 hpx htw hSa hSb
            go_wp2_with fail
            refine hsv.mono ?_
            rintro e v13 ⟨h9, b9⟩
            rcases h9 with ⟨h9, -⟩ | ⟨-, pp, pc, rfl, hown⟩
            · rw [HON.out.1] at h9; cases h9
            have T13 := HT12.out.old b9
            have hsw := psave21 T13.gf T13.ok' (HTB.out.old T13.bl)
            have hbd : ∀ z ∈ sav21 Sa, 0 ≤ z ∧ z ≤ 255 := fun z hz => by
              unfold sav21 at hz
              rcases List.mem_append.1 hz with hz | hz
              · exact svb21_bd T13.ok T13.ff.by z hz
              · exact sm21_bd _ z hz
            have HBD : Hid (∀ z ∈ sav21 Sa, 0 ≤ z ∧ z ≤ 255) := hbd
            have HT13 : Hid (Tq24 w v13 f g F1 G1 Sa Sb) := T13
            have HOW : Hid (v13.ownsRow v12.heap.size 5 1 (.slice pp (sav21 Sa).length pc) (sav21 Sa).length ((sav21 Sa).map (Value.int .u8))) := hown
            clear T13 hbd hown b9 hsv
            go_wp2_with fail
            refine hsw.mono ?_
            rintro e v14 ⟨h9, b9⟩
            rcases h9 with ⟨h9, -⟩ | ⟨-, pq, pd, rfl, hown⟩
            · rw [HON.out.2.1] at h9; cases h9
            rw [HON.out.2.2] at hown ⊢
            obtain ⟨-, a', c', hv, sg1, -⟩ := own_seg (M := 255) (own_below21 HOW.out b9) (by decide) HBD.out
            injection hv with y1 y2 y3
            subst y1
            obtain ⟨-, a', c', hv, sg2, -⟩ := own_seg (M := 255) hown (by decide) HBD.out
            injection hv with y4 y5 y6
            subst y4
            have SM := bsame_any pp pq (sav21 Sa) (sav21 Sa) pc pd v14 sg1 sg2
            rw [beq_self_eq_true] at SM
            have B14 : Hid (Below w.heap.size w v14) := HT13.out.bl.trans (b9.mono HT13.out.bl.size)
            generalize (sav21 Sa).length = sl at SM ⊢
            clear sg1 sg2 hown b9 hsw y2 y3 y5 y6
            go_wp2_with fail
            refine SM.mono ?_
            rintro e vv ⟨rfl, hw⟩
            subst vv
            clear SM
            go_wp2_with fail
            refine (HLV.out v14).mono ?_
            rintro e v15 ⟨rfl, b15⟩
            have B15 : Hid (Below w.heap.size w v15) := B14.out.trans (b15.mono B14.out.size)
            clear b15
            go_wp2_with fail
            go_ret
            exact ⟨rfl, B15.out⟩
end Go.Proofs.YtjoghmdjnkdokaaDoor

namespace Go.Proofs.YtjoghmdjnkdokaaDoor
open Go.ChangeShapes Go.WideShapes Go.ChangeAt Go.RowKit

theorem gTab : Tryd.prog.globalNamed "sapper/crc.halves" = some 1 := by kernel_rfl
theorem gTabType : (Tryd.prog.globals[1]?).map (·.type) = some 161 := by kernel_rfl
theorem cellsTab : Tryd.prog.cellsOf 161 = 16 := by kernel_rfl
theorem cellsWord : Tryd.prog.cellsOf 121 = 1 := by kernel_rfl
theorem halfL_bd : ∀ z ∈ halfL, 0 ≤ z ∧ z ≤ 4294967295 := by decide

/-- What the row's list gives: the table's cells. -/
theorem tab_of {W : World} (h : laidMetH Tryd.prog [("sapper/crc.halves", Rows.laid_sapper_crc_halves)] W) : Tab W := by
  have ht : Lib.TabIs Tryd.prog W "sapper/crc.halves" .u32 halfL :=
    Lib.tabIs_of_head (rest := []) gTab gTabType Tryd.underlying161 Tryd.underlying121 cellsWord cellsTab h
  refine ⟨fun i hi => ⟨1, 0, rfl, ?_⟩, by decide, fun i => ?_⟩
  · rw [Nat.zero_add]
    exact ht.cell gTab i hi
  · by_cases hi : i < halfL.length
    · have := halfL_bd halfL[i] (List.getElem_mem hi)
      simpa [List.getD, hi] using this
    · have : halfL[i]? = none := List.getElem?_eq_none (by omega)
      simp [List.getD, this]

end Go.Proofs.YtjoghmdjnkdokaaDoor
