import Derived.Test.YtjoghmdjnkdokaaDoorPw
import Derived.Test.YtjoghmdjnkdokaaDoorPu
import Derived.Lib.SmallJoins
import Derived.Test.YtjoghmdjnkdokaaDoorPn
import Derived.Deep.RegionLaw
import Derived.Deep.CutRange
namespace Go.Proofs.YtjoghmdjnkdokaaDoor
open Go.RowKit Go.Shelf
set_option linter.unusedVariables false
set_option linter.unusedSimpArgs false

/-! FlashPlays: two pairs of devices. -/
structure Pd21' (N : Nat) (V : World) (f b : Nat) (F G : Nat → Prop) (S : Fs21) : Prop where
  p : Fl21 V f F S
  d : Rl21d V b G S
  dj : ∀ k, F k → ¬ G k
  ok : Ok21 S
  fN : ∀ k, F k → N ≤ k
  gN : ∀ k, G k → N ≤ k
theorem Fl21.lts {w : World} {b : Nat} {F : Nat → Prop} {S : Fs21} (h : Fl21 w b F S) : ∀ k, F k → k < w.heap.size := by
  obtain ⟨m, c, f, ta, tc, la, lc, W, _, _, _, _, _, h6⟩ := h
  exact h6
section
variable {N f b f' b' : Nat} {w V V' : World} {F G F' G' F1 G1 : Nat → Prop} {S S' S1 S2 : Fs21}
theorem Pd21'.old (h : Pd21' N V f b F G S) (hb : Below V.heap.size V V') : Pd21' N V' f b F G S := ⟨h.p.old hb, h.d.old hb, h.dj, h.ok, h.fN, h.gN⟩
theorem Pd21'.kp (h : Pd21' N V f b F G S) {Q : Nat → Prop} (hk : Kp Q V V') (hq : ∀ k, Q k → ¬ F k ∧ ¬ G k) : Pd21' N V' f b F G S :=
  ⟨h.p.kp (fun k e => hk.block k (h.p.lts k e) (fun q => (hq k q).1 e)) hk.size, h.d.kp (fun k e => hk.block k (h.d.lts k e) (fun q => (hq k q).2 e)) hk.size, h.dj, h.ok, h.fN, h.gN⟩
theorem Pd21'.call (h : Pd21' N V f b F G S) (hd : Dv21 V V' f b F G F1 G1 S1 S1) (ok : Ok21 S1) (hN : N ≤ V.heap.size) : Pd21' N V' f b F1 G1 S1 :=
  ⟨hd.p, hd.d, hd.dj, ok, fun k e => (hd.fF k e).elim (h.fN k) (fun q => Nat.le_trans hN q), fun k e => (hd.gG k e).elim (h.gN k) (fun q => Nat.le_trans hN q)⟩
structure Qd21 (w V : World) (f b f' b' : Nat) (F G F' G' : Nat → Prop) (S S' : Fs21) : Prop where
  a : Pd21' w.heap.size V f b F G S
  c : Pd21' w.heap.size V f' b' F' G' S'
  dis : ∀ k, (F' k ∨ G' k) → ¬ (F k ∨ G k)
  bl : Below w.heap.size w V
theorem Qd21.swap (h : Qd21 w V f b f' b' F G F' G' S S') : Qd21 w V f' b' f b F' G' F G S' S := ⟨h.c, h.a, fun k e q => h.dis k q e, h.bl⟩
theorem Qd21.old (h : Qd21 w V f b f' b' F G F' G' S S') (hb : Below V.heap.size V V') : Qd21 w V' f b f' b' F G F' G' S S' := ⟨h.a.old hb, h.c.old hb, h.dis, h.bl.trans (hb.mono h.bl.size)⟩
theorem Qd21.kp (h : Qd21 w V f b f' b' F G F' G' S S') {Q : Nat → Prop} (hk : Kp Q V V') (hq : ∀ k, Q k → ¬ (F k ∨ G k) ∧ ¬ (F' k ∨ G' k) ∧ w.heap.size ≤ k) : Qd21 w V' f b f' b' F G F' G' S S' :=
  ⟨h.a.kp hk (fun k e => ⟨fun q => (hq k e).1 (.inl q), fun q => (hq k e).1 (.inr q)⟩), h.c.kp hk (fun k e => ⟨fun q => (hq k e).2.1 (.inl q), fun q => (hq k e).2.1 (.inr q)⟩), h.dis, h.bl.trans (hk.below (fun k e => (hq k e).2.2) h.bl.size)⟩
theorem Qd21.call (h : Qd21 w V f b f' b' F G F' G' S S') (hd : Dv21 V V' f b F G F1 G1 S1 S1) (ok : Ok21 S1) : Qd21 w V' f b f' b' F1 G1 F' G' S1 S' := by
  refine ⟨h.a.call hd ok h.bl.size, h.c.kp hd.kk (fun k e => ⟨fun q => h.dis k (.inl q) e, fun q => h.dis k (.inr q) e⟩), fun k e q => ?_, h.bl.trans (hd.kk.below (fun k e => e.elim (h.a.fN k) (h.a.gN k)) h.bl.size)⟩
  have hlt : k < V.heap.size := e.elim (h.c.p.lts k) (h.c.d.lts k)
  rcases q with q | q
  · rcases hd.fF k q with z | z
    · exact h.dis k e (.inl z)
    · omega
  · rcases hd.gG k q with z | z
    · exact h.dis k e (.inr z)
    · omega
theorem Qd21.does (h : Qd21 w V f b f' b' F G F' G' S S') (ht : Tab w) (hlg : S.lg.length ≤ 4398046510000) (c a p n : Int) (ba : Option Addr) (L : List Int) (l bc : Nat) (hof : Of21 w ⟨c, a, p, n, ba, L, bc⟩) (hl : Hid (L.length = l)) (hln : l ≤ 140737488351232) :
    Calls Tryd.prog 11 #[.pointer (some ⟨f, 0, none⟩), .pointer (some ⟨b, 0, none⟩), .agg #[.int .i64 c, .int .i64 a, .int .i64 p, .int .i64 n, .slice ba l bc]] V fun e V' => e = .returned (.bool true) ∧ ∃ F1 G1, Qd21 w V' f b f' b' F1 G1 F' G' (ds21 S c a p n L) S' ∧ Kp (fun k => F k ∨ G k) V V' := by
  obtain ⟨hsg, hcap, hnil, hci, hai, hpi, hni⟩ := hof
  simp only at hsg hcap hnil hci hai hpi hni
  have htl : 1 < w.heap.size := by
    have := ht.cell 0 (by decide)
    exact World.block_lt_of_cell? _ _ this
  refine (pdoes21 h.a.p h.a.d h.a.dj h.a.ok (ht.old h.bl) hlg ⟨fun e => by have := h.a.fN _ e; omega, fun e => by have := h.a.gN _ e; omega⟩ c a p n ba L l bc ⟨hsg.old h.bl, hcap, hnil, hci, hai, hpi, hni⟩ hl hln (fun k off e h0 => ?_)).mono ?_
  · obtain ⟨k', off', e', hc⟩ := hsg.at_ 0 (by rw [hl.out]; exact h0)
    rw [e] at e'
    injection e' with e'
    injection e' with e1 _ _
    subst e1
    have := World.block_lt_of_cell? _ _ hc
    exact ⟨fun q => by have := h.a.fN _ q; simp only at *; omega, fun q => by have := h.a.gN _ q; simp only at *; omega⟩
  · rintro e V' ⟨rfl, F1, G1, hd⟩
    exact ⟨rfl, F1, G1, h.call hd (ok21_ds h.a.ok c a p n hni L), hd.kk⟩
/-- The power comes back to both of a pair. -/
theorem Qd21.power (h : Qd21 w V f b f' b' F G F' G' S S') (hn : Fn21 V V' f F { S with on := true }) : ∃ F1 G1, Qd21 w (V'.setCell ⟨b, 7, none⟩ (.bool false)) f b f' b' F1 G1 F' G' { S with on := true } S' ∧ (∃ x, V'.cell? ⟨b, 7, none⟩ = some x) ∧ V'.frozen? ⟨b, 7, none⟩ = false := by
  have h0 : Dv21 V V f b F G F G S S := ⟨h.a.p, h.a.d, h.a.dj, fun k e => .inl e, fun k e => .inl e, Kp.refl _ _⟩
  obtain ⟨F1, h1⟩ := h0.prog hn
  obtain ⟨G1, h2⟩ := h1.doc h1.d.power
  have ho := h.a.ok
  refine ⟨F1, G1, h.call h2 ⟨ho.pg, ho.ps, ho.ac, ho.lm, ho.lf, ho.tn, ho.sh⟩, ?_⟩
  obtain ⟨g, c, A, tn, ta, tc, la, lc, W, q, -⟩ := h1.d
  exact ⟨⟨_, q.cel (i := 7) rfl⟩, q.fr 7⟩
end
set_option maxRecDepth 100000 in
/-- Bytes copied. -/
theorem pcp24 (a : Option Addr) (n cap : Nat) (D : List Int) (w : World) (hs : Seg w a D) (hn : Hid (D.length = n)) (hl : n ≤ 140737488351232) (hnil : a = none → cap = 0) :
    Calls Tryd.prog 6 #[.slice a n cap] w fun e w' => ∃ p c, e = .returned (.slice p n c) ∧ w'.ownsRow w.heap.size 5 1 (.slice p n c) n (D.map (Value.int .u8)) ∧ Below w.heap.size w w' := by
  obtain ⟨i0, hi, hz0, hz1, hz2⟩ := info_parts info_y21
  obtain ⟨wA, hwA⟩ : ∃ wA, wA = w.alloc (.cells #[] 5) := ⟨_, rfl⟩
  have bA : Below w.heap.size w wA := by rw [hwA]; exact (Below.refl _ _).alloc (Nat.le_refl _) _
  have own : wA.ownsRow w.heap.size 5 1 (.slice (some ⟨w.heap.size, 0, none⟩) 0 0) 0 [] := ⟨rfl, .inr ⟨w.heap.size, 0, #[], rfl, Nat.le_refl _, by rw [hwA]; exact heap_alloc_new _ _, Nat.le_refl _, by unfold maxLen; omega, rfl, rfl⟩⟩
  have sA := hs.old bA
  have HB : Hid (Below w.heap.size w wA) := bA
  have HBZ : Hid (w.heap.size ≤ wA.heap.size) := bA.size
  have hlen : D.length ≤ 140737488351232 := by rw [hn.out]; exact hl
  rw [hwA] at own sA HB HBZ
  have hn' := hn.out
  subst hn'
  clear hwA bA
  go_enter Tryd.func6, Tryd.ntmps6
  go_wp2_with (first | (at_builtin; refine wpList_append_seg rfl (.tmp 3) (.tmp 4) 22 rfl w.heap.size 5 i0 (.int .u8 0) 1 Tryd.underlying22 hi hz0 hz1 hz2 rfl own sA hnil rfl rfl (by omega) (by omega) HBZ.out ?_; intro v2 w2 own2 x2 hb2))
  go_ret
  rw [Nat.zero_add, List.nil_append] at own2
  obtain ⟨p, c, hpc⟩ := own_sl21 own2
  exact ⟨p, c, by rw [← hpc]; rfl, by rw [← hpc]; exact own2, HB.out.trans hb2⟩
end Go.Proofs.YtjoghmdjnkdokaaDoor

namespace Go.Proofs.YtjoghmdjnkdokaaDoor
open Go.ChangeShapes Go.WideShapes Go.ChangeAt Go.RowKit Go.Deep
set_option linter.unusedVariables false
set_option maxRecDepth 100000

/-! A script that came in, with how long its bytes may be. -/
theorem weightsAll_mem24 {H : Type} {P : Program} {e : TypeId} {d : DataW H} {n : Nat} (hn : n ∈ d.weights P e) : ∀ {l : List (DataW H)}, d ∈ l → n ∈ DataW.weightsAll P e l
  | d0 :: r, h => by
    simp only [DataW.weightsAll, List.mem_append]
    rcases List.mem_cons.1 h with rfl | h
    · exact .inl hn
    · exact .inr (weightsAll_mem24 hn h)
theorem bytes_u24 : Tryd.prog.bytesOf 5 = 1 := by kernel_rfl
theorem one_op21w {H : Type} {enc : TypeId × Value → H} {W : World} {n : Nat} {cs : List Value} {x : DataW H × List MemPlace} (h : DataW.trod enc Tryd.prog W 0 (fun _ => true) true n 40 cs = some x) (hl : cs.length = 5)
    (hw : ∀ m ∈ x.1.weights Tryd.prog 40, m ≤ reachBytes) :
    ∃ (o : Oq21), cs = [.int .i64 o.c, .int .i64 o.a, .int .i64 o.p, .int .i64 o.n, .slice o.ba o.b.length o.bc] ∧ Of21 W o ∧ o.b.length ≤ 140737488351232 := by
  obtain ⟨xs, k, _, hx, _, hxl, hf⟩ := DataW.trod_struct Tryd.underlying40 h
  match cs, hl with
  | [v0, v1, v2, v3, v4], _ =>
    match xs, hxl with
    | [y0, y1, y2, y3, y4], _ =>
      have g0 := hf 0 _ rfl
      have g1 := hf 1 _ rfl
      have g2 := hf 2 _ rfl
      have g3 := hf 3 _ rfl
      have g4 := hf 4 _ rfl
      simp [cells_in21, cells_sl21] at g0 g1 g2 g3 g4
      obtain ⟨V0, e0, _, w0⟩ := DataW.trod_int Tryd.underlying3 g0
      obtain ⟨V1, e1, _, w1⟩ := DataW.trod_int Tryd.underlying3 g1
      obtain ⟨V2, e2, _, w2⟩ := DataW.trod_int Tryd.underlying3 g2
      obtain ⟨V3, e3, _, w3⟩ := DataW.trod_int Tryd.underlying3 g3
      simp at e0 e1 e2 e3
      subst e0 e1 e2 e3
      obtain ⟨ba, p, bc, rfl, hs, hc, hn, hd⟩ := slc21 g4
      refine ⟨⟨V0, V1, V2, V3, ba, p, bc⟩, rfl, ⟨hs, hc, hn, bounds_i64 w0, bounds_i64 w1, bounds_i64 w2, bounds_i64 w3⟩, ?_⟩
      rcases hd with ⟨_, h0⟩ | ⟨elems, spare, h1, h2⟩
      · show p.length ≤ _; omega
      · have hm : (elems.length + spare.length) * Tryd.prog.bytesOf 5 ∈ x.1.weights Tryd.prog 40 := by
          rw [hx]
          simp only [DataW.weights, Tryd.underlying40]
          refine DataW.weights_mem_each (j := 4) (t := 22) (d := y4.1) rfl rfl _ ?_
          rw [h1]
          simp [DataW.weights, Tryd.underlying22]
        have := hw _ hm
        rw [bytes_u24] at this
        simp only [reachBytes] at this
        show p.length ≤ _
        omega
theorem open_script21w {H : Type} {enc : TypeId × Value → H} {W : World} {a : Option Addr} {len cap : Nat} {d : DataW H} {pl : List MemPlace}
    (h : DataW.Trod enc Tryd.prog W 0 (fun _ => true) true 25 (.slice a len cap) d pl) (hw : (d.weights Tryd.prog 25).all (· ≤ reachBytes) = true) :
    ∃ O : Nat → Oq21, Ss21 W a len O ∧ (∀ i, i < len → (O i).b.length ≤ 140737488351232) ∧ ((d = .nil ∧ len = 0) ∨ ∃ elems spare, d = .slice elems spare ∧ elems.length = len) := by
  obtain ⟨fuel, hf⟩ := h
  rcases open_slice Tryd.underlying25 hf with ⟨hcs, hx⟩ | ⟨x, l, c, m, n, D, Pl, hcs, _, hl, hm, hmm, hx, hat⟩
  · simp [Value.cells] at hcs
    obtain ⟨rfl, rfl, rfl⟩ := hcs
    simp only [Prod.mk.injEq] at hx
    exact ⟨fun _ => ⟨0, 0, 0, 0, none, [], 0⟩, ⟨fun i hi => by omega, fun i hi => by omega⟩, fun i hi => by omega, Or.inl ⟨hx.1, rfl⟩⟩
  · simp [Value.cells] at hcs
    obtain ⟨rfl, rfl, rfl⟩ := hcs
    simp only [Prod.mk.injEq] at hx
    simp only [if_true] at hmm
    subst hmm
    rw [cells_op21] at hat
    have hwi : ∀ i, i < len → ∀ y ∈ (D i).weights Tryd.prog 40, y ≤ reachBytes := fun i hi y hy => by
      rw [hx.1] at hw
      have hm : y ∈ DataW.weightsAll Tryd.prog 40 ((List.range len).map D) := weightsAll_mem24 hy (List.mem_map.2 ⟨i, List.mem_range.2 hi, rfl⟩)
      have := List.all_eq_true.1 hw y (by simp only [DataW.weights, Tryd.underlying25, List.mem_cons, List.mem_append]; exact .inr (.inl hm))
      simpa using this
    have key : ∀ i, i < len → ∃ o : Oq21, W.cell? (x.add (i * 5)) = some (.int .i64 o.c) ∧ W.cell? (x.add (i * 5 + 1)) = some (.int .i64 o.a) ∧ W.cell? (x.add (i * 5 + 2)) = some (.int .i64 o.p) ∧ W.cell? (x.add (i * 5 + 3)) = some (.int .i64 o.n) ∧ W.cell? (x.add (i * 5 + 4)) = some (.slice o.ba o.b.length o.bc) ∧ Of21 W o ∧ o.b.length ≤ 140737488351232 := by
      intro i hi
      obtain ⟨cs', h1, h2⟩ := hat i (by omega)
      obtain ⟨_, hlen, hcell⟩ := World.cells?_some h1
      obtain ⟨o, rfl, hO, hB⟩ := one_op21w h2 hlen (hwi i (by omega))
      have e0 := hcell 0 (by omega)
      have e1 := hcell 1 (by omega)
      have e2 := hcell 2 (by omega)
      have e3 := hcell 3 (by omega)
      have e4 := hcell 4 (by omega)
      rw [add_add] at e0 e1 e2 e3 e4
      exact ⟨o, by simpa using e0, by simpa using e1, by simpa using e2, by simpa using e3, by simpa using e4, hO, hB⟩
    haveI : Inhabited Oq21 := ⟨⟨0, 0, 0, 0, none, [], 0⟩⟩
    obtain ⟨q, hq⟩ := choose_lt key
    refine ⟨q, ⟨fun i hi => ?_, fun i hi => (hq i (by omega)).2.2.2.2.2.1⟩, fun i hi => (hq i (by omega)).2.2.2.2.2.2, Or.inr ⟨_, _, hx.1, by simp⟩⟩
    obtain ⟨h0, h1, h2, h3, h4, _⟩ := hq i (by omega)
    obtain ⟨b, off, spot⟩ := x
    have hs : spot = none := by
      obtain ⟨h5, _⟩ := hq 0 (by omega)
      simpa [Addr.add] using World.cell?_spot h5
    subst hs
    have hadd : ∀ j, (⟨b, off, none⟩ : Addr).add j = ⟨b, off + j, none⟩ := by intro j; unfold Addr.add; split <;> simp_all
    rw [hadd] at h0 h1 h2 h3 h4
    exact ⟨b, off, rfl, h0, by rw [Nat.add_assoc]; exact h1, by rw [Nat.add_assoc]; exact h2, by rw [Nat.add_assoc]; exact h3, by rw [Nat.add_assoc]; exact h4⟩
structure Sg21 (s : Su21) : Prop where
  n0 : s.a0 = none → s.k0 = 0
  n1 : s.a1 = none → s.k1 = 0
  b0 : s.l0.length ≤ 140737488351232
  b1 : s.l1.length ≤ 140737488351232
theorem open_setup21w {H : Type} {enc : TypeId × Value → H} {W : World} {r : Reach} {b0 : Nat} {v : Value} {d : DataW H} {pl : List MemPlace}
    (hv : Value.okWide Tryd.prog W r b0 24 v) (h : DataW.Trod enc Tryd.prog W 0 (fun _ => true) true 24 v d pl) (hw : (d.weights Tryd.prog 24).all (· ≤ reachBytes) = true) :
    ∃ s : Su21, v = .agg #[.int .i64 s.p, .int .i64 s.q, .int .i64 s.ac, .slice s.a0 s.l0.length s.k0, .slice s.a1 s.l1.length s.k1] ∧ Sf21 W s ∧ Sg21 s := by
  obtain ⟨cs, rfl, hsz⟩ := okWide_struct Tryd.underlying24 hv
  rw [cells_su21] at hsz
  obtain ⟨l⟩ := cs
  match l, hsz with
  | [u0, u1, u2, u3, u4], _ =>
    obtain ⟨fuel, hf⟩ := h
    obtain ⟨xs, kk, _, hd, _, hxl, hfl⟩ := DataW.trod_struct Tryd.underlying24 hf
    match xs, hxl with
    | [y0, y1, y2, y3, y4], _ =>
      have g0 := hfl 0 _ rfl
      have g1 := hfl 1 _ rfl
      have g2 := hfl 2 _ rfl
      have g3 := hfl 3 _ rfl
      have g4 := hfl 4 _ rfl
      simp [cells_in21, cells_sl21, Value.cells] at g0 g1 g2 g3 g4
      obtain ⟨V0, e0, _, w0⟩ := DataW.trod_int Tryd.underlying3 g0
      obtain ⟨V1, e1, _, w1⟩ := DataW.trod_int Tryd.underlying3 g1
      obtain ⟨V2, e2, _, w2⟩ := DataW.trod_int Tryd.underlying3 g2
      simp at e0 e1 e2
      subst e0 e1 e2
      obtain ⟨ba, p, bc, rfl, hs, hc, hn, hq⟩ := slc21 g3
      obtain ⟨ba', p', bc', rfl, hs', hc', hn', hq'⟩ := slc21 g4
      have key : ∀ (j : Nat) (y : DataW H × List MemPlace) (m : Nat), ((j = 3 ∧ y = y3) ∨ (j = 4 ∧ y = y4)) → ((y.1 = .nil ∧ m = 0) ∨ ∃ elems spare, y.1 = .slice elems spare ∧ elems.length = m) → m ≤ 140737488351232 := by
        intro j y m hj hm
        rcases hm with ⟨_, h0⟩ | ⟨elems, spare, h1, h2⟩
        · omega
        · have hmm : (elems.length + spare.length) * Tryd.prog.bytesOf 5 ∈ d.weights Tryd.prog 24 := by
            have hd' := congrArg Prod.fst hd
            simp only at hd'
            rw [hd']
            simp only [DataW.weights, Tryd.underlying24]
            refine DataW.weights_mem_each (j := j) (t := 22) (d := y.1) ?_ ?_ _ ?_
            · rcases hj with ⟨rfl, _⟩ | ⟨rfl, _⟩ <;> rfl
            · rcases hj with ⟨rfl, rfl⟩ | ⟨rfl, rfl⟩ <;> rfl
            · rw [h1]; simp [DataW.weights, Tryd.underlying22]
          have := List.all_eq_true.1 hw _ hmm
          rw [bytes_u24] at this
          simp [reachBytes] at this
          omega
      exact ⟨⟨V0, V1, V2, ba, p, bc, ba', p', bc'⟩, rfl, ⟨hs, hs', hc, hc', bounds_i64 w0, bounds_i64 w1, bounds_i64 w2⟩, ⟨hn, hn', key 3 y3 _ (.inl ⟨rfl, rfl⟩) hq, key 4 y4 _ (.inr ⟨rfl, rfl⟩) hq'⟩⟩
end Go.Proofs.YtjoghmdjnkdokaaDoor

namespace Go.Proofs.YtjoghmdjnkdokaaDoor
open Go.RowKit Go.Shelf
set_option linter.unusedVariables false
set_option linter.unusedSimpArgs false

/-! The document's flash: New, walked. -/
/-- What holds while New lays area a: the areas ahead are laid, cur is a's slice. -/
structure Nd21 (w W : World) (b p q : Nat) (ac : Int) (sl : Array Value) (S : Fs21) (a : Nat) (g c : Nat → Nat) (A : Nat → List Pd21) (cur : Value) : Prop where
  bl : Below w.heap.size w W
  gs : W.heap[w.heap.size]? = some (.cells sl 27 (0, 0))
  hp : W.heap[b]? = some (.cells #[.int .i64 (p : Int), .int .i64 (q : Int), .int .i64 ac, (if 0 < a then .slice (some ⟨g 0, 0, none⟩) (A 0).length (c 0) else if a = 0 then cur else .slice none 0 0), (if 1 < a then .slice (some ⟨g 1, 0, none⟩) (A 1).length (c 1) else if a = 1 then cur else .slice none 0 0), .slice none 0 0, .slice none 0 0, .bool false, .int .i64 0, .slice none 0 0, .int .i64 0] 46 (0, 0))
  ar : ∀ x, x < a → Ac21 w.heap.size W S x (g x) (c x) (A x)
  gi : ∀ x y, x < a → y < a → x ≠ y → g x ≠ g y
  bN : w.heap.size ≤ b
section
variable {w W W' : World} {b p q : Nat} {ac : Int} {sl : Array Value} {S : Fs21} {a : Nat} {g c : Nat → Nat} {A : Nat → List Pd21} {cur : Value}
theorem Nd21.lt (h : Nd21 w W b p q ac sl S a g c A cur) : b < W.heap.size := (Array.getElem?_eq_some_iff.1 h.hp).1
theorem Nd21.cel (h : Nd21 w W b p q ac sl S a g c A cur) (ha : a < 2) : W.cell? ⟨b, 3 + a, none⟩ = some cur := by
  rcases (show a = 0 ∨ a = 1 by omega) with rfl | rfl
  · simp [World.cell?, h.hp]
  · simp [World.cell?, h.hp]
theorem Nd21.fr (h : Nd21 w W b p q ac sl S a g c A cur) (i : Nat) : W.frozen? ⟨b, i, none⟩ = false := by simp [World.frozen?, h.hp]
/-- Only new blocks. -/
theorem Nd21.old (h : Nd21 w W b p q ac sl S a g c A cur) (hb : Below W.heap.size W W') : Nd21 w W' b p q ac sl S a g c A cur := by
  have hkb : KB21 W W' := fun k cur e => hb.block k (Array.getElem?_eq_some_iff.1 e).1
  refine ⟨h.bl.trans (hb.mono h.bl.size), (hb.block _ (Array.getElem?_eq_some_iff.1 h.gs).1).trans h.gs, (hb.block b h.lt).trans h.hp, fun x hx => ?_, h.gi, h.bN⟩
  obtain ⟨X, hX⟩ := (h.ar x hx).1
  exact (h.ar x hx).kb hkb (hb.block _ (Array.getElem?_eq_some_iff.1 hX).1)
/-- The area's slice anew: all is kept but b and a row of pages that is none of the laid ones. -/
theorem Nd21.put (h : Nd21 w W b p q ac sl S a g c A cur) (ha : a < 2) {Q : Nat → Prop} {W1 : World} (hk : Kp Q W W1) (hQ : ∀ k, Q k → w.heap.size ≤ k ∧ (∀ x, x < a → k ≠ g x) ∧ k ≠ b ∧ (∀ cur : Array Value, W.heap[k]? ≠ some (Obj.cells cur 5 (0, 0))) ∧ (∀ cur : Array Value, W.heap[k]? ≠ some (Obj.cells cur 27 (0, 0)))) (v : Value) :
    Nd21 w (W1.setCell ⟨b, 3 + a, none⟩ v) b p q ac sl S a g c A v := by
  have hk2 : Kp (fun k => k = b ∨ Q k) W (W1.setCell ⟨b, 3 + a, none⟩ v) := (hk.mono (fun _ _ e => .inr e)).trans (Kp.set (S := fun k => k = b ∨ Q k) (.inl rfl) _) (fun _ _ e => e)
  have hkb : KB21 W (W1.setCell ⟨b, 3 + a, none⟩ v) := fun k cur e => hk2.block k (Array.getElem?_eq_some_iff.1 e).1 (fun q => by
    rcases q with q | q
    · subst q; rw [h.hp] at e; injection e with e; injection e with _ e _; exact absurd e (by decide)
    · exact (hQ k q).2.2.2.1 cur e)
  have hb1 : W1.heap[b]? = W.heap[b]? := hk.block b h.lt (fun e => (hQ b e).2.2.1 rfl)
  refine ⟨h.bl.trans (hk2.below (fun i e => ?_) h.bl.size), ?_, ?_, fun x hx => ?_, h.gi, h.bN⟩
  · rcases e with e | e
    · rw [e]; exact h.bN
    · exact (hQ i e).1
  · refine (hk2.block _ (Array.getElem?_eq_some_iff.1 h.gs).1 (fun q => ?_)).trans h.gs
    rcases q with q | q
    · have := h.hp; rw [← q, h.gs] at this; injection this with e; injection e with _ e _; exact absurd e (by decide)
    · exact (hQ _ q).2.2.2.2 _ h.gs
  · have := hb1.trans h.hp
    rcases (show a = 0 ∨ a = 1 by omega) with rfl | rfl
    · simp [World.setCell, Array.getElem?_modify, this]
    · simp [World.setCell, Array.getElem?_modify, this]
  · obtain ⟨X, hX⟩ := (h.ar x hx).1
    refine (h.ar x hx).kb hkb (hk2.block _ (Array.getElem?_eq_some_iff.1 hX).1 (fun q => ?_))
    rcases q with q | q
    · have := h.hp; rw [← q, hX] at this; injection this with e; injection e with _ e _; exact absurd e (by decide)
    · exact (hQ _ q).2.1 x hx rfl
end
theorem Nd21.next {w W : World} {b p q : Nat} {ac : Int} {sl : Array Value} {S : Fs21} {a : Nat} {g c : Nat → Nat} {A : Nat → List Pd21} {r cap n : Nat} {L : List Pd21} (h : Nd21 w W b p q ac sl S a g c A (.slice (some ⟨r, 0, none⟩) n cap)) (ha : a < 2) (hL : L.length = n) (hac : Ac21 w.heap.size W S a r cap L) (hr : ∀ x, x < a → r ≠ g x) :
    ∃ g' c' A', Nd21 w W b p q ac sl S (a + 1) g' c' A' (.slice none 0 0) := by
  refine ⟨fun x => if x = a then r else g x, fun x => if x = a then cap else c x, fun x => if x = a then L else A x, h.bl, h.gs, ?_, fun x hx => ?_, fun x y hx hy hne => ?_, h.bN⟩
  · have := h.hp
    rcases (show a = 0 ∨ a = 1 by omega) with rfl | rfl
    · simpa [hL] using this
    · simpa [hL] using this
  · by_cases e : x = a
    · subst e; simpa using hac
    · simpa [e] using h.ar x (by omega)
  · by_cases e : x = a
    · have e2 : ¬ y = a := by omega
      simp only [e, if_true, e2, if_false]; exact hr y (by omega)
    · by_cases e2 : y = a
      · simp only [e, if_false, e2, if_true]; exact fun q => hr x (by omega) q.symm
      · simp only [e, e2, if_false]; exact h.gi x y (by omega) (by omega) hne
end Go.Proofs.YtjoghmdjnkdokaaDoor

namespace Go.Proofs.YtjoghmdjnkdokaaDoor
open Go.RowKit Go.Shelf
set_option linter.unusedVariables false
set_option linter.unusedSimpArgs false

/-! The document's flash: New. -/
/-- The inner loop: i pages of area a are laid, their bytes in block B. -/
def Nk21 (w W : World) (b p q : Nat) (ac : Int) (sl : Array Value) (S : Fs21) (a : Nat) (g c : Nat → Nat) (A : Nat → List Pd21) (B i : Nat) (D : List Int) : Prop :=
  ∃ (ra : Option Addr) (rc : Nat) (L : List Pd21), Nd21 w W b p q ac sl S a g c A (.slice ra i rc) ∧ L.length = i ∧ W.ownsRow w.heap.size 72 3 (.slice ra i rc) i (pdl21 L) ∧ (∀ y d, L[y]? = some d → Pk21 w.heap.size W S a y d) ∧ (∀ x k, x < a → (Value.slice ra i rc).ownBlock = some k → k ≠ g x) ∧ W.heap[B]? = some (.cells (D.map (Value.int .u8)).toArray 5 (0, 0)) ∧ w.heap.size ≤ B
set_option maxRecDepth 100000 in
set_option maxHeartbeats 32000000 in
theorem rnew21 {w : World} (p q : Nat) (ac : Int) (hp : 64 ≤ p ∧ p ≤ 4096) (hq : 1 ≤ q ∧ q ≤ 4096) (hac : ac = 0 ∨ ac = 1) (a0 a1 : Option Addr) (L0 L1 : List Int) (n0 n1 k0 k1 : Nat) (s0 : Seg w a0 L0) (s1 : Seg w a1 L1) (e0 : Hid (L0.length = n0)) (e1 : Hid (L1.length = n1)) (z0 : n0 ≤ p * q) (z1 : n1 ≤ p * q) :
    Calls Tryd.prog 8 #[.int .i64 (p : Int), .int .i64 (q : Int), .int .i64 ac, .agg #[.slice a0 n0 k0, .slice a1 n1 k1]] w fun e w' => ∃ b G, e = .returned (.tuple #[.pointer (some ⟨b, 0, none⟩), .int .i64 0]) ∧ Rl21d w' b G (nw21 p q ac L0 L1) ∧ (∀ k, G k → w.heap.size ≤ k) ∧ Below w.heap.size w w' := by
  obtain ⟨PQ, hPQ⟩ : ∃ PQ, PQ = p * q := ⟨_, rfl⟩
  have hpq : PQ ≤ 16777216 := by rw [hPQ]; exact Nat.mul_le_mul hp.2 hq.2
  rw [← hPQ] at z0 z1
  have hmul : IntKind.i64.wrap ((p : Int) * (q : Int)) = (PQ : Int) := by
    have e : (p : Int) * (q : Int) = (PQ : Int) := by rw [hPQ]; exact (Int.natCast_mul _ _).symm
    rw [e, IntWalk.i64_in _ (by omega)]
  obtain ⟨S, hS⟩ : ∃ S, S = nw21 p q ac L0 L1 := ⟨_, rfl⟩
  rw [← hS]
  obtain ⟨sl, hsl⟩ : ∃ sl : Array Value, sl = #[.slice a0 n0 k0, .slice a1 n1 k1] := ⟨_, rfl⟩
  obtain ⟨gs, hgs⟩ : ∃ gs, gs = w.heap.size := ⟨_, rfl⟩
  have HG : Hid (w.heap.size = gs) := hgs.symm
  obtain ⟨w2, hw2⟩ : ∃ w2, w2 = (w.alloc (.cells #[.slice a0 n0 k0, .slice a1 n1 k1] 27)).alloc (.cells #[.int .i64 (p : Int), .int .i64 (q : Int), .int .i64 ac, .slice none 0 0, .slice none 0 0, .slice none 0 0, .slice none 0 0, .bool false, .int .i64 0, .slice none 0 0, .int .i64 0] 46) := ⟨_, rfl⟩
  have HW2 : Hid ((w.alloc (.cells #[.slice a0 n0 k0, .slice a1 n1 k1] 27)).alloc (.cells #[.int .i64 (p : Int), .int .i64 (q : Int), .int .i64 ac, .slice none 0 0, .slice none 0 0, .slice none 0 0, .slice none 0 0, .bool false, .int .i64 0, .slice none 0 0, .int .i64 0] 46) = w2) := hw2.symm
  have b2 : Below w.heap.size w w2 := by rw [hw2]; exact ((Below.refl _ _).alloc (Nat.le_refl _) _).alloc (by simp) _
  have HN0 : Hid (Nd21 w w2 (gs + 1) p q ac sl S 0 (fun _ => 0) (fun _ => 0) (fun _ => []) (.slice none 0 0)) := by
    refine ⟨b2, ?_, ?_, fun x hx => by omega, fun x y hx => by omega, by omega⟩
    · rw [hw2, heap_alloc_old _ _ (by simp), hsl]; exact heap_alloc_new _ _
    · rw [hw2, hgs]; simpa using heap_alloc2_new w (.cells #[.slice a0 n0 k0, .slice a1 n1 k1] 27) (.cells #[.int .i64 (p : Int), .int .i64 (q : Int), .int .i64 ac, .slice none 0 0, .slice none 0 0, .slice none 0 0, .slice none 0 0, .bool false, .int .i64 0, .slice none 0 0, .int .i64 0] 46)
  have HSL : Hid (∀ a : Nat, a < 2 → ∃ (aa : Option Addr) (n k : Nat) (L : List Int), (∀ W : World, W.heap[gs]? = some (.cells sl 27 (0, 0)) → W.cell? ⟨gs, a, none⟩ = some (.slice aa n k)) ∧ Seg w aa L ∧ L.length = n ∧ n ≤ PQ ∧ L = Ls21 L0 L1 (a : Int)) := fun a ha => by
    rcases (show a = 0 ∨ a = 1 by omega) with rfl | rfl
    · exact ⟨a0, n0, k0, L0, fun W h => by rw [hsl] at h; exact two_cell0 h, s0, e0.out, z0, rfl⟩
    · exact ⟨a1, n1, k1, L1, fun W h => by rw [hsl] at h; exact two_cell1 h, s1, e1.out, z1, rfl⟩
  have c0 : (w.alloc (.cells #[.slice a0 n0 k0, .slice a1 n1 k1] 27)).cell? ⟨gs, 0, none⟩ = some (.slice a0 n0 k0) := by rw [hgs]; exact two_cell0 (heap_alloc_new w _)
  have c1 : (w.alloc (.cells #[.slice a0 n0 k0, .slice a1 n1 k1] 27)).cell? ⟨gs, 1, none⟩ = some (.slice a1 n1 k1) := by rw [hgs]; exact two_cell1 (heap_alloc_new w _)
  have i1 : ¬ (p : Int) < 64 := by omega
  have i2 : ¬ (4096 : Int) < (p : Int) := by omega
  have i3 : ¬ (q : Int) < 1 := by omega
  have i4 : ¬ (4096 : Int) < (q : Int) := by omega
  have i5 : ¬ ac < 0 := by omega
  have i6 : ¬ (1 : Int) < ac := by omega
  have i7 : ¬ (PQ : Int) < (n0 : Int) := by omega
  have i8 : ¬ (PQ : Int) < (n1 : Int) := by omega
  have HPP : Hid (PQ = p * q ∧ PQ ≤ 16777216 ∧ S = nw21 p q ac L0 L1 ∧ 64 ≤ p ∧ p ≤ 4096 ∧ 1 ≤ q ∧ q ≤ 4096 ∧ (ac = 0 ∨ ac = 1)) := ⟨hPQ, hpq, hS, hp.1, hp.2, hq.1, hq.2, hac⟩
  have HSPS : Hid (S.ps = q ∧ S.pg = p) := by rw [hS]; exact ⟨rfl, rfl⟩
  clear hPQ hS hsl hgs hw2 b2 s0 s1 hac e0 e1
  go_enter Tryd.func8, Tryd.ntmps8
  go_upto_region 4 with fail
  rw [HG.out, HW2.out]
  clear c0 c1 i1 i2 i3 i4 i5 i6 i7 i8 z0 z1
  go_wp2_with fail
  go_loopw [11] (fun ti wr => ∃ (a : Nat), a ≤ 2 ∧ ti = .int .i64 (a : Int) ∧ ∃ (g c : Nat → Nat) (A : Nat → List Pd21), Nd21 w wr (gs + 1) p q ac sl S a g c A (.slice none 0 0)) (fun ti _ => 2 - (intOf ti).toNat)
  case atStart => exact ⟨0, by omega, rfl, _, _, _, HN0.out⟩
  case round =>
    obtain ⟨a, ha2, rfl, g, c, A, hN⟩ := hrel
    by_cases ha : a < 2
    · have hai : (a : Int) < 2 := by omega
      obtain ⟨aa, n, k, L, hcel, hseg, hln, hnP, hLL⟩ := HSL.out a ha
      have hBK := rblk21 PQ hpq wr
      have HN : Hid (Nd21 w wr (gs + 1) p q ac sl S a g c A (.slice none 0 0)) := hN
      have HLN : Hid (L.length = n) := hln
      have HLL : Hid (L = Ls21 L0 L1 (a : Int)) := hLL
      have HSG : Hid (Seg w aa L) := hseg
      have HCEL : Hid (∀ W : World, W.heap[gs]? = some (.cells sl 27 (0, 0)) → W.cell? ⟨gs, a, none⟩ = some (.slice aa n k)) := hcel
      have HNM : Hid (n = Nat.min n PQ) := by show n = min n PQ; omega
      have HFT : Hid (0 + n ≤ (List.replicate PQ (255 : Int)).length) := by show _ ≤ _; simp; omega
      clear hN hln hLL hseg hcel
      go_wp2_with fail
      refine hBK.mono ?_
      rintro e w3 ⟨rfl, hh3, hb3⟩
      obtain ⟨B, hB⟩ : ∃ B, B = wr.heap.size := ⟨_, rfl⟩
      have HB : Hid (wr.heap.size = B) := hB.symm
      have hN3 := HN.out.old hb3
      have cs := HCEL.out w3 (by have := hN3.gs; rw [HG.out] at this; exact this)
      have HH3 : Hid (w3.heap[B]? = some (.cells ((List.replicate PQ (255 : Int)).map (Value.int .u8)).toArray 5 (0, 0))) := by show _ = _; rw [hB]; exact hh3
      have HN3 : Hid (Nd21 w w3 (gs + 1) p q ac sl S a g c A (.slice none 0 0)) := hN3
      have HSG3 : Hid (Seg w3 aa L) := HSG.out.old hN3.bl
      have HBB : Hid (B = wr.heap.size ∧ Below wr.heap.size wr w3) := ⟨hB, hb3⟩
      rw [HB.out]
      clear hBK hh3 hb3 hN3 hB
      go_upto_region 9 with (first
        | (refine wpList_copy21 rfl (.tmp 67) (.tmp 70) 22 22 rfl 5 Tryd.underlying22 size_y21 rfl rfl B 0 (List.replicate PQ 255) 5 HH3.out L n HLN.out HNM.out (fun _ => ⟨rfl, HSG3.out⟩) HFT.out ?_; intro w4 h4 k4))
      obtain ⟨D, hD⟩ : ∃ D, D = sp21 (List.replicate PQ (255 : Int)) 0 L := ⟨_, rfl⟩
      have HD : Hid (D = sp21 (List.replicate PQ (255 : Int)) 0 L) := hD
      have HK0 : Hid (Nk21 w w4 (gs + 1) p q ac sl S a g c A B 0 D) := by
        obtain ⟨hBe, hBb⟩ := HBB.out
        have hN := HN.out
        have hwr := hN.bl.size
        have hb4 : Below wr.heap.size wr w4 := hBb.trans (k4.below (fun i e => by omega) hBb.size)
        refine ⟨none, 0, [], hN.old hb4, rfl, World.ownsRow_nil _ _ _ _, fun y d e => by simp at e, fun x k hx e => by simp [Value.ownBlock] at e, ?_, by omega⟩
        rw [hD]; exact h4.out
      clear h4 k4 hD
      go_wp2_with fail
      go_loopw [13] (fun tj wq => ∃ (i : Nat), i ≤ q ∧ tj = .int .i64 (i : Int) ∧ Nk21 w wq (gs + 1) p q ac sl S a g c A B i D) (fun tj _ => q - (intOf tj).toNat)
      case atStart => exact ⟨0, by omega, rfl, HK0.out⟩
      case round =>
        obtain ⟨i, hiq, rfl, hK⟩ := hrel
        by_cases hi : i < q
        · have hii : (i : Int) < (q : Int) := by omega
          obtain ⟨ra, rc, LL, hNd, hLl, hown, hpk, hne, hBh, hBw⟩ := hK
          obtain ⟨IP, hIP⟩ : ∃ IP, IP = i * p := ⟨_, rfl⟩
          obtain ⟨JP, hJP⟩ : ∃ JP, JP = (i + 1) * p := ⟨_, rfl⟩
          have hJI : JP = IP + p := by rw [hJP, hIP, Nat.succ_mul]
          have hJPQ : JP ≤ PQ := by rw [hJP, HPP.out.1, Nat.mul_comm p q]; exact Nat.mul_le_mul_right p hi
          have hm1 : IntKind.i64.wrap ((i : Int) * (p : Int)) = (IP : Int) := by
            have e : (i : Int) * (p : Int) = (IP : Int) := by rw [hIP]; exact (Int.natCast_mul _ _).symm
            rw [e, IntWalk.i64_in _ (by omega)]
          have hiw : IntKind.i64.wrap ((i : Int) + 1) = ((i + 1 : Nat) : Int) := by rw [IntWalk.i64_in _ (by omega)]; omega
          have hm2 : IntKind.i64.wrap (((i + 1 : Nat) : Int) * (p : Int)) = (JP : Int) := by
            have e : ((i + 1 : Nat) : Int) * (p : Int) = (JP : Int) := by rw [hJP]; exact (Int.natCast_mul _ _).symm
            rw [e, IntWalk.i64_in _ (by omega)]
          have hm2' : IntKind.i64.wrap (((i : Int) + 1) * (p : Int)) = (JP : Int) := by rw [← hm2]; congr 2
          have l1 : (IP : Int) ≤ (JP : Int) := by omega
          have ha3 : (a : Int) < 3 := by omega
          have l2 : (JP : Int) ≤ (PQ : Int) := by omega
          have l3 : ¬ PQ = IP := by have := HPP.out; omega
          have hDl : D.length = PQ := by rw [HD.out, sp21_len _ _ _ (by simp; have := HLN.out; omega)]; simp
          have hDm : ∀ z ∈ D, 0 ≤ z ∧ z ≤ 255 := fun z hz => by
            rw [HD.out, sp21_rep0] at hz
            rcases List.mem_append.1 hz with e | e
            · exact HSG.out.mem z e
            · rw [(List.mem_replicate.1 e).2]; decide
          have hch : ((D.drop IP).take p).length = JP - IP := by simp; omega
          obtain ⟨r, cap, w5, hrun, hown5, hk5, hr5⟩ := run_pg21 w.heap.size wr.drew (by have := hNd.bl.size; exact this) ra i rc LL hLl ⟨B, IP, PQ - IP, (D.drop IP).take p, false, 0⟩ (JP - IP) hch (by exact ⟨hown.1, hown.2⟩) (by omega) 42
          have HAPP : Hid ((Builtin.append_ #[42, 42] 42 #[.slice ra i rc, .slice (some ⟨wr.heap.size, 0, none⟩) 1 1]).run Tryd.prog (wr.drew.alloc (.cells #[.slice (some ⟨B, IP, none⟩) (JP - IP) (PQ - IP), .bool false, .int .i64 0] 72)) = .ok (.slice (some ⟨r, 0, none⟩) (i + 1) cap) w5) := hrun
          have hlt := hNd.lt
          have d3 : wr.cell? ⟨gs + 1, 3 + a, none⟩ = some (.slice ra i rc) := hNd.cel ha
          have hca : ∀ o, (wr.alloc o).cell? ⟨gs + 1, 3 + a, none⟩ = some (.slice ra i rc) := fun o => (((Below.refl wr.heap.size wr).alloc (Nat.le_refl _) o).cell (p := ⟨gs + 1, 3 + a, none⟩) hlt).trans d3
          have hrb : ∀ k, (Value.slice ra i rc).ownBlock = some k → w.heap.size ≤ k ∧ k ≠ gs + 1 ∧ (∀ cur : Array Value, wr.heap[k]? ≠ some (Obj.cells cur 5 (0, 0))) ∧ (∀ cur : Array Value, wr.heap[k]? ≠ some (Obj.cells cur 27 (0, 0))) := fun k e => by
            rcases hown.2 with ⟨h1, h2⟩ | ⟨q', cp, cu, h1, h2, h3, h4⟩
            · rw [h1] at e; cases e
            · rw [h1] at e
              simp [Value.ownBlock] at e
              subst e
              refine ⟨h2, fun e => ?_, fun cur e => ?_, fun cur e => ?_⟩
              · have := hNd.hp; rw [← e, h3] at this; injection this with e; injection e with _ e _; exact absurd e (by decide)
              · rw [h3] at e; injection e with e; injection e with _ e _; exact absurd e (by decide)
              · rw [h3] at e; injection e with e; injection e with _ e _; exact absurd e (by decide)
          have hk5' : Kp (fun j => (Value.slice ra i rc).ownBlock = some j) wr w5 := ⟨hk5.os, hk5.tape, hk5.output, hk5.size, hk5.block⟩
          have hb5 : w5.heap[gs + 1]? = wr.heap[gs + 1]? := hk5'.block _ hlt (fun e => (hrb _ e).2.1 rfl)
          have x3 : w5.cell? ⟨gs + 1, 3 + a, none⟩ = some (.slice ra i rc) := (World.cell?_of_block (a := ⟨gs + 1, 3 + a, none⟩) hb5).trans d3
          have f3 : w5.frozen? ⟨gs + 1, 3 + a, none⟩ = false := (World.frozen?_of_block (a := ⟨gs + 1, 3 + a, none⟩) hb5).trans (hNd.fr _)
          have HNX : Hid (Nk21 w (w5.setCell ⟨gs + 1, 3 + a, none⟩ (.slice (some ⟨r, 0, none⟩) (i + 1) cap)) (gs + 1) p q ac sl S a g c A B (i + 1) D) := by
            have hnd := hNd.put ha hk5' (fun k e => ⟨(hrb k e).1, fun x hx => hne x k hx e, (hrb k e).2.1, (hrb k e).2.2.1, (hrb k e).2.2.2⟩) (.slice (some ⟨r, 0, none⟩) (i + 1) cap)
            have hks : Kp (fun k => k = gs + 1) w5 (w5.setCell ⟨gs + 1, 3 + a, none⟩ (.slice (some ⟨r, 0, none⟩) (i + 1) cap)) := Kp.set (S := fun k => k = gs + 1) rfl _
            have hrn : r ≠ gs + 1 := by
              rcases hr5 with e | e
              · exact (hrb r e).2.1
              · have : wr.heap.size ≤ r := e; omega
            have hkb : KB21 wr (w5.setCell ⟨gs + 1, 3 + a, none⟩ (.slice (some ⟨r, 0, none⟩) (i + 1) cap)) := fun k cur e => by
              have hlk := (Array.getElem?_eq_some_iff.1 e).1
              have hk1 : k ≠ gs + 1 := fun q => by subst q; rw [hNd.hp] at e; injection e with e; injection e with _ e _; exact absurd e (by decide)
              rw [hks.block k (Nat.lt_of_lt_of_le hlk hk5'.size) hk1]
              exact hk5'.block k hlk (fun q => (hrb k q).2.2.1 cur e)
            have hown6 : (w5.setCell ⟨gs + 1, 3 + a, none⟩ (.slice (some ⟨r, 0, none⟩) (i + 1) cap)).ownsRow w.heap.size 72 3 (.slice (some ⟨r, 0, none⟩) (i + 1) cap) (i + 1) (pdl21 (LL ++ [⟨B, IP, PQ - IP, (D.drop IP).take p, false, 0⟩])) := by
              refine ⟨hown5.1, ?_⟩
              rcases hown5.2 with q0 | ⟨g', cap', cur, q1, q2, q3, q4⟩
              · exact .inl q0
              · simp only [Value.slice.injEq, Option.some.injEq, Addr.mk.injEq] at q1
                obtain ⟨⟨rfl, -⟩, -, rfl⟩ := q1
                exact .inr ⟨r, cap, cur, rfl, q2, (hks.block r (Array.getElem?_eq_some_iff.1 q3).1 hrn).trans q3, q4⟩
            have hBh' := (hkb B _ hBh).trans hBh
            refine ⟨some ⟨r, 0, none⟩, cap, LL ++ [⟨B, IP, PQ - IP, (D.drop IP).take p, false, 0⟩], hnd, by simp [hLl], hown6, fun y d e => ?_, fun x k hx e => ?_, hBh', hBw⟩
            · by_cases hy : y < LL.length
              · rw [List.getElem?_append_left hy] at e
                exact (hpk y d e).kb hkb
              · rw [List.getElem?_append_right (by omega)] at e
                have hy0 : y - LL.length = 0 := by
                  rcases Nat.eq_zero_or_pos (y - LL.length) with h | h
                  · exact h
                  · rw [List.getElem?_eq_none (by simp; omega)] at e; cases e
                rw [hy0] at e
                have hyi : y = i := by omega
                subst hyi
                simp at e
                subst e
                have hfb := nw21_fb p q ac L0 L1 a y ha hi (by rw [← HLL.out, HLN.out, ← HPP.out.1]; exact hnP) (by omega)
                rw [← HPP.out.2.2.1, ← HLL.out, ← HPP.out.1, ← HD.out, ← hIP] at hfb
                refine ⟨?_, ⟨hBw, _, hBh'⟩, hfb.1.symm, hfb.2.1.symm, hfb.2.2.symm, ?_⟩
                · have := ((seg_row21 hBh' hDm).drop IP).take p
                  simpa using this
                · show ((D.drop IP).take p).length ≤ PQ - IP; rw [hch]; omega
            · simp [Value.ownBlock] at e
              subst e
              rcases hr5 with e | e
              · exact hne x r hx e
              · obtain ⟨X, hX⟩ := (hNd.ar x hx).1
                have := (Array.getElem?_eq_some_iff.1 hX).1
                have : wr.heap.size ≤ r := e
                omega
          clear hNd hLl hown hpk hne hBh hBw hIP hJP hJI hJPQ hDl hDm hch hrun hown5 hk5 hr5 hrb hk5' hb5
          go_wp2_with fail
          go_region_law
            (refine step_apr21 rfl (.tmp 84) (.tmp 95) 42 rfl rfl rfl (by exact HAPP.out) ?_)
          all_goals
            go_wp2_with fail
            go_roundw
            case rel => exact ⟨i + 1, by omega, by go_num, HNX.out⟩
            case measure => simp [intOf]; omega
        · obtain rfl : i = q := by omega
          have hii : ¬ (i : Int) < (i : Int) := by omega
          have haw : IntKind.i64.wrap ((a : Int) + 1) = ((a + 1 : Nat) : Int) := by rw [IntWalk.i64_in _ (by omega)]; omega
          have HNX : Hid (∃ (g c : Nat → Nat) (A : Nat → List Pd21), Nd21 w wr (gs + 1) p i ac sl S (a + 1) g c A (.slice none 0 0)) := by
            obtain ⟨ra, rc, LL, hNd, hLl, hown, hpk, hne, hBh, hBw⟩ := hK
            have hi0 : 0 < i := by have := HPP.out; omega
            obtain ⟨r, rfl⟩ : ∃ r, ra = some ⟨r, 0, none⟩ := by
              rcases hown.2 with ⟨_, h2⟩ | ⟨q', cp, cu, h1, _⟩
              · omega
              · simp only [Value.slice.injEq] at h1; exact ⟨q', h1.1⟩
            exact hNd.next ha hLl (ac21_own hown hLl (by rw [HSPS.out.1]; unfold pn21; rw [if_neg (by omega), if_neg (by omega)]) hpk) (fun x hx => hne x r hx rfl)
          clear hK
          go_wp2_with fail
          go_roundw
          case rel => exact ⟨a + 1, by omega, by go_num, HNX.out⟩
          case measure => simp [intOf]; omega
    · obtain rfl : a = 2 := by omega
      have hai : ¬ ((2 : Nat) : Int) < 2 := by omega
      have HN : Hid (Nd21 w wr (gs + 1) p q ac sl S 2 g c A (.slice none 0 0)) := hN
      have HBK : Hid (∀ W : World, Calls Tryd.prog 25 #[.int .i64 (p : Int)] W fun e w' => Bk21 W W.heap.size p e w') := fun W => rblk21 p (by omega) W
      have HB1 : Hid (Calls Tryd.prog 25 #[.int .i64 (p : Int)] wr.drew fun e w' => Bk21 wr wr.heap.size p e w') := (rblk21 p (by omega) wr.drew).mono (fun e w' q => ⟨q.1, q.2.1, (Below.refl _ _).drew.trans (a := wr) q.2.2⟩)
      have HC5 : Hid (∀ (W : World) (o : Obj), Below wr.heap.size wr W → (W.alloc o).cell? ⟨gs + 1, 5, none⟩ = some (.slice none 0 0) ∧ (W.alloc o).frozen? ⟨gs + 1, 5, none⟩ = false) := fun W o hb => by
        have h := (hN.old hb).old ((Below.refl _ _).alloc (Nat.le_refl _) o)
        exact ⟨by simp [World.cell?, h.hp], h.fr 5⟩
      have HFIN : Hid (∀ (W3 W : World) (B1 B2 : Nat), Below wr.heap.size wr W → W.heap[B1]? = some (.cells ((List.replicate p (255 : Int)).map (Value.int .u8)).toArray 5 (0, 0)) → W.heap[B2]? = some (.cells ((List.replicate p (255 : Int)).map (Value.int .u8)).toArray 5 (0, 0)) → wr.heap.size ≤ B1 → wr.heap.size ≤ B2 →
          ∃ G, Rl21d ((W.alloc (.cells #[.slice (some ⟨B1, 0, none⟩) p p, .bool true, .int .i64 0, .slice (some ⟨B2, 0, none⟩) p p, .bool true, .int .i64 0] 72)).setCell ⟨gs + 1, 5, none⟩ (.slice (some ⟨W.heap.size, 0, none⟩) 2 2)) (gs + 1) G S ∧ (∀ k, G k → w.heap.size ≤ k) ∧ Below w.heap.size w ((W.alloc (.cells #[.slice (some ⟨B1, 0, none⟩) p p, .bool true, .int .i64 0, .slice (some ⟨B2, 0, none⟩) p p, .bool true, .int .i64 0] 72)).setCell ⟨gs + 1, 5, none⟩ (.slice (some ⟨W.heap.size, 0, none⟩) 2 2))) := fun W3 W B1 B2 hb h1 h2 hB1 hB2 => by
        obtain ⟨o6, ho6⟩ : ∃ o6 : Obj, o6 = .cells #[.slice (some ⟨B1, 0, none⟩) p p, .bool true, .int .i64 0, .slice (some ⟨B2, 0, none⟩) p p, .bool true, .int .i64 0] 72 := ⟨_, rfl⟩
        rw [← ho6]
        have hba : Below W.heap.size W (W.alloc o6) := (Below.refl _ _).alloc (Nat.le_refl _) _
        have hNw := hN.old hb
        have hNa := hNw.old hba
        have hr : (W.alloc o6).heap[W.heap.size]? = some (.cells #[.slice (some ⟨B1, 0, none⟩) p p, .bool true, .int .i64 0, .slice (some ⟨B2, 0, none⟩) p p, .bool true, .int .i64 0] 72 (0, 0)) := by rw [ho6]; exact heap_alloc_new _ _
        have ha1 : (W.alloc o6).heap[B1]? = _ := (hba.block B1 (Array.getElem?_eq_some_iff.1 h1).1).trans h1
        have ha2 : (W.alloc o6).heap[B2]? = _ := (hba.block B2 (Array.getElem?_eq_some_iff.1 h2).1).trans h2
        obtain ⟨Wf, hWf⟩ : ∃ Wf, Wf = (W.alloc o6).setCell ⟨gs + 1, 5, none⟩ (.slice (some ⟨W.heap.size, 0, none⟩) 2 2) := ⟨_, rfl⟩
        rw [← hWf]
        have hks : Kp (fun k => k = gs + 1) (W.alloc o6) Wf := by rw [hWf]; exact Kp.set (S := fun k => k = gs + 1) rfl _
        have hty : ∀ (k : Nat) (cur : Array Value) (t : TypeId), (W.alloc o6).heap[k]? = some (Obj.cells cur t (0, 0)) → t ≠ 46 → k ≠ gs + 1 := fun k cur t e ht q => by
          rw [q, hNa.hp] at e; injection e with e; injection e with _ e _; exact ht e.symm
        have hkb : KB21 (W.alloc o6) Wf := fun k cur e => hks.block k (Array.getElem?_eq_some_iff.1 e).1 (hty k cur _ e (by decide))
        have hrow : Wf.heap[W.heap.size]? = _ := (hks.block _ (Array.getElem?_eq_some_iff.1 hr).1 (hty _ _ _ hr (by decide))).trans hr
        have hf1 : Wf.heap[B1]? = _ := (hkb B1 _ ha1).trans ha1
        have hf2 : Wf.heap[B2]? = _ := (hkb B2 _ ha2).trans ha2
        have hbl : Below w.heap.size w Wf := hNa.bl.trans (hks.below (fun i e => by rw [e]; exact hN.bN) hNa.bl.size)
        have hwr := hN.bl.size
        have hWs := hb.size
        have har : ∀ x, x < 2 → Ac21 w.heap.size Wf S x (g x) (c x) (A x) := fun x hx => by
          obtain ⟨X, hX⟩ := (hNa.ar x hx).1
          exact (hNa.ar x hx).kb hkb (hks.block _ (Array.getElem?_eq_some_iff.1 hX).1 (hty _ _ _ hX (by decide)))
        have hgl : ∀ x, x < 2 → g x < W.heap.size := fun x hx => by
          obtain ⟨X, hX⟩ := (hNw.ar x hx).1
          exact (Array.getElem?_eq_some_iff.1 hX).1
        have hseg255 : ∀ Bk, Wf.heap[Bk]? = some (.cells ((List.replicate p (255 : Int)).map (Value.int .u8)).toArray 5 (0, 0)) → Seg Wf (some ⟨Bk, 0, none⟩) (List.replicate p 255) := fun Bk h => seg_row21 h (fun y hy => by rw [(List.mem_replicate.1 hy).2]; decide)
        obtain ⟨A2, hA2⟩ : ∃ A2 : List Pd21, A2 = [⟨B1, 0, p, List.replicate p 255, true, 0⟩, ⟨B2, 0, p, List.replicate p 255, true, 0⟩] := ⟨_, rfl⟩
        have hac2 : Ac21 w.heap.size Wf S 2 W.heap.size 2 A2 := by
          refine ⟨⟨[], ?_⟩, by rw [hA2]; rfl, by rw [hA2]; simp, by omega, fun y d e => ?_⟩
          · rw [hrow, hA2]; simp [pdl21, pdc21]
          · rw [hA2] at e
            have hrec := nw21_rec p q ac L0 L1 y
            rw [← HPP.out.2.2.1] at hrec
            rcases (show y = 0 ∨ y = 1 ∨ 2 ≤ y by omega) with rfl | rfl | h
            · simp at e; subst e
              exact ⟨hseg255 B1 hf1, ⟨Nat.le_trans hwr hB1, _, hf1⟩, hrec.1.symm, hrec.2.1.symm, hrec.2.2.symm, by simp⟩
            · simp at e; subst e
              exact ⟨hseg255 B2 hf2, ⟨Nat.le_trans hwr hB2, _, hf2⟩, hrec.1.symm, hrec.2.1.symm, hrec.2.2.symm, by simp⟩
            · rw [List.getElem?_eq_none (by simp; omega)] at e; cases e
        have hall : ∀ x, x < 3 → Ac21 w.heap.size Wf S x (if x = 2 then W.heap.size else g x) (if x = 2 then 2 else c x) (if x = 2 then A2 else A x) := fun x hx => by
          by_cases e : x = 2
          · subst e; simpa using hac2
          · simpa [e] using har x (by omega)
        refine ⟨fun k => w.heap.size ≤ k ∧ k < Wf.heap.size, ⟨fun x => if x = 2 then W.heap.size else g x, fun x => if x = 2 then 2 else c x, fun x => if x = 2 then A2 else A x, [], none, 0, none, 0, V21 w.heap.size Wf, ⟨?_, fun x hx => (hall x hx).1, fun x hx => ⟨(hall x hx).2.1, (hall x hx).2.2.1⟩, fun x y d hx hy => (hall x hx).2.2.2.2 y d hy, ⟨fun e => by rw [HPP.out.2.2.1] at e; exact absurd rfl e, SegK.nil (by decide) _ _, .inl rfl, fun _ => rfl, by simp⟩, ?_, ?_, ?_, fun x hx => ?_, fun k e => by simp [Value.ownBlock] at e, fun k e => ?_⟩, ⟨hN.bN, ?_⟩, fun x hx => ⟨(hall x hx).2.2.2.1, ?_⟩, fun k e => by simp [Value.ownBlock] at e, fun k e => ⟨e.1, ?_⟩, fun k e => e.2⟩, fun k e => e.1, hbl⟩
        · have := hNa.hp
          have hl2 : A2.length = 2 := by rw [hA2]; rfl
          rw [hWf]
          rw [HPP.out.2.2.1]
          simp at this
          simp [World.setCell, Array.getElem?_modify, this, nw21, hl2]
        · rw [HPP.out.2.2.1]; exact World.ownsRow_nil _ _ _ _
        · refine ⟨by simpa using hN.gi 0 1 (by omega) (by omega) (by omega), ?_, ?_⟩
          · have := hgl 0 (by omega); simp; omega
          · have := hgl 1 (by omega); simp; omega
        · rintro ⟨_, cur, e⟩
          have hbf : ∃ cs' : Array Value, Wf.heap[gs + 1]? = some (Obj.cells cs' 46 (0, 0)) := by
            rw [hWf]
            have := hNa.hp
            simp at this
            exact ⟨_, by simp only [World.setCell, Array.getElem?_modify, this]; rfl⟩
          obtain ⟨cs', hbf⟩ := hbf
          rw [hbf] at e
          injection e with e; injection e with _ e _; exact absurd e (by decide)
        · rintro ⟨_, cur, e⟩
          obtain ⟨X, hX⟩ := (hall x hx).1
          rw [hX] at e
          injection e with e; injection e with _ e _; exact absurd e (by decide)
        · obtain ⟨_, cur, e⟩ := e
          exact (Array.getElem?_eq_some_iff.1 e).1
        · have := hNa.lt; exact Nat.lt_of_lt_of_le this hks.size
        · obtain ⟨X, hX⟩ := (hall x hx).1
          exact (Array.getElem?_eq_some_iff.1 hX).1
        · obtain ⟨_, cur, e⟩ := e
          exact (Array.getElem?_eq_some_iff.1 e).1
      clear hN
      go_wp2_with fail
      go_region_held3 (fun _ => True) (trivial)
        (first | (go_at_call 25; refine HB1.out.mono ?_; rintro e3 w3 ⟨rfl, hh3, hb3⟩) | (go_at_call 25; refine (HBK.out w3).mono ?_; rintro e4 w4 ⟨rfl, hh4, hb4⟩; have hbw : Below wr.heap.size wr w4 := hb3.trans (hb4.mono hb3.size); have hx5 : ∀ o, (w4.alloc o).cell? ⟨gs + 1, 5, none⟩ = some (.slice none 0 0) := fun o => (HC5.out w4 o hbw).1; have hf5 : ∀ o, (w4.alloc o).frozen? ⟨gs + 1, 5, none⟩ = false := fun o => (HC5.out w4 o hbw).2))
      have hfin := HFIN.out w3 w4 wr.heap.size w3.heap.size hbw ((hb4.block _ (Array.getElem?_eq_some_iff.1 hh3).1).trans hh3) hh4 (Nat.le_refl _) hb3.size
      have HF : Hid (∃ G, Rl21d ((w4.alloc (.cells #[.slice (some ⟨wr.heap.size, 0, none⟩) p p, .bool true, .int .i64 0, .slice (some ⟨w3.heap.size, 0, none⟩) p p, .bool true, .int .i64 0] 72)).setCell ⟨gs + 1, 5, none⟩ (.slice (some ⟨w4.heap.size, 0, none⟩) 2 2)) (gs + 1) G S ∧ (∀ k, G k → w.heap.size ≤ k) ∧ Below w.heap.size w ((w4.alloc (.cells #[.slice (some ⟨wr.heap.size, 0, none⟩) p p, .bool true, .int .i64 0, .slice (some ⟨w3.heap.size, 0, none⟩) p p, .bool true, .int .i64 0] 72)).setCell ⟨gs + 1, 5, none⟩ (.slice (some ⟨w4.heap.size, 0, none⟩) 2 2))) := hfin
      clear hfin hh3 hb3 hh4 hb4 hbw hx5 hf5
      go_wp2_with fail
      go_ret2
      obtain ⟨G, f1, f2, f3⟩ := HF.out
      exact ⟨gs + 1, G, rfl, f1, f2, f3⟩
end Go.Proofs.YtjoghmdjnkdokaaDoor
