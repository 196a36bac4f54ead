import Derived.Test.YtmjlpfmacblcpaaDoorPw
import Derived.Test.YtmjlpfmacblcpaaDoorPu
import Derived.Lib.SmallJoins
import Derived.Test.YtmjlpfmacblcpaaDoorPe
import Derived.Test.YtmjlpfmacblcpaaDoorPh
import Derived.Test.YtmjlpfmacblcpaaDoorPf
import Derived.Test.YtmjlpfmacblcpaaDoorPv
import Derived.Test.YtmjlpfmacblcpaaDoorPo
import Derived.Test.YtmjlpfmacblcpaaDoorPn
import Derived.Test.YtmjlpfmacblcpaaDoorRows
import Derived.Test.YtmjlpfmacblcpaaDoorPg
import Derived.WalkKit
import Derived.ProofKit
import Derived.OpenShut
import Derived.Deep.DeepHandedRow
import Derived.Lib.LaidTab
namespace Go.Proofs.YtmjlpfmacblcpaaDoor
open Go.RowKit Go.Shelf
set_option linter.unusedVariables false
set_option linter.unusedSimpArgs false
structure Pd21' (N : Nat) (V : World) (f b : Nat) (F G : Nat → Prop) (S : Fs21) : Prop where
  p : Fl21 V f F S
  d : Rl21d V b G S
  dj : ∀ k, F k → ¬ G k
  ok : Ok21 S
  fN : ∀ k, F k → N ≤ k
  gN : ∀ k, G k → N ≤ k
theorem Fl21.lts {w : World} {b : Nat} {F : Nat → Prop} {S : Fs21} (h : Fl21 w b F S) : ∀ k, F k → k < w.heap.size := by
  obtain ⟨m, c, f, ta, tc, la, lc, W, _, _, _, _, _, h6⟩ := h
  exact h6
section
variable {N f b f' b' : Nat} {w V V' : World} {F G F' G' F1 G1 : Nat → Prop} {S S' S1 S2 : Fs21}
theorem Pd21'.old (h : Pd21' N V f b F G S) (hb : Below V.heap.size V V') : Pd21' N V' f b F G S := ⟨h.p.old hb, h.d.old hb, h.dj, h.ok, h.fN, h.gN⟩
theorem Pd21'.kp (h : Pd21' N V f b F G S) {Q : Nat → Prop} (hk : Kp Q V V') (hq : ∀ k, Q k → ¬ F k ∧ ¬ G k) : Pd21' N V' f b F G S :=
  ⟨h.p.kp (fun k e => hk.block k (h.p.lts k e) (fun q => (hq k q).1 e)) hk.size, h.d.kp (fun k e => hk.block k (h.d.lts k e) (fun q => (hq k q).2 e)) hk.size, h.dj, h.ok, h.fN, h.gN⟩
theorem Pd21'.call (h : Pd21' N V f b F G S) (hd : Dv21 V V' f b F G F1 G1 S1 S1) (ok : Ok21 S1) (hN : N ≤ V.heap.size) : Pd21' N V' f b F1 G1 S1 :=
  ⟨hd.p, hd.d, hd.dj, ok, fun k e => (hd.fF k e).elim (h.fN k) (fun q => Nat.le_trans hN q), fun k e => (hd.gG k e).elim (h.gN k) (fun q => Nat.le_trans hN q)⟩
structure Qd21 (w V : World) (f b f' b' : Nat) (F G F' G' : Nat → Prop) (S S' : Fs21) : Prop where
  a : Pd21' w.heap.size V f b F G S
  c : Pd21' w.heap.size V f' b' F' G' S'
  dis : ∀ k, (F' k ∨ G' k) → ¬ (F k ∨ G k)
  bl : Below w.heap.size w V
theorem Qd21.old (h : Qd21 w V f b f' b' F G F' G' S S') (hb : Below V.heap.size V V') : Qd21 w V' f b f' b' F G F' G' S S' := ⟨h.a.old hb, h.c.old hb, h.dis, h.bl.trans (hb.mono h.bl.size)⟩
theorem Qd21.kp (h : Qd21 w V f b f' b' F G F' G' S S') {Q : Nat → Prop} (hk : Kp Q V V') (hq : ∀ k, Q k → ¬ (F k ∨ G k) ∧ ¬ (F' k ∨ G' k) ∧ w.heap.size ≤ k) : Qd21 w V' f b f' b' F G F' G' S S' :=
  ⟨h.a.kp hk (fun k e => ⟨fun q => (hq k e).1 (.inl q), fun q => (hq k e).1 (.inr q)⟩), h.c.kp hk (fun k e => ⟨fun q => (hq k e).2.1 (.inl q), fun q => (hq k e).2.1 (.inr q)⟩), h.dis, h.bl.trans (hk.below (fun k e => (hq k e).2.2) h.bl.size)⟩
theorem Qd21.call (h : Qd21 w V f b f' b' F G F' G' S S') (hd : Dv21 V V' f b F G F1 G1 S1 S1) (ok : Ok21 S1) : Qd21 w V' f b f' b' F1 G1 F' G' S1 S' := by
  refine ⟨h.a.call hd ok h.bl.size, h.c.kp hd.kk (fun k e => ⟨fun q => h.dis k (.inl q) e, fun q => h.dis k (.inr q) e⟩), fun k e q => ?_, h.bl.trans (hd.kk.below (fun k e => e.elim (h.a.fN k) (h.a.gN k)) h.bl.size)⟩
  have hlt : k < V.heap.size := e.elim (h.c.p.lts k) (h.c.d.lts k)
  rcases q with q | q
  · rcases hd.fF k q with z | z
    · exact h.dis k e (.inl z)
    · omega
  · rcases hd.gG k q with z | z
    · exact h.dis k e (.inr z)
    · omega
/-- The power comes back to both of a pair. -/
theorem Qd21.power (h : Qd21 w V f b f' b' F G F' G' S S') (hn : Fn21 V V' f F { S with on := true }) : ∃ F1 G1, Qd21 w (V'.setCell ⟨b, 7, none⟩ (.bool false)) f b f' b' F1 G1 F' G' { S with on := true } S' ∧ (∃ x, V'.cell? ⟨b, 7, none⟩ = some x) ∧ V'.frozen? ⟨b, 7, none⟩ = false := by
  have h0 : Dv21 V V f b F G F G S S := ⟨h.a.p, h.a.d, h.a.dj, fun k e => .inl e, fun k e => .inl e, Kp.refl _ _⟩
  obtain ⟨F1, h1⟩ := h0.prog hn
  obtain ⟨G1, h2⟩ := h1.doc h1.d.power
  have ho := h.a.ok
  refine ⟨F1, G1, h.call h2 ⟨ho.pg, ho.ps, ho.ac, ho.lm, ho.lf, ho.tn, ho.sh⟩, ?_⟩
  obtain ⟨g, c, A, tn, ta, tc, la, lc, W, q, -⟩ := h1.d
  exact ⟨⟨_, q.cel (i := 7) rfl⟩, q.fr 7⟩
end
end Go.Proofs.YtmjlpfmacblcpaaDoor

namespace Go.Proofs.YtmjlpfmacblcpaaDoor
open Go.ChangeShapes Go.WideShapes Go.ChangeAt Go.RowKit Go.Deep
set_option linter.unusedVariables false
set_option maxRecDepth 100000
theorem weightsAll_mem24 {H : Type} {P : Program} {e : TypeId} {d : DataW H} {n : Nat} (hn : n ∈ d.weights P e) : ∀ {l : List (DataW H)}, d ∈ l → n ∈ DataW.weightsAll P e l
  | d0 :: r, h => by
    simp only [DataW.weightsAll, List.mem_append]
    rcases List.mem_cons.1 h with rfl | h
    · exact .inl hn
    · exact .inr (weightsAll_mem24 hn h)
theorem bytes_u24 : Tryd.prog.bytesOf 5 = 1 := by kernel_rfl
theorem one_op21w {H : Type} {enc : TypeId × Value → H} {W : World} {n : Nat} {cs : List Value} {x : DataW H × List MemPlace} (h : DataW.trod enc Tryd.prog W 0 (fun _ => true) true n 39 cs = some x) (hl : cs.length = 5)
    (hw : ∀ m ∈ x.1.weights Tryd.prog 39, m ≤ reachBytes) :
    ∃ (o : Oq21), cs = [.int .i64 o.c, .int .i64 o.a, .int .i64 o.p, .int .i64 o.n, .slice o.ba o.b.length o.bc] ∧ Of21 W o ∧ o.b.length ≤ 140737488351232 := by
  obtain ⟨xs, k, _, hx, _, hxl, hf⟩ := DataW.trod_struct Tryd.underlying39 h
  match cs, hl with
  | [v0, v1, v2, v3, v4], _ =>
    match xs, hxl with
    | [y0, y1, y2, y3, y4], _ =>
      have g0 := hf 0 _ rfl
      have g1 := hf 1 _ rfl
      have g2 := hf 2 _ rfl
      have g3 := hf 3 _ rfl
      have g4 := hf 4 _ rfl
      simp [cells_in21, cells_sl21] at g0 g1 g2 g3 g4
      obtain ⟨V0, e0, _, w0⟩ := DataW.trod_int Tryd.underlying3 g0
      obtain ⟨V1, e1, _, w1⟩ := DataW.trod_int Tryd.underlying3 g1
      obtain ⟨V2, e2, _, w2⟩ := DataW.trod_int Tryd.underlying3 g2
      obtain ⟨V3, e3, _, w3⟩ := DataW.trod_int Tryd.underlying3 g3
      simp at e0 e1 e2 e3
      subst e0 e1 e2 e3
      obtain ⟨ba, p, bc, rfl, hs, hc, hn, hd⟩ := slc21 g4
      refine ⟨⟨V0, V1, V2, V3, ba, p, bc⟩, rfl, ⟨hs, hc, hn, bounds_i64 w0, bounds_i64 w1, bounds_i64 w2, bounds_i64 w3⟩, ?_⟩
      rcases hd with ⟨_, h0⟩ | ⟨elems, spare, h1, h2⟩
      · show p.length ≤ _; omega
      · have hm : (elems.length + spare.length) * Tryd.prog.bytesOf 5 ∈ x.1.weights Tryd.prog 39 := by
          rw [hx]
          simp only [DataW.weights, Tryd.underlying39]
          refine DataW.weights_mem_each (j := 4) (t := 22) (d := y4.1) rfl rfl _ ?_
          rw [h1]
          simp [DataW.weights, Tryd.underlying22]
        have := hw _ hm
        rw [bytes_u24] at this
        simp only [reachBytes] at this
        show p.length ≤ _
        omega
theorem open_script21w {H : Type} {enc : TypeId × Value → H} {W : World} {a : Option Addr} {len cap : Nat} {d : DataW H} {pl : List MemPlace}
    (h : DataW.Trod enc Tryd.prog W 0 (fun _ => true) true 23 (.slice a len cap) d pl) (hw : (d.weights Tryd.prog 23).all (· ≤ reachBytes) = true) :
    ∃ O : Nat → Oq21, Ss21 W a len O ∧ (∀ i, i < len → (O i).b.length ≤ 140737488351232) ∧ ((d = .nil ∧ len = 0) ∨ ∃ elems spare, d = .slice elems spare ∧ elems.length = len) := by
  obtain ⟨fuel, hf⟩ := h
  rcases open_slice Tryd.underlying23 hf with ⟨hcs, hx⟩ | ⟨x, l, c, m, n, D, Pl, hcs, _, hl, hm, hmm, hx, hat⟩
  · simp [Value.cells] at hcs
    obtain ⟨rfl, rfl, rfl⟩ := hcs
    simp only [Prod.mk.injEq] at hx
    exact ⟨fun _ => ⟨0, 0, 0, 0, none, [], 0⟩, ⟨fun i hi => by omega, fun i hi => by omega⟩, fun i hi => by omega, Or.inl ⟨hx.1, rfl⟩⟩
  · simp [Value.cells] at hcs
    obtain ⟨rfl, rfl, rfl⟩ := hcs
    simp only [Prod.mk.injEq] at hx
    simp only [if_true] at hmm
    subst hmm
    rw [cells_op21] at hat
    have hwi : ∀ i, i < len → ∀ y ∈ (D i).weights Tryd.prog 39, y ≤ reachBytes := fun i hi y hy => by
      rw [hx.1] at hw
      have hm : y ∈ DataW.weightsAll Tryd.prog 39 ((List.range len).map D) := weightsAll_mem24 hy (List.mem_map.2 ⟨i, List.mem_range.2 hi, rfl⟩)
      have := List.all_eq_true.1 hw y (by simp only [DataW.weights, Tryd.underlying23, List.mem_cons, List.mem_append]; exact .inr (.inl hm))
      simpa using this
    have key : ∀ i, i < len → ∃ o : Oq21, W.cell? (x.add (i * 5)) = some (.int .i64 o.c) ∧ W.cell? (x.add (i * 5 + 1)) = some (.int .i64 o.a) ∧ W.cell? (x.add (i * 5 + 2)) = some (.int .i64 o.p) ∧ W.cell? (x.add (i * 5 + 3)) = some (.int .i64 o.n) ∧ W.cell? (x.add (i * 5 + 4)) = some (.slice o.ba o.b.length o.bc) ∧ Of21 W o ∧ o.b.length ≤ 140737488351232 := by
      intro i hi
      obtain ⟨cs', h1, h2⟩ := hat i (by omega)
      obtain ⟨_, hlen, hcell⟩ := World.cells?_some h1
      obtain ⟨o, rfl, hO, hB⟩ := one_op21w h2 hlen (hwi i (by omega))
      have e0 := hcell 0 (by omega)
      have e1 := hcell 1 (by omega)
      have e2 := hcell 2 (by omega)
      have e3 := hcell 3 (by omega)
      have e4 := hcell 4 (by omega)
      rw [add_add] at e0 e1 e2 e3 e4
      exact ⟨o, by simpa using e0, by simpa using e1, by simpa using e2, by simpa using e3, by simpa using e4, hO, hB⟩
    haveI : Inhabited Oq21 := ⟨⟨0, 0, 0, 0, none, [], 0⟩⟩
    obtain ⟨q, hq⟩ := choose_lt key
    refine ⟨q, ⟨fun i hi => ?_, fun i hi => (hq i (by omega)).2.2.2.2.2.1⟩, fun i hi => (hq i (by omega)).2.2.2.2.2.2, Or.inr ⟨_, _, hx.1, by simp⟩⟩
    obtain ⟨h0, h1, h2, h3, h4, _⟩ := hq i (by omega)
    obtain ⟨b, off, spot⟩ := x
    have hs : spot = none := by
      obtain ⟨h5, _⟩ := hq 0 (by omega)
      simpa [Addr.add] using World.cell?_spot h5
    subst hs
    have hadd : ∀ j, (⟨b, off, none⟩ : Addr).add j = ⟨b, off + j, none⟩ := by intro j; unfold Addr.add; split <;> simp_all
    rw [hadd] at h0 h1 h2 h3 h4
    exact ⟨b, off, rfl, h0, by rw [Nat.add_assoc]; exact h1, by rw [Nat.add_assoc]; exact h2, by rw [Nat.add_assoc]; exact h3, by rw [Nat.add_assoc]; exact h4⟩
end Go.Proofs.YtmjlpfmacblcpaaDoor

namespace Go.Proofs.YtmjlpfmacblcpaaDoor
open Go.RowKit Go.Shelf
set_option linter.unusedVariables false
set_option linter.unusedSimpArgs false
def ca24 (S : Fs21) (c a p n : Int) (L : List Int) : List Int × Int :=
  if c = 0 then (if rdE21 S a p n = 0 then rb21 S a p.toNat n.toNat else [], rdE21 S a p n)
  else if c = 1 then ([], erE21 S a p)
  else if c = 2 then ([], pgE21 S a p L.length)
  else if c = 3 then (if erV21 S a p then [1] else [], rf21 S.on S.ps a p)
  else if c = 4 then ([], cuE21 S n L.length)
  else if c = 5 then ([], 0)
  else if c = 6 then ([], st21 S.on)
  else if c = 7 then ([], liE21 n)
  else if c = 8 then ([weV21 S a p % 256, weV21 S a p / 256 % 256], ms21 S.ps a p)
  else ([], 0)
theorem Tw24.ca {S S' : Fs21} (h : Tw24 S S') (hO : Ok21 S) (c a p n : Int) (L : List Int) : ca24 S' c a p n L = ca24 S c a p n L := by
  unfold ca24
  rw [h.rdE, h.erE, h.pgE, h.erV, h.rf, h.cuE, h.on, h.weV, h.ps]
  by_cases hr : rdE21 S a p n = 0
  · rw [h.rb hO a p n hr]
  · rw [if_neg hr, if_neg hr]
theorem Fn21.of_below {w w' : World} {b : Nat} {F : Nat → Prop} {S : Fs21} (h : Fl21 w b F S) (hb : Below w.heap.size w w') : Fn21 w w' b F S :=
  ⟨F, h.old hb, fun k e => .inl e, Kp.of_below hb⟩
section
variable {w : World} {b : Nat} {F : Nat → Prop} {S : Fs21}
end
end Go.Proofs.YtmjlpfmacblcpaaDoor

namespace Go.Proofs.YtmjlpfmacblcpaaDoor
open Go.RowKit Go.Shelf
set_option linter.unusedVariables false
set_option linter.unusedSimpArgs false
structure Tq24 (w V : World) (f g : Nat) (F G : Nat → Prop) (S S' : Fs21) : Prop where
  bl : Below w.heap.size w V
  ff : Fl21 V f F S
  gf : Fl21 V g G S'
  dj : ∀ k, F k → ¬ G k
  fw : ∀ k, F k → w.heap.size ≤ k
  gw : ∀ k, G k → w.heap.size ≤ k
  ok : Ok21 S
  ok' : Ok21 S'
theorem fl_lts24 {w : World} {b : Nat} {F : Nat → Prop} {S : Fs21} (h : Fl21 w b F S) : ∀ k, F k → k < w.heap.size := by
  obtain ⟨m, c, f, ta, tc, la, lc, W, _, _, _, _, _, h6⟩ := h
  exact h6
section
variable {w V V' : World} {f g : Nat} {F G : Nat → Prop} {S S' S1 : Fs21}
theorem Tq24.old (h : Tq24 w V f g F G S S') (hb : Below V.heap.size V V') : Tq24 w V' f g F G S S' := ⟨h.bl.trans (hb.mono h.bl.size), h.ff.old hb, h.gf.old hb, h.dj, h.fw, h.gw, h.ok, h.ok'⟩
theorem Tq24.st (h : Tq24 w V f g F G S S') (hn : Fn21 V V' f F S1) (ok1 : Ok21 S1) : ∃ F1, Tq24 w V' f g F1 G S1 S' ∧ (∀ k, F1 k → F k ∨ V.heap.size ≤ k) ∧ Kp F V V' := by
  obtain ⟨F1, h1, h2, h3⟩ := hn
  have hl := fl_lts24 h.gf
  have hs := h.bl.size
  refine ⟨F1, ⟨h.bl.trans (h3.below h.fw hs), h1, h.gf.kp (fun k e => h3.block k (hl k e) (fun q => h.dj k q e)) h3.size, fun k e q => ?_, fun k e => ?_, h.gw, ok1, h.ok'⟩, h2, h3⟩
  · rcases h2 k e with e | e
    · exact h.dj k e q
    · have := hl k q; omega
  · rcases h2 k e with e | e
    · exact h.fw k e
    · omega
end
/-- One device, ahead of the other one. -/
structure To24 (w V : World) (f : Nat) (F : Nat → Prop) (S : Fs21) : Prop where
  bl : Below w.heap.size w V
  ff : Fl21 V f F S
  fw : ∀ k, F k → w.heap.size ≤ k
  ok : Ok21 S
theorem To24.st {w V V' : World} {f : Nat} {F : Nat → Prop} {S S1 : Fs21} (h : To24 w V f F S) (hn : Fn21 V V' f F S1) (ok1 : Ok21 S1) : ∃ F1, To24 w V' f F1 S1 := by
  obtain ⟨F1, h1, h2, h3⟩ := hn
  have hs := h.bl.size
  refine ⟨F1, h.bl.trans (h3.below h.fw hs), h1, fun k e => ?_, ok1⟩
  rcases h2 k e with e | e
  · exact h.fw k e
  · omega
theorem To24.old {w V V' : World} {f : Nat} {F : Nat → Prop} {S : Fs21} (h : To24 w V f F S) (hb : Below V.heap.size V V') : To24 w V' f F S := ⟨h.bl.trans (hb.mono h.bl.size), h.ff.old hb, h.fw, h.ok⟩
/-- What a call takes, in a later world. -/
theorem of_old24 {W V : World} {o : Oq21} (h : Of21 W o) (hb : Below W.heap.size W V) : Of21 V o := ⟨h.sg.old hb, h.cap, h.nil, h.c, h.a, h.p, h.n⟩
end Go.Proofs.YtmjlpfmacblcpaaDoor

namespace Go.Proofs.YtmjlpfmacblcpaaDoor
open Go.RowKit Go.Shelf
set_option linter.unusedVariables false
set_option linter.unusedSimpArgs false
/-- A row of bytes of one's own that is written over from its beginning on, whatever stands in it. -/
structure Ov24 (V0 V : World) (N g n c : Nat) : Prop where
  own : ∃ L : List Int, L.length = n ∧ V.ownsRow N 5 1 (.slice (some ⟨g, 0, none⟩) n c) n (L.map (Value.int .u8))
  kp : Kp (fun j => j = g) V0 V
theorem Ov24.at_ {V0 V : World} {N g n c : Nat} (h : Ov24 V0 V N g n c) {k : Nat} (hk : k < n) (x : Int) : (∃ y, V.cell? ⟨g, k, none⟩ = some (.int .u8 y)) ∧ V.frozen? ⟨g, k, none⟩ = false ∧ Ov24 V0 (V.setCell ⟨g, k, none⟩ (.int .u8 x)) N g n c := by
  obtain ⟨L, hL, OA⟩ := h.own
  refine ⟨⟨L.getD k 0, ?_⟩, OA.frozenAt k, ⟨L.set k x, by rw [List.length_set]; exact hL, ?_⟩, h.kp.trans (Kp.set (S := fun j => j = g) rfl _) (fun _ _ e => e)⟩
  · rw [OA.cellAt k (by omega), List.getElem?_map]
    simp [List.getD, show k < L.length by rw [hL]; exact hk]
  · have h := (OA.stored k (.int .u8 x)).1
    rw [← List.map_set] at h
    exact h
set_option maxRecDepth 100000 in
set_option maxHeartbeats 64000000 in
theorem flashLoads_walk (w : World) (ht : Tab w) (ba : Option Addr) (B : List Int) (bk : Nat) (hs : Seg w ba B) (hk : B.length ≤ bk) (hz : ba = none → bk = 0) (hl : B.length ≤ 140737488351232) (sa : Option Addr) (len cap : Nat) (O : Nat → Oq21) (so : Ss21 w sa len O) (sb : ∀ i, i < len → (O i).b.length ≤ 140737488351232) (hlen : len * 56 ≤ 140737488351232) :
    Calls Tryd.prog 3 #[.slice ba B.length bk, .slice sa len cap] w fun e w' => e = .returned (.bool true) ∧ Below w.heap.size w w' := by
  have HLV : Hid (∀ W : World, Calls Tryd.prog 11 #[] W fun e w' => e = .returned (.bool true) ∧ Below W.heap.size W w') := plives21
  obtain ⟨n, hn⟩ : ∃ n, n = B.length := ⟨_, rfl⟩
  have HN : Hid (B.length = n) := hn.symm
  have hbd := hs.mem
  have HB : Hid (Seg w ba B ∧ n ≤ bk ∧ (ba = none → bk = 0) ∧ n ≤ 140737488351232 ∧ (∀ z ∈ B, 0 ≤ z ∧ z ≤ 255)) := ⟨hs, by omega, hz, by omega, hbd⟩
  have HT : Hid (Tab w ∧ 1 < w.heap.size) := ⟨ht, World.block_lt_of_cell? _ _ (ht.cell 0 (by decide))⟩
  have HSO : Hid (Ss21 w sa len O ∧ (∀ i, i < len → (O i).b.length ≤ 140737488351232) ∧ len ≤ 4398046500000) := ⟨so, sb, by omega⟩
  have HLE := lend_any ba B bk w hs hz hl
  rw [← hn]
  rw [← hn] at HLE
  clear ht hs hk hz hl so sb hlen hbd hn
  go_enter Tryd.func3, Tryd.ntmps3
  go_wp2_with fail
  refine HLE.mono ?_
  rintro e v1 ⟨g, wc', rfl, hown, b1⟩
  obtain ⟨-, a1, c1, hv1, sg1, hx1, hc1, -⟩ := own_seg (M := 255) hown (by decide) (lent_bd HB.out.2.2.2.2)
  injection hv1 with y1 y2 y3
  subst y1
  subst y3
  have hg1 : w.heap.size ≤ g ∧ g < v1.heap.size := ⟨(hx1 _ rfl).2.2.1, (hx1 _ rfl).2.2.2⟩
  have sgB : Seg v1 (some ⟨g, 0, none⟩) B := by
    have h := SegK.take sg1 B.length
    rwa [show (lentL B).take B.length = B from List.take_left] at h
  have H1 : Hid (Below w.heap.size w v1 ∧ Seg v1 (some ⟨g, 0, none⟩) (lentL B) ∧ Seg v1 (some ⟨g, 0, none⟩) B ∧ n + 5 ≤ wc' ∧ w.heap.size ≤ g ∧ g < v1.heap.size ∧ v1.ownsRow w.heap.size 5 1 (.slice (some ⟨g, 0, none⟩) (n + 5) wc') (n + 5) ((lentL B).map (Value.int .u8))) := ⟨b1, sg1, sgB, hc1, hg1.1, hg1.2, hown⟩
  have HLL : Hid ((lentL B).length = n + 5) := by show _ = _; rw [← HN.out]; simp [lentL]
  have HPL := pload24 (w := v1) (some ⟨g, 0, none⟩) n wc' B sgB HN (by omega) (fun h => by cases h) HB.out.2.2.2.1 (HT.out.1.old b1)
  clear hown b1 sg1 hx1 hc1 y2 hg1 sgB HLE
  go_wp2_with fail
  refine HPL.mono ?_
  rintro e v2 ⟨b2, h2⟩
  have H2 : Hid (Below v1.heap.size v1 v2 ∧ Below w.heap.size w v2) := ⟨b2, H1.out.1.trans (b2.mono H1.out.1.size)⟩
  have HRL := rload24 v2 ba n bk B (HB.out.1.old H2.out.2) HN HB.out.2.1 HB.out.2.2.1 HB.out.2.2.2.1
  clear HPL b2
  rcases h2 with ⟨hld, rfl⟩ | ⟨hld, f, F, rfl, hF, hFN⟩
  · go_wp2_with fail
    refine HRL.mono ?_
    rintro e v3 ⟨b3, h3⟩
    rcases h3 with ⟨-, rfl⟩ | ⟨h, -⟩
    rotate_left
    · rw [hld] at h; cases h
    have H3 : Hid (Below w.heap.size w v3) := H2.out.2.trans (b3.mono H2.out.2.size)
    have HKP := kept_any ba (some ⟨g, 0, none⟩) (lentL B) B wc' bk v3 ((H1.out.2.1.old H2.out.1).old b3) (HB.out.1.old H3.out) HB.out.2.2.1 (by rw [HN.out]; exact HB.out.2.2.2.1)
    rw [HLL.out, HN.out, beq_self_eq_true] at HKP
    clear HRL b3 hld
    go_wp2_with fail
    refine HKP.mono ?_
    rintro e v4 ⟨rfl, b4⟩
    have H4 : Hid (Below w.heap.size w v4) := H3.out.trans (b4.mono H3.out.size)
    clear HKP b4
    go_wp2_with fail
    refine (HLV.out v4).mono ?_
    rintro e v5 ⟨rfl, b5⟩
    have H5 : Hid (Below w.heap.size w v5) := H4.out.trans (b5.mono H4.out.size)
    clear b5
    go_wp2_with fail
    go_ret
    exact ⟨rfl, H5.out⟩
  · have HF : Hid (Fl21 v2 f F (ls24 (hd24 B)) ∧ (∀ k, F k → v1.heap.size ≤ k)) := ⟨hF, hFN⟩
    clear hF hFN
    go_wp2_with fail
    refine HRL.mono ?_
    rintro e v3 ⟨b3, h3⟩
    rcases h3 with ⟨h, -⟩ | ⟨-, x, G, rfl, hG, hGN⟩
    · rw [hld] at h; cases h
    obtain ⟨s1, s2, s3, s4⟩ := sav_ld24 HB.out.2.2.2.2 hld
    obtain ⟨S, hS⟩ : ∃ S, S = ls24 (hd24 B) := ⟨_, rfl⟩
    rw [← hS] at s1 s2 s3 s4 hG
    have hF := HF.out.1
    rw [← hS] at hF
    have H3 : Hid (Below w.heap.size w v3 ∧ Below v1.heap.size v1 v3) := ⟨H2.out.2.trans (b3.mono H2.out.2.size), H2.out.1.trans (b3.mono H2.out.1.size)⟩
    have HPD : Hid (Pd21' v1.heap.size v3 f x F G S) := ⟨hF.old b3, hG, fun k e q => by have := hGN k q; have := Fl21.lts hF k e; omega, s2, HF.out.2, fun k e => by have := hGN k e; have := H2.out.1.size; omega⟩
    have HSS : Hid (sav21 S = B ∧ Ok21 S ∧ S.on = true ∧ S.lg = []) := ⟨s1, s2, s3, s4⟩
    have HKP := kept_any ba (some ⟨g, 0, none⟩) (lentL B) B wc' bk v3 ((H1.out.2.1.old H2.out.1).old b3) (HB.out.1.old H3.out.1) HB.out.2.2.1 (by rw [HN.out]; exact HB.out.2.2.2.1)
    rw [HLL.out, HN.out, beq_self_eq_true] at HKP
    clear HRL b3 hld s1 s2 s3 s4 hS hF hG hGN HF
    go_wp2_with fail
    refine HKP.mono ?_
    rintro e v4 ⟨rfl, b4⟩
    have H4 : Hid (Below w.heap.size w v4 ∧ Below v1.heap.size v1 v4 ∧ Pd21' v1.heap.size v4 f x F G S) := ⟨H3.out.1.trans (b4.mono H3.out.1.size), H3.out.2.trans (b4.mono H3.out.2.size), HPD.out.old b4⟩
    have HOV : Hid (Ov24 v4 v4 w.heap.size g (n + 5) wc') := ⟨⟨lentL B, HLL.out, own_below21 H1.out.2.2.2.2.2.2 H4.out.2.1⟩, Kp.refl _ _⟩
    obtain ⟨m5, hm5⟩ : ∃ m, m = n + 5 := ⟨_, rfl⟩
    rw [← hm5] at HOV ⊢
    have HM5 : Hid (m5 = n + 5) := hm5
    have hm5i : ((n : Int) + 5) = (m5 : Int) := by omega
    clear HKP b4 HPD hm5
    go_wp2_with fail
    go_loopw [11, 53] (fun t11 ti wr => ∃ k : Nat, k ≤ m5 ∧ ti = .int .i64 (k : Int) ∧ Hid (Ov24 v4 wr w.heap.size g m5 wc')) (fun _ ti _ => m5 - (intOf ti).toNat)
    case atStart => exact ⟨0, by omega, rfl, HOV.out⟩
    case round =>
      obtain ⟨k, hkn, rfl, hov⟩ := hrel
      by_cases hlt : k < m5
      · as_aux_lemma =>
        have hlti : (k : Int) < (m5 : Int) := by omega
        have hiw : IntKind.i64.wrap ((k : Int) + 1) = ((k + 1 : Nat) : Int) := by rw [IntWalk.i64_in _ (by have := HM5.out; have := HB.out.2.2.2.1; omega)]; omega
        obtain ⟨⟨y, d0⟩, f0, hn⟩ := hov.out.at_ hlt 17
        have HO9 : Hid (Ov24 v4 (wr.setCell ⟨g, k, none⟩ (.int .u8 17)) w.heap.size g m5 wc') := hn
        clear hov hn
        go_wp2_with fail
        go_roundw
        case rel => exact ⟨k + 1, by omega, rfl, HO9.out⟩
        case measure => simp [intOf]; omega
      · as_aux_lemma =>
        have hlti : ¬ (k : Int) < (m5 : Int) := by omega
        have hkp := hov.out.kp
        obtain ⟨NX, hNX⟩ : ∃ N, N = wr.heap.size := ⟨_, rfl⟩
        have HNX : Hid (wr.heap.size = NX) := hNX.symm
        have H5 : Hid (Below w.heap.size w wr ∧ Pd21' v1.heap.size wr f x F G S) := ⟨H4.out.1.trans (hkp.below (fun j e => by have := H1.out.2.2.2.2.1; have e' : j = g := e; omega) H4.out.1.size), H4.out.2.2.kp hkp (fun j e => by
          have e' : j = g := e
          have := H1.out.2.2.2.2.2.1
          exact ⟨fun q => by have := H4.out.2.2.fN j q; omega, fun q => by have := H4.out.2.2.gN j q; omega⟩)⟩
        have HSV := psave21 H5.out.2.p HSS.out.2.1 (HT.out.1.old H5.out.1)
        clear hov hkp HOV hNX
        go_wp2_with fail
        refine HSV.mono ?_
        rintro e v6 ⟨h6, b6⟩
        rcases h6 with ⟨h, -⟩ | ⟨-, sp, sc, rfl, hown⟩
        · rw [HSS.out.2.2.1] at h; cases h
        rw [HSS.out.1, HN.out] at hown
        rw [HSS.out.1, HN.out]
        obtain ⟨-, a6, c6, hv6, sg6, hx6, hc6, -⟩ := own_seg (M := 255) hown (by decide) HB.out.2.2.2.2
        injection hv6 with y1 y2 y3
        subst y1
        subst y3
        have H6 : Hid (Below w.heap.size w v6 ∧ Pd21' v1.heap.size v6 f x F G S ∧ Below wr.heap.size wr v6) := ⟨H5.out.1.trans (b6.mono H5.out.1.size), H5.out.2.old b6, b6⟩
        have h4n : 4 ≤ n := by
          have h := congrArg List.length HSS.out.1
          have h5 := hdb21_len S
          unfold sav21 svb21 at h
          simp only [List.length_append] at h
          rw [HN.out] at h
          omega
        obtain ⟨gs, os, hgs, -⟩ := sg6.at_ 0 (by rw [HN.out]; omega)
        obtain ⟨h60, -, h61, h62⟩ := hx6 _ hgs
        subst hgs
        simp only at h60 h61 h62
        subst h60
        have HGS : Hid (w.heap.size ≤ gs ∧ gs < v6.heap.size ∧ ¬ F gs ∧ ¬ G gs) := ⟨by have := H5.out.1.size; omega, h62, fun e => by have := Fl21.lts H5.out.2.p gs e; omega, fun e => by have := H5.out.2.d.lts gs e; omega⟩
        have HOV : Hid (v6.ownsRow NX 5 1 (.slice (some ⟨gs, 0, none⟩) n sc) n (B.map (Value.int .u8))) := by rw [← HNX.out]; exact hown
        have HSM := bsame_any (some ⟨gs, 0, none⟩) ba B B sc bk v6 sg6 (HB.out.1.old H6.out.1)
        rw [HN.out, beq_self_eq_true] at HSM
        have HOP := pops21 H6.out.2.1.p HSS.out.2.1
        rw [HSS.out.2.2.2] at HOP
        have HON := pon21 H6.out.2.1.p HSS.out.2.1
        rw [HSS.out.2.2.1] at HON
        clear HSV b6 hown sg6 hx6 hc6 y2 h4n h61 h62
        go_wp2_with fail
        refine HSM.mono ?_
        rintro e vv ⟨rfl, hw⟩
        subst vv
        go_wp2_with fail
        refine HOP.mono ?_
        rintro e vv ⟨rfl, hw⟩
        subst vv
        go_wp2_with fail
        refine HON.mono ?_
        rintro e vv ⟨rfl, hw⟩
        subst vv
        have HOV6 : Hid (Ov24 v6 v6 NX gs n sc) := ⟨⟨B, HN.out, HOV.out⟩, Kp.refl _ _⟩
        clear HSM HOP HON
        go_wp2_with fail
        go_loopw [14, 85] (fun t14 ti wq => ∃ k : Nat, k ≤ n ∧ ti = .int .i64 (k : Int) ∧ Hid (Ov24 v6 wq NX gs n sc)) (fun _ ti _ => n - (intOf ti).toNat)
        case atStart => exact ⟨0, by omega, rfl, HOV6.out⟩
        case round =>
          obtain ⟨k', hkn', rfl, hov⟩ := hrel
          by_cases hlt2 : k' < n
          · as_aux_lemma =>
            have hlti2 : (k' : Int) < (n : Int) := by omega
            have hiw : IntKind.i64.wrap ((k' : Int) + 1) = ((k' + 1 : Nat) : Int) := by rw [IntWalk.i64_in _ (by have := HB.out.2.2.2.1; omega)]; omega
            obtain ⟨⟨y, d0⟩, f0, hn⟩ := hov.out.at_ hlt2 18
            have HO9 : Hid (Ov24 v6 (wr.setCell ⟨gs, k', none⟩ (.int .u8 18)) NX gs n sc) := hn
            clear hov hn
            go_wp2_with fail
            go_roundw
            case rel => exact ⟨k' + 1, by omega, rfl, HO9.out⟩
            case measure => simp [intOf]; omega
          · as_aux_lemma =>
            have hlti2 : ¬ (k' : Int) < (n : Int) := by omega
            have hkp := hov.out.kp
            have H7 : Hid (Below w.heap.size w wr ∧ Pd21' v1.heap.size wr f x F G S) := ⟨H6.out.1.trans (hkp.below (fun j e => by have e' : j = gs := e; have := HGS.out.1; omega) H6.out.1.size), H6.out.2.1.kp hkp (fun j e => by
              have e' : j = gs := e
              rw [e']
              exact ⟨HGS.out.2.2.1, HGS.out.2.2.2⟩)⟩
            clear hov hkp HOV6
            go_wp2_with fail
            go_loopw [94] (fun ti wq => ∃ (j : Nat) (F1 G1 : Nat → Prop) (S1 : Fs21), j ≤ len ∧ ti = .int .i64 (j : Int) ∧ Hid (Pd21' v1.heap.size wq f x F1 G1 S1 ∧ Below w.heap.size w wq ∧ S1.lg.length ≤ j)) (fun ti _ => len - (intOf ti).toNat)
            case atStart => exact ⟨0, F, G, S, by omega, rfl, H7.out.2, H7.out.1, by rw [HSS.out.2.2.2]; exact Nat.le_refl _⟩
            case round =>
              obtain ⟨j, F1, G1, S1, hj, rfl, hP⟩ := hrel
              have htl := HT.out.2
              have hvw := H1.out.1.size
              by_cases hjl : j < len
              · as_aux_lemma =>
                have hjj : (j : Int) < (len : Int) := by omega
                have hjw : IntKind.i64.wrap ((j : Int) + 1) = ((j + 1 : Nat) : Int) := by have := HSO.out.2.2; rw [IntWalk.i64_in _ (by omega)]; omega
                obtain ⟨g3, off, hsa, e0, e1, e2, e3, e4⟩ := HSO.out.1.at_ j hjl
                have hof := HSO.out.1.of j hjl
                have hob := HSO.out.2.1 j hjl
                have bw := hP.out.2.1
                have e0 := cel21 bw e0
                have e1 := cel21 bw e1
                have e2 := cel21 bw e2
                have e3 := cel21 bw e3
                have e4 := cel21 bw e4
                obtain ⟨⟨oc, oa, op, on, oba, ol, obc⟩, hoo⟩ : ∃ o, o = O j := ⟨_, rfl⟩
                rw [← hoo] at e0 e1 e2 e3 e4 hof hob
                simp only at e0 e1 e2 e3 e4 hob
                obtain ⟨ll, hll⟩ : ∃ l, l = ol.length := ⟨_, rfl⟩
                rw [← hll] at e4 hob
                have HOL : Hid (ol.length = ll) := hll.symm
                have HOF : Hid (Of21 w ⟨oc, oa, op, on, oba, ol, obc⟩ ∧ ll ≤ 140737488351232) := ⟨hof, hob⟩
                subst hsa
                obtain ⟨v8, hv8⟩ : ∃ v, v = wr.alloc (.cells #[.int .i64 oc, .int .i64 oa, .int .i64 op, .int .i64 on, .slice oba ll obc] 39) := ⟨_, rfl⟩
                obtain ⟨g17, hg17⟩ : ∃ v, v = wr.heap.size := ⟨_, rfl⟩
                have HV8 : Hid (wr.alloc (.cells #[.int .i64 oc, .int .i64 oa, .int .i64 op, .int .i64 on, .slice oba ll obc] 39) = v8 ∧ wr.heap.size = g17) := ⟨hv8.symm, hg17.symm⟩
                have b8 : Below wr.heap.size wr v8 := by rw [hv8]; exact (Below.refl _ _).alloc (Nat.le_refl _) _
                have q17 : v8.heap[g17]? = some (.cells #[.int .i64 oc, .int .i64 oa, .int .i64 op, .int .i64 on, .slice oba ll obc] 39 (0, 0)) := by rw [hv8, hg17]; exact heap_alloc_new _ _
                have HP8 : Hid (Pd21' v1.heap.size v8 f x F1 G1 S1 ∧ Below w.heap.size w v8 ∧ S1.lg.length ≤ j) := ⟨hP.out.1.old b8, bw.trans (b8.mono bw.size), hP.out.2.2⟩
                have hdo := pdoes21 HP8.out.1.p HP8.out.1.d HP8.out.1.dj HP8.out.1.ok (HT.out.1.old HP8.out.2.1) (by have := HP8.out.2.2; have := HSO.out.2.2; omega) ⟨fun e => by have := HP8.out.1.fN _ e; omega, fun e => by have := HP8.out.1.gN _ e; omega⟩ oc oa op on oba ol ll obc (of_old24 HOF.out.1 HP8.out.2.1) HOL HOF.out.2 (fun k off e h0 => by
                  obtain ⟨k2, off2, e2, hc⟩ := HOF.out.1.sg.at_ 0 (by show 0 < ol.length; rw [HOL.out]; exact h0)
                  have e3 : oba = some ⟨k2, off2, none⟩ := e2
                  rw [e] at e3
                  injection e3 with e3
                  injection e3 with e4 _ _
                  subst e4
                  have := World.block_lt_of_cell? _ _ hc
                  exact ⟨fun q => by have := HP8.out.1.fN _ q; simp only at *; omega, fun q => by have := HP8.out.1.gN _ q; simp only at *; omega⟩)
                have hlg := (lgl21_ds S1 oc oa op on ol).1
                have HLG : Hid ((ds21 S1 oc oa op on ol).lg.length ≤ j + 1) := by show _ ≤ _; have := HP8.out.2.2; omega
                have z0 : v8.cell? ⟨g17, 0, none⟩ = some (.int .i64 oc) := by simp [World.cell?, q17]
                have z1 : v8.cell? ⟨g17, 1, none⟩ = some (.int .i64 oa) := by simp [World.cell?, q17]
                have z2 : v8.cell? ⟨g17, 2, none⟩ = some (.int .i64 op) := by simp [World.cell?, q17]
                have z3 : v8.cell? ⟨g17, 3, none⟩ = some (.int .i64 on) := by simp [World.cell?, q17]
                have z4 : v8.cell? ⟨g17, 4, none⟩ = some (.slice oba ll obc) := by simp [World.cell?, q17]
                have HZ : Hid (v8.cell? ⟨g17, 0, none⟩ = some (.int .i64 oc) ∧ v8.cell? ⟨g17, 1, none⟩ = some (.int .i64 oa) ∧ v8.cell? ⟨g17, 2, none⟩ = some (.int .i64 op) ∧ v8.cell? ⟨g17, 3, none⟩ = some (.int .i64 on) ∧ v8.cell? ⟨g17, 4, none⟩ = some (.slice oba ll obc)) := ⟨z0, z1, z2, z3, z4⟩
                clear hof hob bw hoo hll hv8 hg17 b8 q17 hP hlg htl hvw z0 z1 z2 z3 z4
                go_upto_region 24 with fail
                rw [HV8.out.1, HV8.out.2]
                clear e0 e1 e2 e3 e4
                obtain ⟨z0, z1, z2, z3, z4⟩ := HZ.out
                go_wp2_with fail
                refine hdo.mono ?_
                rintro e v9 ⟨rfl, F2, G2, hd⟩
                have HP9 : Hid (Pd21' v1.heap.size v9 f x F2 G2 (ds21 S1 oc oa op on ol) ∧ Below w.heap.size w v9) := ⟨HP8.out.1.call hd (ok21_ds HP8.out.1.ok oc oa op on HOF.out.1.n ol) (by
                  have h1 := Fl21.lts HP8.out.1.p
                  obtain ⟨m, c, f', ta, tc, la, lc, W, hfi, hF, _⟩ := HP8.out.1.p
                  have h2 := HP8.out.1.fN _ hF
                  have h3 := h1 _ hF
                  omega), HP8.out.2.1.trans (hd.kk.below (fun k e => e.elim (fun q => by have := HP8.out.1.fN k q; have := H1.out.1.size; omega) (fun q => by have := HP8.out.1.gN k q; have := H1.out.1.size; omega)) HP8.out.2.1.size)⟩
                clear hd hdo z0 z1 z2 z3 z4
                go_wp2_with fail
                go_roundw
                case rel => exact ⟨j + 1, F2, G2, _, by omega, by go_num, HP9.out.1, HP9.out.2, HLG.out⟩
                case measure => simp [intOf]; omega
              · as_aux_lemma =>
                have hjj : ¬ (j : Int) < (len : Int) := by omega
                have hdo := pdoes21 hP.out.1.p hP.out.1.d hP.out.1.dj hP.out.1.ok (HT.out.1.old hP.out.2.1) (by have := hP.out.2.2; have := HSO.out.2.2; omega) ⟨fun e => by have := hP.out.1.fN _ e; omega, fun e => by have := hP.out.1.gN _ e; omega⟩ 9 0 0 0 none [] 0 0 ⟨SegK.nil (by decide) _ _, Nat.le_refl _, fun _ => rfl, by unfold In21; decide, by unfold In21; decide, by unfold In21; decide, by unfold In21; decide⟩ rfl (by decide) (fun k off e h0 => by omega)
                have hbw := hP.out.2.1
                clear htl hvw
                go_wp2_with fail
                refine hdo.mono ?_
                rintro e v9 ⟨rfl, F2, G2, hd⟩
                have H9 : Hid (Below w.heap.size w v9) := hbw.trans (hd.kk.below (fun k e => e.elim (fun q => by have := hP.out.1.fN k q; have := H1.out.1.size; omega) (fun q => by have := hP.out.1.gN k q; have := H1.out.1.size; omega)) hbw.size)
                clear hd hdo hbw hP
                go_wp2_with fail
                refine (HLV.out v9).mono ?_
                rintro e v10 ⟨rfl, b10⟩
                have H10 : Hid (Below w.heap.size w v10) := H9.out.trans (b10.mono H9.out.size)
                clear b10
                go_wp2_with fail
                go_ret
                exact ⟨rfl, H10.out⟩
end Go.Proofs.YtmjlpfmacblcpaaDoor

namespace Go.Proofs.YtmjlpfmacblcpaaDoor
open Go.ChangeShapes Go.WideShapes Go.ChangeAt Go.RowKit
theorem gTab : Tryd.prog.globalNamed "sapper/crc.halves" = some 1 := by kernel_rfl
theorem gTabType : (Tryd.prog.globals[1]?).map (·.type) = some 227 := by kernel_rfl
theorem cellsTab : Tryd.prog.cellsOf 227 = 16 := by kernel_rfl
theorem cellsWord : Tryd.prog.cellsOf 48 = 1 := by kernel_rfl
theorem halfL_bd : ∀ z ∈ halfL, 0 ≤ z ∧ z ≤ 4294967295 := by decide

/-- What the row's list gives: the table's cells. -/
theorem tab_of {W : World} (h : laidMetH Tryd.prog [("sapper/crc.halves", Rows.laid_sapper_crc_halves)] W) : Tab W := by
  have ht : Lib.TabIs Tryd.prog W "sapper/crc.halves" .u32 halfL :=
    Lib.tabIs_of_head (rest := []) gTab gTabType Tryd.underlying227 Tryd.underlying48 cellsWord cellsTab h
  refine ⟨fun i hi => ⟨1, 0, rfl, ?_⟩, by decide, fun i => ?_⟩
  · rw [Nat.zero_add]
    exact ht.cell gTab i hi
  · by_cases hi : i < halfL.length
    · have := halfL_bd halfL[i] (List.getElem_mem hi)
      simpa [List.getD, hi] using this
    · have : halfL[i]? = none := List.getElem?_eq_none (by omega)
      simp [List.getD, this]

end Go.Proofs.YtmjlpfmacblcpaaDoor
