import Derived.Test.YthefcmhmcgjcoaaPjc
import Derived.Test.YthefcmhmcgjcoaaRgF
import Derived.Test.YthefcmhmcgjcoaaOpenCl

namespace Go.Proofs.Ythefcmhmcgjcoaa
open Go.RowKit Go.Shelf
set_option linter.unusedVariables false
set_option linter.unusedSimpArgs false

/-! PageRuns: the program's writer and the document's beside each other. -/
section
variable {W0 w w' : World} {v s g f u b : Nat} {F H : Nat → Prop} {S S' S2 : Fs21} {P P' P2 : Pw22} {PG PS : Nat}
theorem Rh22.kpH {G : Nat → Prop} {ha : Option Addr} {hc : Nat} (h : Rh22 w u b G H ha hc S P) (hk : ∀ k, H k → w'.heap[k]? = w.heap[k]?) (hs : w.heap.size ≤ w'.heap.size) : Rh22 w' u b G H ha hc S P :=
  ⟨h.fl.kp (fun k e => hk k (h.gH k e)) hs, h.wr.kp (hk u h.uH) (fun k e => hk k (h.hH k e)), h.nu, h.nh, h.gH, h.uH, h.hH, fun k e => Nat.lt_of_lt_of_le (h.lt k e) hs⟩
theorem Re22.kpH (h : Re22 w u b H S P) (hk : ∀ k, H k → w'.heap[k]? = w.heap[k]?) (hs : w.heap.size ≤ w'.heap.size) : Re22 w' u b H S P := by
  obtain ⟨G, ha, hc, q⟩ := h
  exact ⟨G, ha, hc, q.kpH hk hs⟩
theorem Re22.lt (h : Re22 w u b H S P) : ∀ k, H k → k < w.heap.size := by
  obtain ⟨G, ha, hc, q⟩ := h
  exact q.lt
theorem Fl21.ltF (h : Fl21 w b F S) : ∀ k, F k → k < w.heap.size := by
  obtain ⟨m, c, f, ta, tc, la, lc, V, q1, q2, q3, q4, q5, q6⟩ := h
  exact q6
structure Lw22 (W0 w : World) (v s g f u b : Nat) (F H : Nat → Prop) (S : Fs21) (P : Pw22) (S2 : Fs21) (P2 : Pw22) : Prop where
  pe : Pe22 w v s g f F S P
  re : Re22 w u b H S2 P2
  dj : ∀ k, H k → ¬ F k ∧ k ≠ s ∧ k ≠ g ∧ k ≠ v
  gF : ∀ k, F k → W0.heap.size ≤ k
  gH : ∀ k, H k → W0.heap.size ≤ k
  gs : W0.heap.size ≤ s ∧ W0.heap.size ≤ g ∧ W0.heap.size ≤ v
  k : Below W0.heap.size W0 w
theorem Lw22.below (h : Lw22 W0 w v s g f u b F H S P S2 P2) (hb : Below w.heap.size w w') : Lw22 W0 w' v s g f u b F H S P S2 P2 :=
  ⟨h.pe.old hb, h.re.kpH (fun k e => hb.block k (h.re.lt k e)) hb.size, h.dj, h.gF, h.gH, h.gs, h.k.trans (hb.mono h.k.size)⟩
/-- Other blocks made since may be written over. -/
theorem Lw22.other {X : Nat → Prop} (h : Lw22 W0 w v s g f u b F H S P S2 P2) (hk : Kp X w w') (h1 : ∀ k, X k → W0.heap.size ≤ k ∧ ¬ F k ∧ ¬ H k ∧ k ≠ s ∧ k ≠ g ∧ k ≠ v) : Lw22 W0 w' v s g f u b F H S P S2 P2 :=
  ⟨⟨h.pe.fl.kp (fun k e => hk.block k (h.pe.fl.ltF k e) (fun q => (h1 k q).2.1 e)) hk.size, h.pe.wr.kpk hk (fun q => (h1 _ q).2.2.2.2.2 rfl) (fun q => (h1 _ q).2.2.2.1 rfl) (fun q => (h1 _ q).2.2.2.2.1 rfl), h.pe.nv, h.pe.ns, h.pe.ng⟩, h.re.kpH (fun k e => hk.block k (h.re.lt k e) (fun q => (h1 k q).2.2.1 e)) hk.size, h.dj, h.gF, h.gH, h.gs, h.k.trans (hk.below (B := W0.heap.size) (fun i q => (h1 i q).1) h.k.size)⟩
theorem Lw22.prog2 (h : Lw22 W0 w v s g f u b F H S P S2 P2) (hn : Pn22 w w' v s g f F S' P') : ∃ F', Lw22 W0 w' v s g f u b F' H S' P' S2 P2 ∧ ∀ k, F' k → F k ∨ w.heap.size ≤ k := by
  obtain ⟨F', h1, h2, h3⟩ := hn
  have hF := h.pe.fl.ltF
  refine ⟨F', ⟨h1, h.re.kpH (fun k e => h3.block k (h.re.lt k e) (fun q => ?_)) h3.size, fun k e => ⟨fun q => ?_, (h.dj k e).2⟩, fun k e => ?_, h.gH, h.gs, h.k.trans (h3.below (B := W0.heap.size) (fun i q => ?_) h.k.size)⟩, h2⟩
  · have hd := h.dj k e
    rcases q with q | q | q
    · exact hd.1 q
    · exact hd.2.1 q
    · exact hd.2.2.1 q
  · rcases h2 k q with q | q
    · exact (h.dj k e).1 q
    · have := h.re.lt k e; omega
  · rcases h2 k e with q | q
    · exact h.gF k q
    · exact Nat.le_trans h.k.size q
  · rcases q with q | q | q
    · exact h.gF i q
    · rw [q]; exact h.gs.1
    · rw [q]; exact h.gs.2.1
theorem Lw22.prog (h : Lw22 W0 w v s g f u b F H S P S2 P2) (hn : Pn22 w w' v s g f F S' P') : ∃ F', Lw22 W0 w' v s g f u b F' H S' P' S2 P2 := by
  obtain ⟨F', q, _⟩ := h.prog2 hn
  exact ⟨F', q⟩
theorem Lw22.doc2 (h : Lw22 W0 w v s g f u b F H S P S2 P2) (hn : Ren22 w w' u b H S' P') : ∃ H', Lw22 W0 w' v s g f u b F H' S P S' P' ∧ ∀ k, H' k → H k ∨ w.heap.size ≤ k := by
  obtain ⟨H', h1, h2, h3⟩ := hn
  have hl := h.pe.wr.lt
  refine ⟨H', ⟨⟨h.pe.fl.kp (fun k e => h3.block k (h.pe.fl.ltF k e) (fun q => (h.dj k q).1 e)) h3.size, h.pe.wr.kpk h3 (fun q => (h.dj _ q).2.2.2 rfl) (fun q => (h.dj _ q).2.1 rfl) (fun q => (h.dj _ q).2.2.1 rfl), h.pe.nv, h.pe.ns, h.pe.ng⟩, h1, fun k e => ?_, h.gF, fun k e => ?_, h.gs, h.k.trans (h3.below (B := W0.heap.size) (fun i q => h.gH i q) h.k.size)⟩, h2⟩
  · rcases h2 k e with q | q
    · exact h.dj k q
    · exact ⟨fun z => by have := h.pe.fl.ltF k z; omega, by omega, by omega, by omega⟩
  · rcases h2 k e with q | q
    · exact h.gH k q
    · exact Nat.le_trans h.k.size q
theorem Lw22.doc (h : Lw22 W0 w v s g f u b F H S P S2 P2) (hn : Ren22 w w' u b H S' P') : ∃ H', Lw22 W0 w' v s g f u b F H' S P S' P' := by
  obtain ⟨H', q, _⟩ := h.doc2 hn
  exact ⟨H', q⟩
theorem Lw22.pflash (h : Lw22 W0 w v s g f u b F H S P S2 P2) (hn : Fn21 w w' f F S') (hp : S'.pg = S.pg) : ∃ F', Lw22 W0 w' v s g f u b F' H S' P S2 P2 := h.prog (h.pe.flash hn hp)
theorem Lw22.turn1 (h : Lw22 W0 w v s g f u b F H S P S2 P2) (hO : Ok21 S) : Calls Try.prog 15 #[.pointer (some ⟨f, 0, none⟩)] w fun e w' => e = .returned (.int .i64 (st21 S.on)) ∧ ∃ F', Lw22 W0 w' v s g f u b F' H (tuS21 S) P S2 P2 :=
  (ptrn21 h.pe.fl hO).mono fun e w' ⟨he, hn⟩ => ⟨he, h.pflash hn (tu_ok22 hO).2.1⟩
theorem Lw22.turn2 (h : Lw22 W0 w v s g f u b F H S P S2 P2) (hO : Ok21 S2) : Calls Try.prog 28 #[.pointer (some ⟨b, 0, none⟩)] w fun e w' => e = .returned (.int .i64 (st21 S2.on)) ∧ ∃ H', Lw22 W0 w' v s g f u b F H' S P (tuS21 S2) P2 := by
  obtain ⟨G, ha, hc, q⟩ := h.re
  refine (rtrn21 q.fl hO).mono fun e w' ⟨he, hn⟩ => ⟨he, ?_⟩
  obtain ⟨G', H', q1, q2, q3⟩ := q.flash hn
  exact h.doc ⟨H', ⟨G', ha, hc, q1⟩, q2, q3⟩
theorem Lw22.cut1 (h : Lw22 W0 w v s g f u b F H S P S2 P2) (hO : Ok21 S) (n : Int) (hn : In21 n) (a : Option Addr) (L : List Int) (l cap : Nat) (hs : Seg w a L) (hl : Hid (L.length = l)) (hnil : a = none → cap = 0) :
    Calls Try.prog 13 #[.pointer (some ⟨f, 0, none⟩), .int .i64 n, .slice a l cap] w fun e w' => e = .returned (.int .i64 (cuE21 S n l)) ∧ (∃ F', Lw22 W0 w' v s g f u b F' H (cuS21 S n L) P S2 P2) ∧ Kp F w w' :=
  (pcut21 h.pe.fl hO n a L l cap hs hl hnil).mono fun e w' ⟨he, hm⟩ => ⟨he, h.pflash hm (cu_ok22 hO n hn L).2.1, by obtain ⟨_, _, _, k⟩ := hm; exact k⟩
theorem Lw22.cut2 (h : Lw22 W0 w v s g f u b F H S P S2 P2) (hO : Ok21 S2) (n : Int) (a : Option Addr) (L : List Int) (l cap : Nat) (hs : Seg w a L) (hl : Hid (L.length = l)) (hnil : a = none → cap = 0) (hb48 : l ≤ 140737488351232) :
    Calls Try.prog 27 #[.pointer (some ⟨b, 0, none⟩), .int .i64 n, .slice a l cap] w fun e w' => e = .returned (.int .i64 (cuE21 S2 n l)) ∧ (∃ H', Lw22 W0 w' v s g f u b F H' S P (cuS21 S2 n L) P2) ∧ Kp H w w' := by
  obtain ⟨G, ha, hc, q⟩ := h.re
  refine (rpln21 q.fl hO n a L l cap hs hl hnil hb48).mono fun e w' ⟨he, hn⟩ => ⟨he, ?_⟩
  obtain ⟨G', H', q1, q2, q3⟩ := q.flash hn
  exact ⟨h.doc ⟨H', ⟨G', ha, hc, q1⟩, q2, q3⟩, q3⟩
theorem Lw22.pow1 (h : Lw22 W0 w v s g f u b F H S P S2 P2) (hO : Ok21 S) : Calls Try.prog 14 #[.pointer (some ⟨f, 0, none⟩)] w fun e w' => e = .returned (.tuple #[]) ∧ ∃ F', Lw22 W0 w' v s g f u b F' H { S with on := true } P S2 P2 :=
  (ppow21 h.pe.fl hO).mono fun e w' ⟨he, hn⟩ => ⟨he, h.pflash hn rfl⟩
theorem Lw22.pow2 (h : Lw22 W0 w v s g f u b F H S P S2 P2) : (∃ H', Lw22 W0 (w.setCell ⟨b, 7, none⟩ (.bool false)) v s g f u b F H' S P { S2 with on := true } P2) ∧ w.frozen? ⟨b, 7, none⟩ = false ∧ ∃ x, w.cell? ⟨b, 7, none⟩ = some (.bool x) := by
  obtain ⟨G, ha, hc, q⟩ := h.re
  obtain ⟨r1, r2, r3, r4⟩ := ron22 q.fl
  obtain ⟨G', H', q1, q2, q3⟩ := q.flash ⟨G, r1, fun _ e => .inl e, r2⟩
  exact ⟨h.doc ⟨H', ⟨G', ha, hc, q1⟩, q2, q3⟩, r3, r4⟩
theorem Lw22.end1 (h : Lw22 W0 w v s g f u b F H S P S2 P2) (iv : Iv22 PG PS S P) (hM : PG * PS ≤ 16777216) : Calls Try.prog 25 #[.pointer (some ⟨v, 0, none⟩)] w fun e w' => e = .returned (.int .i64 (edE22 S P)) ∧ ∃ F', Lw22 W0 w' v s g f u b F' H (edS22 S P) (edP22 S P) S2 P2 :=
  (ped22 h.pe iv.ok iv.ar (by have := iv.pn; omega) (by have := iv.lg; omega)).mono fun e w' ⟨he, hn⟩ => ⟨he, h.prog hn⟩
theorem Lw22.end2 (h : Lw22 W0 w v s g f u b F H S P S2 P2) (iv : Iv22 PG PS S2 P2) (hM : PG * PS ≤ 16777216) : Calls Try.prog 26 #[.pointer (some ⟨u, 0, none⟩)] w fun e w' => e = .returned (.int .i64 (edE22 S2 P2)) ∧ ∃ H', Lw22 W0 w' v s g f u b F H' S P (edS22 S2 P2) (edP22 S2 P2) :=
  (rend22 h.re iv.ok iv.ar (by have := iv.pn; omega) (by have := iv.lg; omega) (by have h1 := iv.bf; have h2 := iv.ok.pg; have h3 := iv.pg.1; omega)).mono fun e w' ⟨he, hn⟩ => ⟨he, h.doc hn⟩
theorem Lw22.wr1 (h : Lw22 W0 w v s g f u b F H S P S2 P2) (iv : Iv22 PG PS S P) (hM : PG * PS ≤ 16777216) (a : Option Addr) (L : List Int) (n cap : Nat) (hs : Seg w a L) (hn : Hid (L.length = n)) (hcap : n ≤ cap) (hl : n ≤ 281474976710656) (hap : ∀ x off, a = some ⟨x, off, none⟩ → 0 < n → ¬ F x ∧ x ≠ s ∧ x ≠ g) :
    Calls Try.prog 23 #[.pointer (some ⟨v, 0, none⟩), .slice a n cap] w fun e w' => e = .returned (.int .i64 (wrE22 S P L)) ∧ (∃ F', Lw22 W0 w' v s g f u b F' H (wrS22 S P L) (wrP22 S P L) S2 P2 ∧ ∀ k, F' k → F k ∨ w.heap.size ≤ k) ∧ Kp (fun k => F k ∨ k = s ∨ k = g) w w' :=
  (pwr22 h.pe iv.ok iv.ar (by have := iv.pn; omega) (by have := iv.wn; omega) (by have := iv.lg; omega) (fun hc => by have h1 := (iv.z hc).1; have h2 := iv.pg.1; omega) a L n cap hs hn hcap hl hap).mono fun e w' ⟨he, hn⟩ => ⟨he, h.prog2 hn, by obtain ⟨_, _, _, k⟩ := hn; exact k⟩
theorem Lw22.wr2 (h : Lw22 W0 w v s g f u b F H S P S2 P2) (iv : Iv22 PG PS S2 P2) (hM : PG * PS ≤ 16777216) (a : Option Addr) (L : List Int) (n cap : Nat) (hs : Seg w a L) (hn : Hid (L.length = n)) (hl : n ≤ 281474976710656) (hap : ∀ x off, a = some ⟨x, off, none⟩ → 0 < n → ¬ H x) :
    Calls Try.prog 24 #[.pointer (some ⟨u, 0, none⟩), .slice a n cap] w fun e w' => e = .returned (.int .i64 (wrE22 S2 P2 L)) ∧ (∃ H', Lw22 W0 w' v s g f u b F H' S P (wrS22 S2 P2 L) (wrP22 S2 P2 L) ∧ ∀ k, H' k → H k ∨ w.heap.size ≤ k) ∧ Kp H w w' :=
  (rwri22 h.re iv.ok iv.ar (by have := iv.pn; omega) (by have := iv.wn; omega) (by have := iv.lg; omega) (fun hc => by have h1 := (iv.z hc).1; have h2 := iv.pg.1; omega) a L n cap hs hn hl hap).mono fun e w' ⟨he, hn⟩ => ⟨he, h.doc2 hn, by obtain ⟨_, _, _, k⟩ := hn; exact k⟩
theorem Lw22.log (h : Lw22 W0 w v s g f u b F H S P S2 P2) (hO : Ok21 S) (hS : S2 = S) (hb : S.lg.length ≤ 4398046511104) : Calls Try.prog 32 #[.pointer (some ⟨f, 0, none⟩), .pointer (some ⟨b, 0, none⟩)] w fun e w' => e = .returned (.bool true) ∧ Lw22 W0 w' v s g f u b F H S P S2 P2 := by
  obtain ⟨G, ha, hc, q⟩ := h.re
  exact (pslog22 h.pe.fl hO q.fl (by rw [hS]) hb).mono fun e w' ⟨he, hn⟩ => ⟨he, h.below hn⟩
/-- What the law reads of the document's writer and flash. -/
theorem Lw22.cells (h : Lw22 W0 w v s g f u b F H S P S2 P2) : w.cell? ⟨u, 3, none⟩ = some (.int .i64 (P2.wn : Int)) ∧ w.cell? ⟨u, 4, none⟩ = some (.int .i64 (P2.pn : Int)) ∧ w.cell? ⟨b, 0, none⟩ = some (.int .i64 (S2.pg : Int)) := by
  obtain ⟨G, ha, hc, q⟩ := h.re
  obtain ⟨g', c, A, tn, ta, tc, la, lc, V, r, _⟩ := q.fl
  exact ⟨q.wr.cel rfl, q.wr.cel rfl, r.cel rfl⟩
theorem Lw22.bytes (h : Lw22 W0 w v s g f u b F H S P S P2) (hO : Ok21 S) : Calls Try.prog 33 #[.pointer (some ⟨f, 0, none⟩), .pointer (some ⟨b, 0, none⟩)] w fun e w' => e = .returned (.bool true) ∧ Below W0.heap.size W0 w' := by
  obtain ⟨G, ha, hc, q⟩ := h.re
  refine (psamb22 h.pe.fl q.fl hO (fun k e z => (h.dj k (q.gH k z)).1 e)).mono fun e w' ⟨he, hn⟩ => ⟨he, h.k.trans (hn.below (B := W0.heap.size) (fun i z => ?_) h.k.size)⟩
  rcases z with z | z
  · exact h.gF i z
  · exact h.gH i (q.gH i z)
end
end Go.Proofs.Ythefcmhmcgjcoaa
