
import Derived.Test.YtjoghmdjnkdokaaDoorFwD
namespace Go.Proofs.YtjoghmdjnkdokaaDoor
open Go.RowKit Go.Shelf
set_option linter.unusedVariables false
set_option linter.unusedSimpArgs false

/-! FlashPlays: two pairs of devices. -/
structure Pd21' (N : Nat) (V : World) (f b : Nat) (F G : Nat → Prop) (S : Fs21) : Prop where
  p : Fl21 V f F S
  d : Rl21d V b G S
  dj : ∀ k, F k → ¬ G k
  ok : Ok21 S
  fN : ∀ k, F k → N ≤ k
  gN : ∀ k, G k → N ≤ k
theorem Fl21.lts {w : World} {b : Nat} {F : Nat → Prop} {S : Fs21} (h : Fl21 w b F S) : ∀ k, F k → k < w.heap.size := by
  obtain ⟨m, c, f, ta, tc, la, lc, W, _, _, _, _, _, h6⟩ := h
  exact h6
section
variable {N f b f' b' : Nat} {w V V' : World} {F G F' G' F1 G1 : Nat → Prop} {S S' S1 S2 : Fs21}
theorem Pd21'.old (h : Pd21' N V f b F G S) (hb : Below V.heap.size V V') : Pd21' N V' f b F G S := ⟨h.p.old hb, h.d.old hb, h.dj, h.ok, h.fN, h.gN⟩
theorem Pd21'.kp (h : Pd21' N V f b F G S) {Q : Nat → Prop} (hk : Kp Q V V') (hq : ∀ k, Q k → ¬ F k ∧ ¬ G k) : Pd21' N V' f b F G S :=
  ⟨h.p.kp (fun k e => hk.block k (h.p.lts k e) (fun q => (hq k q).1 e)) hk.size, h.d.kp (fun k e => hk.block k (h.d.lts k e) (fun q => (hq k q).2 e)) hk.size, h.dj, h.ok, h.fN, h.gN⟩
theorem Pd21'.call (h : Pd21' N V f b F G S) (hd : Dv21 V V' f b F G F1 G1 S1 S1) (ok : Ok21 S1) (hN : N ≤ V.heap.size) : Pd21' N V' f b F1 G1 S1 :=
  ⟨hd.p, hd.d, hd.dj, ok, fun k e => (hd.fF k e).elim (h.fN k) (fun q => Nat.le_trans hN q), fun k e => (hd.gG k e).elim (h.gN k) (fun q => Nat.le_trans hN q)⟩
structure Qd21 (w V : World) (f b f' b' : Nat) (F G F' G' : Nat → Prop) (S S' : Fs21) : Prop where
  a : Pd21' w.heap.size V f b F G S
  c : Pd21' w.heap.size V f' b' F' G' S'
  dis : ∀ k, (F' k ∨ G' k) → ¬ (F k ∨ G k)
  bl : Below w.heap.size w V
theorem Qd21.swap (h : Qd21 w V f b f' b' F G F' G' S S') : Qd21 w V f' b' f b F' G' F G S' S := ⟨h.c, h.a, fun k e q => h.dis k q e, h.bl⟩
theorem Qd21.old (h : Qd21 w V f b f' b' F G F' G' S S') (hb : Below V.heap.size V V') : Qd21 w V' f b f' b' F G F' G' S S' := ⟨h.a.old hb, h.c.old hb, h.dis, h.bl.trans (hb.mono h.bl.size)⟩
theorem Qd21.kp (h : Qd21 w V f b f' b' F G F' G' S S') {Q : Nat → Prop} (hk : Kp Q V V') (hq : ∀ k, Q k → ¬ (F k ∨ G k) ∧ ¬ (F' k ∨ G' k) ∧ w.heap.size ≤ k) : Qd21 w V' f b f' b' F G F' G' S S' :=
  ⟨h.a.kp hk (fun k e => ⟨fun q => (hq k e).1 (.inl q), fun q => (hq k e).1 (.inr q)⟩), h.c.kp hk (fun k e => ⟨fun q => (hq k e).2.1 (.inl q), fun q => (hq k e).2.1 (.inr q)⟩), h.dis, h.bl.trans (hk.below (fun k e => (hq k e).2.2) h.bl.size)⟩
theorem Qd21.call (h : Qd21 w V f b f' b' F G F' G' S S') (hd : Dv21 V V' f b F G F1 G1 S1 S1) (ok : Ok21 S1) : Qd21 w V' f b f' b' F1 G1 F' G' S1 S' := by
  refine ⟨h.a.call hd ok h.bl.size, h.c.kp hd.kk (fun k e => ⟨fun q => h.dis k (.inl q) e, fun q => h.dis k (.inr q) e⟩), fun k e q => ?_, h.bl.trans (hd.kk.below (fun k e => e.elim (h.a.fN k) (h.a.gN k)) h.bl.size)⟩
  have hlt : k < V.heap.size := e.elim (h.c.p.lts k) (h.c.d.lts k)
  rcases q with q | q
  · rcases hd.fF k q with z | z
    · exact h.dis k e (.inl z)
    · omega
  · rcases hd.gG k q with z | z
    · exact h.dis k e (.inr z)
    · omega
theorem Qd21.does (h : Qd21 w V f b f' b' F G F' G' S S') (ht : Tab w) (hlg : S.lg.length ≤ 4398046510000) (c a p n : Int) (ba : Option Addr) (L : List Int) (l bc : Nat) (hof : Of21 w ⟨c, a, p, n, ba, L, bc⟩) (hl : Hid (L.length = l)) (hln : l ≤ 140737488351232) :
    Calls Tryd.prog 11 #[.pointer (some ⟨f, 0, none⟩), .pointer (some ⟨b, 0, none⟩), .agg #[.int .i64 c, .int .i64 a, .int .i64 p, .int .i64 n, .slice ba l bc]] V fun e V' => e = .returned (.bool true) ∧ ∃ F1 G1, Qd21 w V' f b f' b' F1 G1 F' G' (ds21 S c a p n L) S' ∧ Kp (fun k => F k ∨ G k) V V' := by
  obtain ⟨hsg, hcap, hnil, hci, hai, hpi, hni⟩ := hof
  simp only at hsg hcap hnil hci hai hpi hni
  have htl : 1 < w.heap.size := by
    have := ht.cell 0 (by decide)
    exact World.block_lt_of_cell? _ _ this
  refine (pdoes21 h.a.p h.a.d h.a.dj h.a.ok (ht.old h.bl) hlg ⟨fun e => by have := h.a.fN _ e; omega, fun e => by have := h.a.gN _ e; omega⟩ c a p n ba L l bc ⟨hsg.old h.bl, hcap, hnil, hci, hai, hpi, hni⟩ hl hln (fun k off e h0 => ?_)).mono ?_
  · obtain ⟨k', off', e', hc⟩ := hsg.at_ 0 (by rw [hl.out]; exact h0)
    rw [e] at e'
    injection e' with e'
    injection e' with e1 _ _
    subst e1
    have := World.block_lt_of_cell? _ _ hc
    exact ⟨fun q => by have := h.a.fN _ q; simp only at *; omega, fun q => by have := h.a.gN _ q; simp only at *; omega⟩
  · rintro e V' ⟨rfl, F1, G1, hd⟩
    exact ⟨rfl, F1, G1, h.call hd (ok21_ds h.a.ok c a p n hni L), hd.kk⟩
/-- The power comes back to both of a pair. -/
theorem Qd21.power (h : Qd21 w V f b f' b' F G F' G' S S') (hn : Fn21 V V' f F { S with on := true }) : ∃ F1 G1, Qd21 w (V'.setCell ⟨b, 7, none⟩ (.bool false)) f b f' b' F1 G1 F' G' { S with on := true } S' ∧ (∃ x, V'.cell? ⟨b, 7, none⟩ = some x) ∧ V'.frozen? ⟨b, 7, none⟩ = false := by
  have h0 : Dv21 V V f b F G F G S S := ⟨h.a.p, h.a.d, h.a.dj, fun k e => .inl e, fun k e => .inl e, Kp.refl _ _⟩
  obtain ⟨F1, h1⟩ := h0.prog hn
  obtain ⟨G1, h2⟩ := h1.doc h1.d.power
  have ho := h.a.ok
  refine ⟨F1, G1, h.call h2 ⟨ho.pg, ho.ps, ho.ac, ho.lm, ho.lf, ho.tn, ho.sh⟩, ?_⟩
  obtain ⟨g, c, A, tn, ta, tc, la, lc, W, q, -⟩ := h1.d
  exact ⟨⟨_, q.cel (i := 7) rfl⟩, q.fr 7⟩
end
set_option maxRecDepth 100000 in
/-- Bytes copied. -/
theorem pcp24 (a : Option Addr) (n cap : Nat) (D : List Int) (w : World) (hs : Seg w a D) (hn : Hid (D.length = n)) (hl : n ≤ 140737488351232) (hnil : a = none → cap = 0) :
    Calls Tryd.prog 6 #[.slice a n cap] w fun e w' => ∃ p c, e = .returned (.slice p n c) ∧ w'.ownsRow w.heap.size 5 1 (.slice p n c) n (D.map (Value.int .u8)) ∧ Below w.heap.size w w' := by
  obtain ⟨i0, hi, hz0, hz1, hz2⟩ := info_parts info_y21
  obtain ⟨wA, hwA⟩ : ∃ wA, wA = w.alloc (.cells #[] 5) := ⟨_, rfl⟩
  have bA : Below w.heap.size w wA := by rw [hwA]; exact (Below.refl _ _).alloc (Nat.le_refl _) _
  have own : wA.ownsRow w.heap.size 5 1 (.slice (some ⟨w.heap.size, 0, none⟩) 0 0) 0 [] := ⟨rfl, .inr ⟨w.heap.size, 0, #[], rfl, Nat.le_refl _, by rw [hwA]; exact heap_alloc_new _ _, Nat.le_refl _, by unfold maxLen; omega, rfl, rfl⟩⟩
  have sA := hs.old bA
  have HB : Hid (Below w.heap.size w wA) := bA
  have HBZ : Hid (w.heap.size ≤ wA.heap.size) := bA.size
  have hlen : D.length ≤ 140737488351232 := by rw [hn.out]; exact hl
  rw [hwA] at own sA HB HBZ
  have hn' := hn.out
  subst hn'
  clear hwA bA
  go_enter Tryd.func6, Tryd.ntmps6
  go_wp2_with (first | (at_builtin; refine wpList_append_seg rfl (.tmp 3) (.tmp 4) 22 rfl w.heap.size 5 i0 (.int .u8 0) 1 Tryd.underlying22 hi hz0 hz1 hz2 rfl own sA hnil rfl rfl (by omega) (by omega) HBZ.out ?_; intro v2 w2 own2 x2 hb2))
  go_ret
  rw [Nat.zero_add, List.nil_append] at own2
  obtain ⟨p, c, hpc⟩ := own_sl21 own2
  exact ⟨p, c, by rw [← hpc]; rfl, by rw [← hpc]; exact own2, HB.out.trans hb2⟩
end Go.Proofs.YtjoghmdjnkdokaaDoor
