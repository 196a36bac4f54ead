import Derived.Test.YtfogknlinmchjaaPav
namespace Go.Proofs.Ytfogknlinmchjaa
open Go.RowKit
set_option linter.unusedVariables false

/-! The landed (*leasts).least. -/
theorem own_cap14 {w : World} {base n cap : Nat} {e : TypeId} {b : Option Addr} {xs : List Value} (h : w.ownsRow base e 1 (.slice b n cap) n xs) : n ≤ cap := by
  rcases h.2 with ⟨e1, e2⟩ | ⟨g, cp, cur, e1, h2, h3, h4, _⟩
  · omega
  · cases e1; exact h4
theorem eqln14 (w : World) : (binOp .eql 67 (.slice none 0 0) (.slice none 0 0)).run Try.prog w = .ok (.bool true) w := by kernel_rfl
theorem eqls14 (w : World) (a : Addr) (l c : Nat) : (binOp .eql 67 (.slice (some a) l c) (.slice none 0 0)).run Try.prog w = .ok (.bool false) w := by kernel_rfl
def Ls14 (w : World) (g b n : Nat) (A : List Nat) (B H : Nat) : Prop := ∃ (wk : Nat) (rv : Value), w.heap[g]? = some (.cells #[.pointer (some ⟨b, 0, none⟩), .int .i64 (wk : Int), rv] 69 (0, 0)) ∧ ((rv = .slice none 0 0 ∧ wk ≤ n) ∨ ∃ go l oc Rs, rv = .slice (some ⟨go, 0, none⟩) l oc ∧ Rws14 w go l A Rs ∧ Rb14 w go l B H)
theorem Rws14.kp {w w' : World} {S : Nat → Prop} {go l B H : Nat} {A : List Nat} {Rs : List (List Nat)} (h : Rws14 w go l A Rs) (hr : Rb14 w go l B H) (k : Kp S w w') (hS : ∀ x, B ≤ x → x < H → ¬ S x) : Rws14 w' go l A Rs ∧ Rb14 w' go l B H := by
  have hc : ∀ t v, w.cell? ⟨go, t, none⟩ = some v → w'.cell? ⟨go, t, none⟩ = some v := fun t v hv => by
    rw [World.cell?_of_block (a := ⟨go, t, none⟩) (k.block go (World.block_lt_of_cell? w _ hv) (hS go hr.1.1 hr.1.2))]
    exact hv
  refine ⟨⟨h.len, h.pos, h.small, fun t ht => ?_, h.zero, h.last, h.nxt⟩, hr.1, fun t ht ra len rc e x off ha h0 => ?_⟩
  · obtain ⟨ra, rc, h1, h3, h4⟩ := h.at_ t ht
    refine ⟨ra, rc, hc t _ h1, h3.kp k fun x off ha h0 => ?_, h4⟩
    have := hr.2 t ht ra _ rc h1 x off ha (by rw [nz12_len13] at h0; exact h0)
    exact hS x this.1 this.2
  · obtain ⟨ra', rc', h1, h3, h4⟩ := h.at_ t ht
    have h5 := hc t _ h1
    rw [e] at h5
    have h6 := Option.some.inj h5
    injection h6 with e1 e2 e3
    exact hr.2 t ht ra' _ rc' h1 x off (by rw [← e1]; exact ha) (by omega)
theorem Ls14.kp {w w' : World} {S : Nat → Prop} {g b n B H : Nat} {A : List Nat} (h : Ls14 w g b n A B H) (k : Kp S w w') (hg : ¬ S g) (hS : ∀ x, B ≤ x → x < H → ¬ S x) : Ls14 w' g b n A B H := by
  obtain ⟨wk, rv, h1, h2⟩ := h
  refine ⟨wk, rv, k.heap h1 hg, ?_⟩
  rcases h2 with c | ⟨go, l, oc, Rs, c1, c2, c3⟩
  · exact Or.inl c
  · obtain ⟨d1, d2⟩ := c2.kp c3 k hS
    exact Or.inr ⟨go, l, oc, Rs, c1, d1, d2⟩
theorem Ls14.old {w w' : World} {g b n B H : Nat} {A : List Nat} (h : Ls14 w g b n A B H) (hb : Below w.heap.size w w') : Ls14 w' g b n A B H := h.kp (S := fun _ => False) (Kp.of_below hb) (fun e => e) (fun _ _ _ e => e)
theorem Rb14.set {w : World} {go l g B H : Nat} (h : Rb14 w go l B H) (hg : go ≠ g) (v : Value) : Rb14 (w.setCell ⟨g, 2, none⟩ v) go l B H := by
  refine ⟨h.1, fun t ht ra len rc e x off ha h0 => ?_⟩
  rw [World.cell?_setCell_other _ _ _ _ (by intro e; simp only [Addr.mk.injEq] at e; omega)] at e
  exact h.2 t ht ra len rc e x off ha h0
theorem Rws14.set {w : World} {go l g : Nat} {A : List Nat} {Rs : List (List Nat)} (h : Rws14 w go l A Rs) (h2 : w.cell? ⟨g, 2, none⟩ = some (.slice none 0 0)) (hg : go ≠ g) (v : Value) : Rws14 (w.setCell ⟨g, 2, none⟩ v) go l A Rs :=
  ⟨h.len, h.pos, h.small, fun t ht => by
    obtain ⟨ra, rc, h1, h3, h4⟩ := h.at_ t ht
    refine ⟨ra, rc, (World.cell?_setCell_other _ _ _ _ (by intro e; simp only [Addr.mk.injEq] at e; omega)).trans h1, h3.of_cells fun b off i u hi ha hc => ?_, h4⟩
    obtain ⟨b', o', q1, q2⟩ := h3.at_ i hi
    rw [ha] at q1
    cases q1
    rw [World.cell?_setCell_other _ _ _ _ (by intro e; rw [← e, h2] at q2; simp at q2)]
    exact hc, h.zero, h.last, h.nxt⟩
/-- The walk over the rows: what is left, and the least of the rest, at row t. -/
structure Wl14 (n lo hi l : Nat) (A : List Nat) (Rs : List (List Nat)) (t a c v : Nat) : Prop where
  tl : t ≤ l
  lf : Lf14 A lo hi (16 ^ t) a c v
  cl : c ≤ (Rs.getD t []).length
theorem Wl14.start {w : World} {go n lo hi l : Nat} {A : List Nat} {Rs : List (List Nat)} (hR : Rws14 w go l A Rs) (hA : A.length = n) (hl : lo < hi) (hn : hi ≤ n) : Wl14 n lo hi l A Rs 0 lo hi (A.getD lo 0) :=
  ⟨Nat.zero_le _, by simpa using Lf14.start A hl, by rw [hR.zero, hA]; exact hn⟩
theorem Wl14.lo1 {w : World} {go n lo hi l t a c v : Nat} {A : List Nat} {Rs : List (List Nat)} (hR : Rws14 w go l A Rs) (h : Wl14 n lo hi l A Rs t a c v) (ht : t < l) (hac : a < c) : Wl14 n lo hi l A Rs t (a + 1) c (min v ((Rs.getD t []).getD a 0)) := by
  obtain ⟨ra, rc, _, _, h3⟩ := hR.at_ t ht
  exact ⟨h.tl, h.lf.lo1 h3 hac h.cl, h.cl⟩
theorem Wl14.hi1 {w : World} {go n lo hi l t a c v : Nat} {A : List Nat} {Rs : List (List Nat)} (hR : Rws14 w go l A Rs) (h : Wl14 n lo hi l A Rs t a c v) (ht : t < l) (hac : a < c) : Wl14 n lo hi l A Rs t a (c - 1) (min v ((Rs.getD t []).getD (c - 1) 0)) := by
  obtain ⟨ra, rc, _, _, h3⟩ := hR.at_ t ht
  have := h.cl
  exact ⟨h.tl, h.lf.hi1 h3 hac h.cl, by omega⟩
theorem Wl14.up {w : World} {go n lo hi l t a c v : Nat} {A : List Nat} {Rs : List (List Nat)} (hR : Rws14 w go l A Rs) (h : Wl14 n lo hi l A Rs t a c v) (ht : t < l) (hc : a = c ∨ (a % 16 = 0 ∧ c % 16 = 0)) : Wl14 n lo hi l A Rs (t + 1) (a / 16) (c / 16) v := by
  refine ⟨ht, by rw [Nat.pow_succ]; exact h.lf.up hc, ?_⟩
  have h1 := h.cl
  by_cases k : t + 1 < l
  · rw [hR.nxt t k]; omega
  · have h2 := hR.last
    rw [show l - 1 = t by omega] at h2
    have h3 : c / 16 = 0 := by omega
    rw [h3]; exact Nat.zero_le _
theorem Wl14.fin {w : World} {go n lo hi l a c v : Nat} {A : List Nat} {Rs : List (List Nat)} (hR : Rws14 w go l A Rs) (h : Wl14 n lo hi l A Rs l a c v) : Le14 A lo hi v := by
  have h1 := h.cl
  rw [show Rs.getD l [] = [] by simp [List.getD, hR.len]] at h1
  have h2 := h.lf.le
  have h3 := h.lf
  simp at h1
  rw [show a = 0 by omega, h1] at h3
  exact h3.fin
theorem Rws14.bd {w : World} {go n l t i : Nat} {A : List Nat} {Rs : List (List Nat)} (hR : Rws14 w go l A Rs) (hA : A.length = n) (hlt : ∀ r, r < n → A.getD r 0 < n) (ht : t < l) (hi : i < (Rs.getD t []).length) : (Rs.getD t []).getD i 0 < n := by
  obtain ⟨ra, rc, _, _, h3⟩ := hR.at_ t ht
  obtain ⟨r, r1, r2, r3⟩ := (h3.is i hi).is
  have h4 := h3.len
  have h5 : 16 ^ t * (i + 1) ≤ 16 ^ t * (Rs.getD t []).length := Nat.mul_le_mul_left _ hi
  rw [Nat.mul_comm _ (Rs.getD t []).length] at h5
  rw [← r3]
  exact hlt r (by omega)
def LsR14 (w : World) (g b n : Nat) (A : List Nat) (B H : Nat) (w' : World) : Prop := ∃ B' H', Ls14 w' g b n A B' H' ∧ H' ≤ max H w'.heap.size ∧ ((B' = B ∧ H' = H) ∨ w.heap.size ≤ B')
def LsQ14 (w : World) (g b n : Nat) (A : List Nat) (B H lo hi : Nat) (e : Ending) (w' : World) : Prop := ∃ v : Nat, Le14 A lo hi v ∧ e = .returned (.int .i64 (v : Int)) ∧ LsR14 w g b n A B H w' ∧ Kp (fun x => x = g) w w'
set_option maxRecDepth 100000 in
set_option maxHeartbeats 16000000 in
theorem pmleast14 (b g n : Nat) (z : List Int) (A : List Nat) (B H lo hi : Nat) (w0 w : World) (h0 : IX14 w0 b n z A) (B0 : Below w0.heap.size w0 w) (hg : w0.heap.size ≤ g) (hL : Ls14 w g b n A B H) (hlh : lo < hi) (hhn : hi ≤ n) :
    Calls Try.prog 33 #[.pointer (some ⟨g, 0, none⟩), .int .i64 (lo : Int), .int .i64 (hi : Int)] w (LsQ14 w g b n A B H lo hi) := by
  have hn24 := h0.n24
  have hAn : A.length = n := h0.ar.len
  have HLT : Hid (∀ r, r < n → A.getD r 0 < n) := fun r hr => h0.ar.get hr
  have HAN : Hid (A.length = n) := hAn
  have hln : lo < n := by omega
  have hlni : (lo : Int) < (n : Int) := by omega
  obtain ⟨wk, rv, G, hrv⟩ := hL
  have hqn := eqln14 w
  have cg0 := three_cell0 G
  have cg1 := three_cell1 G
  have cg2 := three_cell2 G
  have fg1 := three_free14 1 G
  have fg2 := three_free14 2 G
  rcases hrv with ⟨rfl, hwk⟩ | ⟨go, l, oc, Rs, rfl, RW, RB⟩
  · obtain ⟨wk2, hwk2⟩ : ∃ wk2, wk2 = wk + (hi - lo) := ⟨_, rfl⟩
    have e1 : (wk : Int) + ((hi : Int) - (lo : Int)) = (wk2 : Int) := by omega
    obtain ⟨D, hD⟩ : ∃ D, D = hi - lo := ⟨_, rfl⟩
    have e2 : (hi : Int) - (lo : Int) = (D : Int) := by omega
    have e3 : (wk : Int) + (D : Int) = (wk2 : Int) := by omega
    have hw2b : wk2 ≤ 33554432 := by omega
    have hDb : D ≤ 16777216 := by omega
    clear hwk2 hD
    obtain ⟨w1, hw1⟩ : ∃ w1, w1 = w.setCell ⟨g, 1, none⟩ (.int .i64 (wk2 : Int)) := ⟨_, rfl⟩
    have HW1 : Hid (w1 = w.setCell ⟨g, 1, none⟩ (.int .i64 (wk2 : Int))) := hw1
    have G1 : w1.heap[g]? = some (.cells #[.pointer (some ⟨b, 0, none⟩), .int .i64 (wk2 : Int), .slice none 0 0] 69 (0, 0)) := by rw [hw1]; exact three_set1 G _
    have K1 : Kp (fun x => x = g) w w1 := by rw [hw1]; exact Kp.set (S := fun x => x = g) rfl _
    have B1 : Below w0.heap.size w0 w1 := by rw [hw1]; exact below_set14 B0 hg
    have d0 := three_cell0 G1
    have d1 := three_cell1 G1
    have HD0 : Hid (∀ k, (w1.drewN k).cell? ⟨g, 0, none⟩ = some (.pointer (some ⟨b, 0, none⟩))) := fun k => d0
    have HS : Hid (∀ d, Calls Try.prog 27 #[.pointer (some ⟨b, 0, none⟩)] (w1.drewN d) fun e w' => e = .returned (.int .i64 (n : Int)) ∧ ∃ m, w' = (w1.drewN d).drewN m) := fun d => ((h0.old (B1.trans ((below_drewN14 w1 d).mono B1.size))).len_).mono fun e w' ⟨he, hw⟩ => ⟨he, 0, by rw [hw]; rfl⟩
    by_cases h1 : wk2 ≤ n
    · have h1i : (wk2 : Int) ≤ (n : Int) := by omega
      have HFN : Hid (∀ k, Calls Try.prog 32 #[.pointer (some ⟨b, 0, none⟩), .int .i64 (lo : Int), .int .i64 (hi : Int)] (w1.drewN k) (LsQ14 w g b n A B H lo hi)) := fun k => (pleast14 b n z A lo hi (w1.drewN k) (h0.old (B1.trans ((below_drewN14 w1 k).mono B1.size))) hlh hhn).mono fun e w' ⟨v, hv, he, hB⟩ => ⟨v, hv, he, by
        have hB1 : Below w1.heap.size w1 w' := (below_drewN14 w1 k).trans (hB.mono (below_drewN14 w1 k).size)
        exact ⟨⟨B, H, ⟨wk2, _, (hB1.block g (Array.getElem?_eq_some_iff.1 G1).1).trans G1, Or.inl ⟨rfl, h1⟩⟩, by omega, Or.inl ⟨rfl, rfl⟩⟩, K1.trans (S' := fun _ => False) (Kp.of_below hB1) (fun _ _ e => e.elim)⟩⟩
      clear h0 G G1 hw1
      go_enter Try.func33, Try.ntmps33
      go_wp2_with fail
      rw [← HW1.out]
      go_quiet ((go_at_call 27; exact Calls.quiet_of (HS.out _)))
      have d2 := HD0.out
      go_wp2_with (first
        | (go_at_call 32; refine (HFN.out _).mono ?_; rintro e5 w5 ⟨v, hv, rfl, hL5, K5⟩))
      go_ret
      exact ⟨v, hv, rfl, hL5, K5⟩
    · have h1i : ¬ (wk2 : Int) ≤ (n : Int) := by omega
      have h1j : (n : Int) < (wk2 : Int) := by omega
      have HAR : Hid (∀ k, Calls Try.prog 16 #[.pointer (some ⟨b, 0, none⟩)] (w1.drewN k) fun e w' => ∃ ra rc, e = .returned (.slice ra n rc) ∧ SegZ w' ra (nz12 A) ∧ n ≤ rc ∧ (∀ x off, ra = some ⟨x, off, none⟩ → x < w'.heap.size) ∧ (∀ x off, ra = some ⟨x, off, none⟩ → w1.heap.size ≤ x) ∧ Below w1.heap.size w1 w') := fun k => by
        have hk := h0.old (B1.trans ((below_drewN14 w1 k).mono B1.size))
        obtain ⟨da, dc, aa, ac, gb, gr, hx⟩ := hk
        exact (parr13 b da dc aa ac gb gr n z A _ hx).mono fun e w' ⟨ra, rc, he, _, hown, hB⟩ => ⟨ra, rc, he, own_segZ hown (nz12_bd13 hx.ar.lt hn24), own_cap14 hown, fun x off e => (hown.lt x (by rw [e]; rfl)).2, fun x off e => (hown.lt x (by rw [e]; rfl)).1, (below_drewN14 w1 k).trans (hB.mono (below_drewN14 w1 k).size)⟩
      have HG1 : Hid (∀ W, Below w1.heap.size w1 W → W.heap[g]? = some (.cells #[.pointer (some ⟨b, 0, none⟩), .int .i64 (wk2 : Int), .slice none 0 0] 69 (0, 0))) := fun W hb => (hb.block g (Array.getElem?_eq_some_iff.1 G1).1).trans G1
      have hgl : g < w1.heap.size := (Array.getElem?_eq_some_iff.1 G1).1
      clear h0 G G1 hw1
      go_enter Try.func33, Try.ntmps33
      go_wp2_with fail
      rw [← HW1.out]
      go_quiet ((go_at_call 27; exact Calls.quiet_of (HS.out _)))
      have d2 := HD0.out
      go_wp2_with (first
        | (go_at_call 16; refine (HAR.out _).mono ?_; rintro e5 w5 ⟨ra, rc, rfl, s5, hrc, hra, hrb, B5⟩)
        | (go_at_call 46; fail))
      refine (prows14 ra A n rc w5 s5 HAN hrc hn24 hra w1.heap.size hrb B5.size).mono ?_
      rintro e6 w6 ⟨go, l, oc, Rs, rfl, RW6, RB6, hgo, B6⟩
      have B16 := B5.trans (B6.mono B5.size)
      have G6 := HG1.out w6 B16
      have c62 := three_cell2 G6
      have f62 := three_free14 2 G6
      have hb15 := B5.size
      have hb56 := B6.size
      obtain ⟨W, hW⟩ : ∃ W, W = w6.setCell ⟨g, 2, none⟩ (.slice (some ⟨go, 0, none⟩) l oc) := ⟨_, rfl⟩
      have HW : Hid (W = w6.setCell ⟨g, 2, none⟩ (.slice (some ⟨go, 0, none⟩) l oc)) := hW
      have RW : Rws14 W go l A Rs := by rw [hW]; exact RW6.set c62 (by omega) _
      have GW : W.heap[g]? = some (.cells #[.pointer (some ⟨b, 0, none⟩), .int .i64 (wk2 : Int), .slice (some ⟨go, 0, none⟩) l oc] 69 (0, 0)) := by rw [hW]; exact three_set2 G6 _
      have KW : Kp (fun x => x = g) w W := by rw [hW]; exact (K1.trans (S' := fun x => x = g) (Kp.of_below B16) (fun _ _ e => e)).trans (S' := fun x => x = g) (Kp.set (S := fun x => x = g) rfl _) (fun _ _ e => e)
      have hz1 : w.heap.size ≤ w1.heap.size := K1.size
      have HFL : Hid (LsR14 w g b n A B H W ∧ Kp (fun x => x = g) w W) := ⟨⟨w1.heap.size, w6.heap.size, ⟨wk2, _, GW, Or.inr ⟨go, l, oc, Rs, rfl, RW, by rw [hW]; exact RB6.set (by omega) _⟩⟩, (by rw [hW]; simp; omega), Or.inr hz1⟩, KW⟩
      have cw2 := three_cell2 GW
      clear hW RW6 RB6 hrb GW KW G6 s5 B5 B6 hra hgo
      obtain ⟨ra0, rc0, k0, s0, -⟩ := RW.at_ 0 RW.pos
      rw [RW.zero] at k0 s0
      rw [HAN.out] at k0
      obtain ⟨rb0, ro0, rfl, k1⟩ := s0.at_ lo (by rw [nz12_len13, HAN.out]; exact hln)
      rw [nz12_get13 (by rw [HAN.out]; exact hln)] at k1
      have HW0 : Hid (Wl14 n lo hi l A Rs 0 lo hi (A.getD lo 0)) := Wl14.start RW HAN.out hlh hhn
      have hv0 := HLT.out lo hln
      have hl1 : 0 < l := RW.pos
      have hl1i : (0 : Int) < (l : Int) := by omega
      have hlsm := RW.small
      have HRW : Hid (Rws14 W go l A Rs) := RW
      generalize A.getD lo 0 = v0 at *
      clear RW s0
      have k0s := k0
      have k1s := k1
      rw [HW.out] at k0s k1s
      go_wp2_with fail
      rw [← HW.out]
      clear k0s k1s cg0 cg1 cg2 fg1 fg2 c62 f62 d0 d1 d2
      go_loopw [1, 2, 7, 65] (fun tl th to ti wr => ∃ t a c v : Nat, t ≤ l ∧ tl = .int .i64 a ∧ th = .int .i64 c ∧ to = .int .i64 v ∧ ti = .int .i64 t ∧ a ≤ n ∧ c ≤ n ∧ v < n ∧ Hid (Wl14 n lo hi l A Rs t a c v) ∧ wr = W) (fun _ _ _ ti _ => l - (intOf ti).toNat)
      case atStart => exact ⟨0, lo, hi, v0, Nat.zero_le _, rfl, rfl, rfl, rfl, by omega, hhn, hv0, HW0, by first | trivial | rfl⟩
      case round =>
        obtain ⟨t, a0, c0, v, htl, rfl, rfl, rfl, rfl, han, hcn, hvn, HWL, hwr⟩ := hrel
        clear k0 k1 HW0 hv0
        subst hwr
        rename World => W
        by_cases h2 : t < l
        · have h2i : (t : Int) < (l : Int) := by omega
          obtain ⟨ra, rc, kt, st, -⟩ := HRW.out.at_ t h2
          have HST : Hid (SegZ W ra (nz12 (Rs.getD t []))) := st
          obtain ⟨rl, hrl⟩ : ∃ rl, rl = (Rs.getD t []).length := ⟨_, rfl⟩
          have HRL : Hid (rl = (Rs.getD t []).length) := hrl
          rw [← hrl] at kt
          have HBD : Hid (∀ i, i < rl → (Rs.getD t []).getD i 0 < n) := fun i hi => HRW.out.bd HAN.out HLT.out h2 (by rw [← HRL.out]; exact hi)
          have HC : Hid (∀ i, i < rl → ∃ rb ro, ra = some ⟨rb, ro, none⟩ ∧ W.cell? ⟨rb, ro + i, none⟩ = some (.int .i64 (((Rs.getD t []).getD i 0 : Nat) : Int))) := fun i hi => by
            obtain ⟨rb, ro, q1, q2⟩ := HST.out.at_ i (by rw [nz12_len13, ← HRL.out]; exact hi)
            rw [nz12_get13 (by rw [← HRL.out]; exact hi)] at q2
            exact ⟨rb, ro, q1, q2⟩
          have hcl : c0 ≤ rl := by rw [hrl]; exact HWL.out.cl
          have hac0 := HWL.out.lf.le
          clear st hrl
          go_wp2_with fail
          go_loopw [1, 7] (fun tl to wr => ∃ a v : Nat, a ≤ c0 ∧ tl = .int .i64 a ∧ to = .int .i64 v ∧ v < n ∧ Hid (Wl14 n lo hi l A Rs t a c0 v) ∧ wr = W) (fun tl _ _ => c0 - (intOf tl).toNat)
          case atStart => exact ⟨a0, v, hac0, rfl, rfl, hvn, HWL, by first | trivial | rfl⟩
          case round =>
            clear HWL hvn han hac0
            obtain ⟨a, v2, hac, rfl, rfl, hvn, HWL, hwr⟩ := hrel
            subst hwr
            rename World => W
            have i1 : (a : Int).tmod 16 = ((a % 16 : Nat) : Int) := by rw [Int.tmod_eq_emod_of_nonneg (by omega)]; omega
            obtain ⟨r, hr⟩ : ∃ r, r = a % 16 := ⟨_, rfl⟩
            have HR : Hid (r = a % 16) := hr
            have hr16 : r < 16 := by omega
            rw [← hr] at i1
            clear hr
            by_cases h3 : a < c0 ∧ ¬ r = 0
            · obtain ⟨h3, h4⟩ := h3
              have h3i : (a : Int) < (c0 : Int) := by omega
              have h4i : ¬ (r : Int) = 0 := by omega
              have h4j : ((r : Int) == 0) = false := beq_eq_false_iff_ne.2 h4i
              obtain ⟨rb, ro, rfl, c1⟩ := HC.out a (by omega)
              have hy := HBD.out a (by omega)
              have HN := HWL.out.lo1 HRW.out h2 h3
              have HN2 : Hid (Wl14 n lo hi l A Rs t (a + 1) c0 (min v2 ((Rs.getD t []).getD a 0))) := HN
              have har : (a : Int) < (rl : Int) := by omega
              clear HN
              generalize (Rs.getD t []).getD a 0 = y at *
              by_cases h5 : y < v2
              · have h5i : (y : Int) < (v2 : Int) := by omega
                rw [show min v2 y = y by omega] at HN2
                go_wp2_with fail
                go_roundw
                case rel => exact ⟨a + 1, y, by omega, by go_num, by first | rfl | go_num, hy, HN2, by first | trivial | rfl⟩
                case measure => simp [intOf]; omega
              · have h5i : ¬ (y : Int) < (v2 : Int) := by omega
                rw [show min v2 y = v2 by omega] at HN2
                go_wp2_with fail
                go_roundw
                case rel => exact ⟨a + 1, v2, by omega, by go_num, by first | rfl | go_num, hvn, HN2, by first | trivial | rfl⟩
                case measure => simp [intOf]; omega
            · have HE : Hid (a = c0 ∨ a % 16 = 0) := by show _ ∨ _; have := HR.out; omega
              have hex : (¬ (a : Int) < (c0 : Int)) ∨ ((a : Int) < (c0 : Int) ∧ (r : Int) = 0) := by omega
              clear h3
              rcases hex with x1 | ⟨x1, x2⟩
              all_goals
                go_wp2_with fail
                go_loopw [2, 7] (fun tl to wr => ∃ c v : Nat, a ≤ c ∧ c ≤ c0 ∧ tl = .int .i64 c ∧ to = .int .i64 v ∧ v < n ∧ Hid (Wl14 n lo hi l A Rs t a c v) ∧ wr = W) (fun tl _ _ => (intOf tl).toNat)
                case atStart => exact ⟨c0, v2, hac, Nat.le_refl _, rfl, rfl, hvn, HWL, by first | trivial | rfl⟩
                case round =>
                  clear HWL hvn x1 i1
                  obtain ⟨c, v3, hac3, hcc, rfl, rfl, hvn, HWL, hwr⟩ := hrel
                  subst hwr
                  rename World => W
                  have i2 : (c : Int).tmod 16 = ((c % 16 : Nat) : Int) := by rw [Int.tmod_eq_emod_of_nonneg (by omega)]; omega
                  obtain ⟨r2, hr2⟩ : ∃ r2, r2 = c % 16 := ⟨_, rfl⟩
                  have HR2 : Hid (r2 = c % 16) := hr2
                  have hr216 : r2 < 16 := by omega
                  rw [← hr2] at i2
                  clear hr2
                  by_cases h3 : a < c ∧ ¬ r2 = 0
                  · obtain ⟨h3, h4⟩ := h3
                    have h3i : (a : Int) < (c : Int) := by omega
                    have h4i : ¬ (r2 : Int) = 0 := by omega
                    have h4j : ((r2 : Int) == 0) = false := beq_eq_false_iff_ne.2 h4i
                    obtain ⟨c2, hc2⟩ : ∃ c2, c2 = c - 1 := ⟨_, rfl⟩
                    have ec : (c : Int) - 1 = (c2 : Int) := by omega
                    obtain ⟨rb, ro, rfl, c1⟩ := HC.out c2 (by omega)
                    have hy := HBD.out c2 (by omega)
                    have HN := HWL.out.hi1 HRW.out h2 h3
                    rw [← hc2] at HN
                    have HN2 : Hid (Wl14 n lo hi l A Rs t a c2 (min v3 ((Rs.getD t []).getD c2 0))) := HN
                    have har : (c2 : Int) < (rl : Int) := by omega
                    have hc2c : c2 < c := by omega
                    have hac2 : a ≤ c2 := by omega
                    clear HN hc2
                    generalize (Rs.getD t []).getD c2 0 = y at *
                    by_cases h5 : y < v3
                    · have h5i : (y : Int) < (v3 : Int) := by omega
                      rw [show min v3 y = y by omega] at HN2
                      go_wp2_with fail
                      go_roundw
                      case rel => exact ⟨c2, y, by omega, by omega, by first | rfl | go_num, by first | rfl | go_num, hy, HN2, by first | trivial | rfl⟩
                      case measure => simp [intOf]; omega
                    · have h5i : ¬ (y : Int) < (v3 : Int) := by omega
                      rw [show min v3 y = v3 by omega] at HN2
                      go_wp2_with fail
                      go_roundw
                      case rel => exact ⟨c2, v3, by omega, by omega, by first | rfl | go_num, by first | rfl | go_num, hvn, HN2, by first | trivial | rfl⟩
                      case measure => simp [intOf]; omega
                  · have HU : Hid (a = c ∨ (a % 16 = 0 ∧ c % 16 = 0)) := by show _ ∨ _; have := HR2.out; have := HE.out; omega
                    have HN : Hid (Wl14 n lo hi l A Rs (t + 1) (a / 16) (c / 16) v3) := HWL.out.up HRW.out h2 HU.out
                    have hex : (¬ (a : Int) < (c : Int)) ∨ ((a : Int) < (c : Int) ∧ (r2 : Int) = 0) := by omega
                    have q1 : (a : Int).tdiv 16 = ((a / 16 : Nat) : Int) := by rw [Int.tdiv_eq_ediv_of_nonneg (by omega)]; omega
                    have q2 : (c : Int).tdiv 16 = ((c / 16 : Nat) : Int) := by rw [Int.tdiv_eq_ediv_of_nonneg (by omega)]; omega
                    have q3 : a / 16 ≤ n := by omega
                    have q4 : c / 16 ≤ n := by omega
                    generalize a / 16 = a9 at *
                    generalize c / 16 = c9 at *
                    clear h3 HU
                    rcases hex with x1 | ⟨x1, x2⟩
                    all_goals
                      go_wp2_with fail
                      go_roundw
                      case rel => exact ⟨t + 1, a9, c9, v3, by omega, by first | rfl | go_num, by first | rfl | go_num, by first | rfl | go_num, by go_num, by omega, by omega, hvn, HN, by first | trivial | rfl⟩
                      case measure => simp [intOf]; omega
        · have h2i : ¬ (t : Int) < (l : Int) := by omega
          obtain rfl : t = l := by omega
          have HF : Hid (Le14 A lo hi v) := HWL.out.fin HRW.out
          go_wp2_with fail
          go_ret
          exact ⟨v, HF.out, rfl, HFL.out.1, HFL.out.2⟩
  · have HFL : Hid (LsR14 w g b n A B H w ∧ Kp (fun x => x = g) w w) := ⟨⟨B, H, ⟨wk, _, G, Or.inr ⟨go, l, oc, Rs, rfl, RW, RB⟩⟩, by omega, Or.inl ⟨rfl, rfl⟩⟩, Kp.refl _ _⟩
    obtain ⟨W, hW⟩ : ∃ W, W = w := ⟨_, rfl⟩
    subst hW
    have cw2 := cg2
    have hqs := eqls14 W ⟨go, 0, none⟩ l oc
    clear G B0 cg0 cg1 cg2 fg1 fg2 h0 RB
    obtain ⟨ra0, rc0, k0, s0, -⟩ := RW.at_ 0 RW.pos
    rw [RW.zero] at k0 s0
    rw [HAN.out] at k0
    obtain ⟨rb0, ro0, rfl, k1⟩ := s0.at_ lo (by rw [nz12_len13, HAN.out]; exact hln)
    rw [nz12_get13 (by rw [HAN.out]; exact hln)] at k1
    have HW0 : Hid (Wl14 n lo hi l A Rs 0 lo hi (A.getD lo 0)) := Wl14.start RW HAN.out hlh hhn
    have hv0 := HLT.out lo hln
    have hl1 : 0 < l := RW.pos
    have hl1i : (0 : Int) < (l : Int) := by omega
    have hlsm := RW.small
    have HRW : Hid (Rws14 W go l A Rs) := RW
    generalize A.getD lo 0 = v0 at *
    clear RW s0
    go_enter Try.func33, Try.ntmps33
    go_wp2_with fail
    go_loopw [1, 2, 7, 65] (fun tl th to ti wr => ∃ t a c v : Nat, t ≤ l ∧ tl = .int .i64 a ∧ th = .int .i64 c ∧ to = .int .i64 v ∧ ti = .int .i64 t ∧ a ≤ n ∧ c ≤ n ∧ v < n ∧ Hid (Wl14 n lo hi l A Rs t a c v) ∧ wr = W) (fun _ _ _ ti _ => l - (intOf ti).toNat)
    case atStart => exact ⟨0, lo, hi, v0, Nat.zero_le _, rfl, rfl, rfl, rfl, by omega, hhn, hv0, HW0, by first | trivial | rfl⟩
    case round =>
      obtain ⟨t, a0, c0, v, htl, rfl, rfl, rfl, rfl, han, hcn, hvn, HWL, hwr⟩ := hrel
      clear k0 k1 HW0 hv0
      subst hwr
      rename World => W
      by_cases h2 : t < l
      · have h2i : (t : Int) < (l : Int) := by omega
        obtain ⟨ra, rc, kt, st, -⟩ := HRW.out.at_ t h2
        have HST : Hid (SegZ W ra (nz12 (Rs.getD t []))) := st
        obtain ⟨rl, hrl⟩ : ∃ rl, rl = (Rs.getD t []).length := ⟨_, rfl⟩
        have HRL : Hid (rl = (Rs.getD t []).length) := hrl
        rw [← hrl] at kt
        have HBD : Hid (∀ i, i < rl → (Rs.getD t []).getD i 0 < n) := fun i hi => HRW.out.bd HAN.out HLT.out h2 (by rw [← HRL.out]; exact hi)
        have HC : Hid (∀ i, i < rl → ∃ rb ro, ra = some ⟨rb, ro, none⟩ ∧ W.cell? ⟨rb, ro + i, none⟩ = some (.int .i64 (((Rs.getD t []).getD i 0 : Nat) : Int))) := fun i hi => by
          obtain ⟨rb, ro, q1, q2⟩ := HST.out.at_ i (by rw [nz12_len13, ← HRL.out]; exact hi)
          rw [nz12_get13 (by rw [← HRL.out]; exact hi)] at q2
          exact ⟨rb, ro, q1, q2⟩
        have hcl : c0 ≤ rl := by rw [hrl]; exact HWL.out.cl
        have hac0 := HWL.out.lf.le
        clear st hrl
        go_wp2_with fail
        go_loopw [1, 7] (fun tl to wr => ∃ a v : Nat, a ≤ c0 ∧ tl = .int .i64 a ∧ to = .int .i64 v ∧ v < n ∧ Hid (Wl14 n lo hi l A Rs t a c0 v) ∧ wr = W) (fun tl _ _ => c0 - (intOf tl).toNat)
        case atStart => exact ⟨a0, v, hac0, rfl, rfl, hvn, HWL, by first | trivial | rfl⟩
        case round =>
          clear HWL hvn han hac0
          obtain ⟨a, v2, hac, rfl, rfl, hvn, HWL, hwr⟩ := hrel
          subst hwr
          rename World => W
          have i1 : (a : Int).tmod 16 = ((a % 16 : Nat) : Int) := by rw [Int.tmod_eq_emod_of_nonneg (by omega)]; omega
          obtain ⟨r, hr⟩ : ∃ r, r = a % 16 := ⟨_, rfl⟩
          have HR : Hid (r = a % 16) := hr
          have hr16 : r < 16 := by omega
          rw [← hr] at i1
          clear hr
          by_cases h3 : a < c0 ∧ ¬ r = 0
          · obtain ⟨h3, h4⟩ := h3
            have h3i : (a : Int) < (c0 : Int) := by omega
            have h4i : ¬ (r : Int) = 0 := by omega
            have h4j : ((r : Int) == 0) = false := beq_eq_false_iff_ne.2 h4i
            obtain ⟨rb, ro, rfl, c1⟩ := HC.out a (by omega)
            have hy := HBD.out a (by omega)
            have HN := HWL.out.lo1 HRW.out h2 h3
            have HN2 : Hid (Wl14 n lo hi l A Rs t (a + 1) c0 (min v2 ((Rs.getD t []).getD a 0))) := HN
            have har : (a : Int) < (rl : Int) := by omega
            clear HN
            generalize (Rs.getD t []).getD a 0 = y at *
            by_cases h5 : y < v2
            · have h5i : (y : Int) < (v2 : Int) := by omega
              rw [show min v2 y = y by omega] at HN2
              go_wp2_with fail
              go_roundw
              case rel => exact ⟨a + 1, y, by omega, by go_num, by first | rfl | go_num, hy, HN2, by first | trivial | rfl⟩
              case measure => simp [intOf]; omega
            · have h5i : ¬ (y : Int) < (v2 : Int) := by omega
              rw [show min v2 y = v2 by omega] at HN2
              go_wp2_with fail
              go_roundw
              case rel => exact ⟨a + 1, v2, by omega, by go_num, by first | rfl | go_num, hvn, HN2, by first | trivial | rfl⟩
              case measure => simp [intOf]; omega
          · have HE : Hid (a = c0 ∨ a % 16 = 0) := by show _ ∨ _; have := HR.out; omega
            have hex : (¬ (a : Int) < (c0 : Int)) ∨ ((a : Int) < (c0 : Int) ∧ (r : Int) = 0) := by omega
            clear h3
            rcases hex with x1 | ⟨x1, x2⟩
            all_goals
              go_wp2_with fail
              go_loopw [2, 7] (fun tl to wr => ∃ c v : Nat, a ≤ c ∧ c ≤ c0 ∧ tl = .int .i64 c ∧ to = .int .i64 v ∧ v < n ∧ Hid (Wl14 n lo hi l A Rs t a c v) ∧ wr = W) (fun tl _ _ => (intOf tl).toNat)
              case atStart => exact ⟨c0, v2, hac, Nat.le_refl _, rfl, rfl, hvn, HWL, by first | trivial | rfl⟩
              case round =>
                clear HWL hvn x1 i1
                obtain ⟨c, v3, hac3, hcc, rfl, rfl, hvn, HWL, hwr⟩ := hrel
                subst hwr
                rename World => W
                have i2 : (c : Int).tmod 16 = ((c % 16 : Nat) : Int) := by rw [Int.tmod_eq_emod_of_nonneg (by omega)]; omega
                obtain ⟨r2, hr2⟩ : ∃ r2, r2 = c % 16 := ⟨_, rfl⟩
                have HR2 : Hid (r2 = c % 16) := hr2
                have hr216 : r2 < 16 := by omega
                rw [← hr2] at i2
                clear hr2
                by_cases h3 : a < c ∧ ¬ r2 = 0
                · obtain ⟨h3, h4⟩ := h3
                  have h3i : (a : Int) < (c : Int) := by omega
                  have h4i : ¬ (r2 : Int) = 0 := by omega
                  have h4j : ((r2 : Int) == 0) = false := beq_eq_false_iff_ne.2 h4i
                  obtain ⟨c2, hc2⟩ : ∃ c2, c2 = c - 1 := ⟨_, rfl⟩
                  have ec : (c : Int) - 1 = (c2 : Int) := by omega
                  obtain ⟨rb, ro, rfl, c1⟩ := HC.out c2 (by omega)
                  have hy := HBD.out c2 (by omega)
                  have HN := HWL.out.hi1 HRW.out h2 h3
                  rw [← hc2] at HN
                  have HN2 : Hid (Wl14 n lo hi l A Rs t a c2 (min v3 ((Rs.getD t []).getD c2 0))) := HN
                  have har : (c2 : Int) < (rl : Int) := by omega
                  have hc2c : c2 < c := by omega
                  have hac2 : a ≤ c2 := by omega
                  clear HN hc2
                  generalize (Rs.getD t []).getD c2 0 = y at *
                  by_cases h5 : y < v3
                  · have h5i : (y : Int) < (v3 : Int) := by omega
                    rw [show min v3 y = y by omega] at HN2
                    go_wp2_with fail
                    go_roundw
                    case rel => exact ⟨c2, y, by omega, by omega, by first | rfl | go_num, by first | rfl | go_num, hy, HN2, by first | trivial | rfl⟩
                    case measure => simp [intOf]; omega
                  · have h5i : ¬ (y : Int) < (v3 : Int) := by omega
                    rw [show min v3 y = v3 by omega] at HN2
                    go_wp2_with fail
                    go_roundw
                    case rel => exact ⟨c2, v3, by omega, by omega, by first | rfl | go_num, by first | rfl | go_num, hvn, HN2, by first | trivial | rfl⟩
                    case measure => simp [intOf]; omega
                · have HU : Hid (a = c ∨ (a % 16 = 0 ∧ c % 16 = 0)) := by show _ ∨ _; have := HR2.out; have := HE.out; omega
                  have HN : Hid (Wl14 n lo hi l A Rs (t + 1) (a / 16) (c / 16) v3) := HWL.out.up HRW.out h2 HU.out
                  have hex : (¬ (a : Int) < (c : Int)) ∨ ((a : Int) < (c : Int) ∧ (r2 : Int) = 0) := by omega
                  have q1 : (a : Int).tdiv 16 = ((a / 16 : Nat) : Int) := by rw [Int.tdiv_eq_ediv_of_nonneg (by omega)]; omega
                  have q2 : (c : Int).tdiv 16 = ((c / 16 : Nat) : Int) := by rw [Int.tdiv_eq_ediv_of_nonneg (by omega)]; omega
                  have q3 : a / 16 ≤ n := by omega
                  have q4 : c / 16 ≤ n := by omega
                  generalize a / 16 = a9 at *
                  generalize c / 16 = c9 at *
                  clear h3 HU
                  rcases hex with x1 | ⟨x1, x2⟩
                  all_goals
                    go_wp2_with fail
                    go_roundw
                    case rel => exact ⟨t + 1, a9, c9, v3, by omega, by first | rfl | go_num, by first | rfl | go_num, by first | rfl | go_num, by go_num, by omega, by omega, hvn, HN, by first | trivial | rfl⟩
                    case measure => simp [intOf]; omega
      · have h2i : ¬ (t : Int) < (l : Int) := by omega
        obtain rfl : t = l := by omega
        have HF : Hid (Le14 A lo hi v) := HWL.out.fin HRW.out
        go_wp2_with fail
        go_ret
        exact ⟨v, HF.out, rfl, HFL.out.1, HFL.out.2⟩
end Go.Proofs.Ytfogknlinmchjaa
