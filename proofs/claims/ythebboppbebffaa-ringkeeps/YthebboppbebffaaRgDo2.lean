
import Derived.Test.YthebboppbebffaaRgU
namespace Go.Proofs.Ythebboppbebffaa
open Go.RowKit
set_option linter.unusedVariables false

theorem WR.row {w : World} {b S : Nat} {F : Nat → Prop} {L : List Int} (h : WR w b F S L) : ∃ a cap, w.heap[b]? = some (.cells #[.int .i64 (S : Int), .slice a L.length cap] 59 (0, 0)) := by
  obtain ⟨B, v, rfl, a, c, rfl, h⟩ := h
  exact ⟨a, c, h.hp⟩
set_option maxRecDepth 100000 in
set_option maxHeartbeats 4000000 in
theorem do_reset {b bx S M : Nat} {F G : Nat → Prop} {L : List Int} (D N : Int) (ba : Option Addr) (np bc : Nat) (w : World) (h : RP w b F S L) (hw : WR w bx G S L) (hd : Dj F G) (hl : L.length ≤ 70368744177000) (hS : S ≤ 32768) :
    Calls Try.prog 14 #[.pointer (some ⟨b, 0, none⟩), .pointer (some ⟨bx, 0, none⟩), .agg #[.int .i64 4, .slice ba np bc, .int .i64 D, .int .i64 N]] w fun e w' => DoQ w b bx S M F G L e w' := by
  have I : DoI w _ b bx S F G L 4 D N ba np bc w.heap.size := DoI.new h hw hd
  obtain ⟨wA, hwA⟩ : ∃ wA, wA = w.alloc (.cells #[.int .i64 4, .slice ba np bc, .int .i64 D, .int .i64 N] 36) := ⟨_, rfl⟩
  rw [← hwA] at I
  have HWA : Hid (wA = w.alloc (.cells #[.int .i64 4, .slice ba np bc, .int .i64 D, .int .i64 N] 36)) := hwA
  obtain ⟨ob, hob⟩ : ∃ ob, ob = w.heap.size := ⟨_, rfl⟩
  have HOB : Hid (ob = w.heap.size) := hob
  rw [← hob] at I
  obtain ⟨c0, c1, c2, c3⟩ := I.c
  have hsz := I.sz
  have hoA : ob < wA.heap.size := by omega
  have bA := I.bel
  clear hwA hob h hw
  have CP := preset_any I.r
  go_enter Try.func14, Try.ntmps14
  go_wp2_with fail
  rw [← HWA.out, ← HOB.out]
  refine CP.mono ?_
  rintro e w2 ⟨rfl, F2, R2, K2, P2⟩
  have X2 : WR w2 bx G S L := I.x.kp K2 hd.symm
  obtain ⟨a, cap, hp⟩ := X2.row
  have d1 : w2.cell? ⟨bx, 1, none⟩ = some (.slice a L.length cap) := two_cell1 hp
  have f1 : w2.frozen? ⟨bx, 1, none⟩ = false := two_free hp 1
  have hG := I.x.has
  have HP : Hid _ := hp
  clear c0 c1 c2 c3 CP
  go_wp2_with fail
  go_ret
  have hx : WR (w2.setCell ⟨bx, 1, none⟩ (.slice none 0 0)) bx (RF bx (.slice none 0 0)) S [] := WR.new (two_set1 HP.out _)
  have kx : Kp (fun k => k = bx) w2 (w2.setCell ⟨bx, 1, none⟩ (.slice none 0 0)) := Kp.set (S := fun k => k = bx) rfl _
  have hF2 : ∀ k, F2 k → F k ∨ wA.heap.size ≤ k := P2
  have hbx : bx < w.heap.size := I.lt bx (.inr hG)
  have hrf : ∀ k, RF bx (.slice none 0 0) k → k = bx := fun k e => by
    rcases e with e | e
    · exact e
    · cases e
  have hdF : Dj F2 (RF bx (.slice none 0 0)) := fun k e1 e2 => by
    have := hrf k e2
    subst this
    rcases hF2 k e1 with e | e
    · exact hd k e hG
    · omega
  refine ⟨rfl, F2, RF bx (.slice none 0 0), [], R2.kp kx (fun k e1 e2 => hdF k e1 (.inl e2)), hx, hdF, ?_, ?_, by simp⟩
  · refine ((Kp.of_below bA).trans K2 (fun _ _ e => .inl e)).trans kx (fun k _ e => .inr ?_)
    have e' : k = bx := e
    rw [e']; exact hG
  · rintro k (e | e)
    · rcases hF2 k e with e | e
      · exact .inl (.inl e)
      · exact .inr (by omega)
    · rw [hrf k e]; exact .inl (.inr hG)
set_option maxRecDepth 100000 in
set_option maxHeartbeats 4000000 in
theorem do_last {b bx S M : Nat} {F G : Nat → Prop} {L : List Int} (D N : Int) (ba : Option Addr) (np bc : Nat) (w : World) (h : RP w b F S L) (hw : WR w bx G S L) (hd : Dj F G) (hl : L.length ≤ 70368744177000) (hS : S ≤ 32768) :
    Calls Try.prog 14 #[.pointer (some ⟨b, 0, none⟩), .pointer (some ⟨bx, 0, none⟩), .agg #[.int .i64 3, .slice ba np bc, .int .i64 D, .int .i64 N]] w fun e w' => DoQ w b bx S M F G L e w' := by
  have I : DoI w _ b bx S F G L 3 D N ba np bc w.heap.size := DoI.new h hw hd
  obtain ⟨wA, hwA⟩ : ∃ wA, wA = w.alloc (.cells #[.int .i64 3, .slice ba np bc, .int .i64 D, .int .i64 N] 36) := ⟨_, rfl⟩
  rw [← hwA] at I
  have HWA : Hid (wA = w.alloc (.cells #[.int .i64 3, .slice ba np bc, .int .i64 D, .int .i64 N] 36)) := hwA
  obtain ⟨ob, hob⟩ : ∃ ob, ob = w.heap.size := ⟨_, rfl⟩
  have HOB : Hid (ob = w.heap.size) := hob
  rw [← hob] at I
  obtain ⟨c0, c1, c2, c3⟩ := I.c
  have hsz := I.sz
  have hoA : ob < wA.heap.size := by omega
  have bA := I.bel
  clear hwA hob h hw
  have CP : Hid (∀ W, Below wA.heap.size wA W → Calls Try.prog 19 #[.pointer (some ⟨b, 0, none⟩), .int .i64 N] W fun e w' => LastU W (lastX S L N) (lastE S L N) e w') := fun W hW => plast_u N (I.r.old hW) (by omega)
  have CW : Hid (∀ W, Below wA.heap.size wA W → Calls Try.prog 30 #[.pointer (some ⟨bx, 0, none⟩), .int .i64 N] W fun e w' => LastU W (lastX S L N) (lastE S L N) e w') := fun W hW => wlast_u N (I.x.old hW) (by omega) hS
  have hXb := lastX_bd (S := S) (n := N) I.r.bd
  have hXl := lastX_le S L N
  obtain ⟨X, hX⟩ : ∃ X, X = lastX S L N := ⟨_, rfl⟩
  obtain ⟨E, hE⟩ : ∃ E, E = lastE S L N := ⟨_, rfl⟩
  rw [← hX] at CP CW hXb hXl
  rw [← hE] at CP CW
  obtain ⟨n, hn⟩ : ∃ n, n = X.length := ⟨_, rfl⟩
  have HN : Hid (X.length = n) := hn.symm
  rw [← hn] at hXl
  clear hX hE hn
  have hEb : (E == E) = true := by simp
  have HS : Hid (∀ W xa xc ya yc, Seg W xa X → Seg W ya X → Calls Try.prog 24 #[.slice xa n xc, .slice ya n yc] W fun e w' => e = .returned (.bool true) ∧ w' = W) := by
    intro W xa xc ya yc hx hy
    have := same6_any xa ya X X xc yc W hx hy
    rw [HN.out, show (X == X) = true by simp] at this
    exact this
  have HOW : Hid (∀ W base xa xc ya yc, W.ownsRow base 5 1 (.slice xa n xc) n (X.map (Value.int .u8)) → Seg W ya X → base ≤ W.heap.size → Calls Try.prog 29 #[.slice xa n xc, .slice ya n yc] W fun e w' => e = .returned (.bool true) ∧ Kp (OB (.slice xa n xc)) W w') := by
    intro W base xa xc ya yc hx hy hb
    have := own6_any xa ya X X n n xc yc base HN HN W hx hXb hy hb (by omega) (by omega)
    rw [show (X == X) = true by simp] at this
    exact this
  go_enter Try.func14, Try.ntmps14
  go_wp2_with fail
  rw [← HWA.out, ← HOB.out]
  refine (CP.out _ (Below.refl _ _)).mono ?_
  rintro e w2 ⟨a1, k1, rfl, O1, B2⟩
  rw [HN.out] at O1 ⊢
  have d3 : w2.cell? ⟨ob, 3, none⟩ = some (.int .i64 N) := (B2.cell (p := ⟨ob, 3, none⟩) hoA).trans c3
  have ho2 : ob < w2.heap.size := by have := B2.size; omega
  clear c0 c1 c2 c3
  go_wp2_with fail
  refine (CP.out _ B2).mono ?_
  rintro e w3 ⟨a2, k2, rfl, O2, B3⟩
  rw [HN.out] at O2 ⊢
  have b3 : Below wA.heap.size wA w3 := B2.trans (B3.mono B2.size)
  have e3 : w3.cell? ⟨ob, 3, none⟩ = some (.int .i64 N) := (B3.cell (p := ⟨ob, 3, none⟩) ho2).trans d3
  clear d3
  go_wp2_with fail
  refine (CW.out _ b3).mono ?_
  rintro e w4 ⟨a3, k3, rfl, O3, B4⟩
  rw [HN.out] at O3 ⊢
  have b4 : Below wA.heap.size wA w4 := b3.trans (B4.mono b3.size)
  have O1' := own_below (own_below O1 B3) B4
  have O2' := own_below O2 B4
  obtain ⟨q2, a2', k2', hv2, s2, _⟩ := own_seg O2' (M := 255) (by decide) hXb
  cases hv2
  obtain ⟨q3, a3', k3', hv3, s3, _⟩ := own_seg O3 (M := 255) (by decide) hXb
  cases hv3
  have l1 : ∀ k, OB (.slice a1 n k1) k → wA.heap.size ≤ k ∧ k < w2.heap.size := fun k e => O1.lt k e
  have l2 : ∀ k, OB (.slice a2 n k2) k → w2.heap.size ≤ k ∧ k < w3.heap.size := fun k e => O2.lt k e
  have z2 := B2.size
  have z3 := B3.size
  have z4 := B4.size
  have hseg2 : ∀ g off, a2 = some ⟨g, off, none⟩ → w2.heap.size ≤ g := fun g off e => by
    rcases O2.2 with ⟨h1, _⟩ | ⟨g', cp, cur, h1, hb, _⟩
    · simp only [Value.slice.injEq] at h1; rw [h1.1] at e; cases e
    · simp only [Value.slice.injEq] at h1; rw [h1.1] at e; cases e; exact hb
  have hseg3 : ∀ g off, a3 = some ⟨g, off, none⟩ → w3.heap.size ≤ g := fun g off e => by
    rcases O3.2 with ⟨h1, _⟩ | ⟨g', cp, cur, h1, hb, _⟩
    · simp only [Value.slice.injEq] at h1; rw [h1.1] at e; cases e
    · simp only [Value.slice.injEq] at h1; rw [h1.1] at e; cases e; exact hb
  have HO2 : Hid _ := O2'
  clear O1 O2 O3 B2 B3 B4 e3 CP CW q2 q3 O2'
  go_wp2_with fail
  refine (num6_any E w4).mono ?_
  rintro e w' ⟨rfl, hw'⟩
  subst w'
  go_wp2_with fail
  refine (num6_any E w4).mono ?_
  rintro e w' ⟨rfl, hw'⟩
  subst w'
  go_wp2_with fail
  refine (HS.out _ _ _ _ _ s2 s3).mono ?_
  rintro e w' ⟨rfl, hw'⟩
  subst w'
  go_wp2_with fail
  refine (HOW.out _ _ _ _ _ _ O1' s3 (by omega)).mono ?_
  rintro e w5 ⟨rfl, K5⟩
  have s25 : Seg w5 a2 X := s2.kp K5 (fun g off e _ e2 => by have := hseg2 g off e; have := (l1 g e2).2; omega)
  have s35 : Seg w5 a3 X := s3.kp K5 (fun g off e _ e2 => by have := hseg3 g off e; have := (l1 g e2).2; omega)
  have O25 := own_kp HO2.out K5 (fun k e e2 => by have := (l2 k e).1; have := (l1 k e2).2; omega)
  have z5 := K5.size
  clear O1' s2 s3
  go_wp2_with fail
  refine (HS.out _ _ _ _ _ s25 s35).mono ?_
  rintro e w' ⟨rfl, hw'⟩
  subst w'
  go_wp2_with fail
  refine (HOW.out _ _ _ _ _ _ O25 s35 (by omega)).mono ?_
  rintro e w6 ⟨rfl, K6⟩
  go_wp2_with fail
  go_ret
  have x5 : Below wA.heap.size wA w5 := b4.trans (K5.below (fun k e => (l1 k e).1) b4.size)
  have x6 : Below wA.heap.size wA w6 := x5.trans (K6.below (fun k e => by have := (l2 k e).1; omega) x5.size)
  exact DoQ.same (I.r.old x6) (I.x.old x6) hd (bA.trans (x6.mono bA.size))
end Go.Proofs.Ythebboppbebffaa
