
import Derived.Test.YtjoghmdjnkdokaaDoorFlR
import Derived.Test.YtjoghmdjnkdokaaDoorFlP
import Derived.Test.YtjoghmdjnkdokaaDoorFlL
import Derived.Lib.SlBytesConst
namespace Go.Proofs.YtjoghmdjnkdokaaDoor
open Go.RowKit Go.Shelf
set_option linter.unusedVariables false
set_option linter.unusedSimpArgs false

/-! The law's lives. -/
theorem seg_lit21 (w : World) (zs : List Int) (t : TypeId) (fr : Nat × Nat) (h : ∀ z ∈ zs, 0 ≤ z ∧ z ≤ 255) : Seg (w.alloc (.cells (zs.map (Value.int .u8)).toArray t fr)) (some ⟨w.heap.size, 0, none⟩) zs := by
  refine ⟨fun i hi => ⟨w.heap.size, 0, rfl, ?_⟩, by decide, getD_bd (by decide) h⟩
  have e : zs.getD i 0 = zs[i] := by simp [List.getD, hi]
  rw [e, Nat.zero_add, World.cell?_alloc_mark]
  simp [hi]
def s1_21 : Fs21 := nw21 64 2 0 [111, 108, 100] []
def s2_21 : Fs21 := pgS21 s1_21 1 0 []
def s3_21 : Fs21 := erS21 s2_21 1 0
def s4_21 : Fs21 := pgS21 s3_21 1 0 [120]
theorem ok21_new (p q : Nat) (ac : Int) (L0 L1 : List Int) (hp : 64 ≤ p ∧ p ≤ 4096) (hq : 1 ≤ q ∧ q ≤ 4096) (ha : ac = 0 ∨ ac = 1) : Ok21 (nw21 p q ac L0 L1) := by
  refine ⟨hp, hq, ha, by simp [nw21], by simp [nw21], by simp [nw21], fun x y s h => ?_⟩
  simp only [nw21, pj21] at h
  split at h
  · unfold ck21 at h
    split at h
    · simp only [Option.some.injEq] at h
      subst h
      refine ⟨?_, by simp, by simp, by simp⟩
      show (List.take _ _).length ≤ p
      simp
      omega
    · cases h
  · cases h
theorem ok21_up {S : Fs21} (h : Ok21 S) (x y : Int) (s : Sh21) (hs : s.b.length ≤ S.pg ∧ 0 ≤ s.wr ∧ s.wr ≤ 1099511627776 ∧ (s.er = true → s.b = [])) : ∀ x' y' s', up21 S.pa x y s x' y' = some s' → s'.b.length ≤ S.pg ∧ 0 ≤ s'.wr ∧ s'.wr ≤ 1099511627776 ∧ (s'.er = true → s'.b = []) := by
  intro x' y' s' e
  unfold up21 at e
  split at e
  · cases e; exact hs
  · exact h.sh x' y' s' e
theorem ok21_rn {S : Fs21} (h : Ok21 S) (kd x y : Int) (s : Sh21) (hs : s.b.length ≤ S.pg ∧ 0 ≤ s.wr ∧ s.wr ≤ 1099511627776 ∧ (s.er = true → s.b = [])) : Ok21 (rn21 S kd x y s) := by
  unfold rn21
  split
  · refine ⟨h.pg, h.ps, h.ac, h.lm, by simp [cu21], by simp [cu21], ok21_up h x y _ ⟨?_, hs.2.1, hs.2.2.1, by simp⟩⟩
    show (la21 _ _ _).length ≤ _
    rw [la21_len _ _ _ h.tn (sh21_ok h x y).1]
    exact Nat.le_refl _
  · refine ⟨h.pg, h.ps, h.ac, h.lm, ?_, h.tn, ok21_up h x y s hs⟩
    have := h.lf
    show 0 ≤ max 0 (S.lf - 1) ∧ max 0 (S.lf - 1) ≤ _
    omega
theorem ok21_er {S : Fs21} (h : Ok21 S) (x y : Int) : Ok21 (erS21 S x y) := by
  unfold erS21
  split
  · exact h
  · split
    · exact h
    · rename_i h1 h2
      have h3 := sh21_ok h x y
      have h4 : ¬ 1099511627776 ≤ (sh21 S x y).wr := by
        intro e
        exact h2 (by simp [wo21, e])
      exact ok21_rn h 1 x y _ ⟨by simp, by show 0 ≤ (sh21 S x y).wr + 1; omega, by show (sh21 S x y).wr + 1 ≤ _; omega, fun _ => rfl⟩
theorem ok21_pg {S : Fs21} (h : Ok21 S) (x y : Int) (L : List Int) : Ok21 (pgS21 S x y L) := by
  unfold pgS21
  split
  · exact h
  · split
    · exact h
    · split
      · exact h
      · rename_i h1 h2 h3
        have h4 := sh21_ok h x y
        exact ok21_rn h 2 x y _ ⟨by show L.length ≤ _; omega, h4.2.1, h4.2.2, by simp⟩
theorem Fn21.kpw {w w' : World} {b N : Nat} {F : Nat → Prop} {S : Fs21} (h : Fn21 w w' b F S) (hF : ∀ k, F k → N ≤ k) (hN : N ≤ w.heap.size) : ∃ F', Fl21 w' b F' S ∧ (∀ k, F' k → N ≤ k) ∧ Below N w w' := by
  obtain ⟨F', h1, h2, h3⟩ := h
  exact ⟨F', h1, fun k e => by rcases h2 k e with h | h; (exact hF k h); omega, h3.below hF hN⟩
set_option maxRecDepth 100000 in
set_option maxHeartbeats 8000000 in
theorem plives21 (w : World) : Calls Tryd.prog 10 #[] w fun e w' => e = .returned (.bool true) ∧ Below w.heap.size w w' := by
  have hcv : (convert 22 22 (.slice (some ⟨w.heap.size, 0, none⟩) 3 3)).run Tryd.prog (w.alloc (.cells #[.int .u8 111, .int .u8 108, .int .u8 100] 5)) = .ok (.slice (some ⟨w.heap.size, 0, none⟩) 3 3) (w.alloc (.cells #[.int .u8 111, .int .u8 108, .int .u8 100] 5 (3, 4))) := Lib.run_convert_bytes_const (P := Tryd.prog) w 22 5 #[.int .u8 111, .int .u8 108, .int .u8 100] 3 3 Tryd.underlying22 Tryd.underlying5
  obtain ⟨w1, hw1⟩ : ∃ w1, w1 = w.alloc (.cells #[.int .u8 111, .int .u8 108, .int .u8 100] 5 (3, 4)) := ⟨_, rfl⟩
  have HW1 : Hid (w.alloc (.cells #[.int .u8 111, .int .u8 108, .int .u8 100] 5 (3, 4)) = w1) := hw1.symm
  have b1 : Below w.heap.size w w1 := by rw [hw1]; exact (Below.refl _ _).alloc (Nat.le_refl _) _
  have HN := pnew21 (w := w1) 64 2 0 ⟨by omega, by omega⟩ ⟨by omega, by omega⟩ (some ⟨w.heap.size, 0, none⟩) none [111, 108, 100] [] 3 0 3 0 (by rw [hw1]; exact seg_lit21 w [111, 108, 100] _ _ (by decide)) (SegK.nil (by decide) _ _) rfl rfl (by omega) (by omega)
  have HB1 : Hid (Below w.heap.size w w1) := b1
  clear hw1 b1
  go_enter Tryd.func10, Tryd.ntmps10
  go_wp2_with fail
  rw [HW1.out]
  clear hcv
  refine HN.mono ?_
  rintro e w2 ⟨b2, h2⟩
  rcases h2 with ⟨h2, -⟩ | ⟨-, b, F, rfl, hF, hFw⟩
  · exact absurd h2 (by decide)
  have o1 : Ok21 s1_21 := ok21_new 64 2 0 _ _ (by omega) (by omega) (by omega)
  have hFl : Fl21 w2 b F s1_21 := hF
  have b2' : Below w.heap.size w w2 := HB1.out.trans (b2.mono HB1.out.size)
  have hFw' : ∀ k, F k → w.heap.size ≤ k := fun k e => Nat.le_trans HB1.out.size (hFw k e)
  have hPN := pprog21 hFl o1 1 0 ⟨by omega, by omega⟩ ⟨by omega, by omega⟩ (by decide) none [] 0 0 (SegK.nil (by decide) _ _) rfl (fun _ => rfl)
  have e1 : pgE21 s1_21 1 0 0 = 212 := by decide
  rw [e1] at hPN
  have o2 : Ok21 s2_21 := ok21_pg o1 1 0 []
  clear e1
  go_wp2_with fail
  refine hPN.mono ?_
  rintro e w3 ⟨rfl, hn3⟩
  obtain ⟨F3, hF3, hw3, b3⟩ := hn3.kpw hFw' b2'.size
  have b3' := b2'.trans b3
  have hER := perase21 (S := s2_21) hF3 o2 1 0 ⟨by omega, by omega⟩ ⟨by omega, by omega⟩ (by decide)
  have e2 : erE21 s2_21 1 0 = 0 := by decide
  rw [e2] at hER
  have o3 : Ok21 s3_21 := ok21_er o2 1 0
  clear e2 hPN
  go_wp2_with fail
  refine hER.mono ?_
  rintro e w4 ⟨rfl, hn4⟩
  obtain ⟨F4, hF4, hw4, b4⟩ := hn4.kpw hw3 b3'.size
  have b4' := b3'.trans b4
  have hcv : (convert 22 22 (.slice (some ⟨w4.heap.size, 0, none⟩) 1 1)).run Tryd.prog (w4.alloc (.cells #[.int .u8 120] 5)) = .ok (.slice (some ⟨w4.heap.size, 0, none⟩) 1 1) (w4.alloc (.cells #[.int .u8 120] 5 (1, 2))) := Lib.run_convert_bytes_const (P := Tryd.prog) w4 22 5 #[.int .u8 120] 1 1 Tryd.underlying22 Tryd.underlying5
  obtain ⟨w5, hw5⟩ : ∃ w5, w5 = w4.alloc (.cells #[.int .u8 120] 5 (1, 2)) := ⟨_, rfl⟩
  have HW5 : Hid (w4.alloc (.cells #[.int .u8 120] 5 (1, 2)) = w5) := hw5.symm
  have b5 : Below w4.heap.size w4 w5 := by rw [hw5]; exact (Below.refl _ _).alloc (Nat.le_refl _) _
  have b5' := b4'.trans (b5.mono b4'.size)
  have hPR := pprog21 (S := s3_21) (hF4.old b5) o3 1 0 ⟨by omega, by omega⟩ ⟨by omega, by omega⟩ (by decide) (some ⟨w4.heap.size, 0, none⟩) [120] 1 1 (by rw [hw5]; exact seg_lit21 w4 [120] _ _ (by decide)) rfl (by intro h; cases h)
  have e3 : pgE21 s3_21 1 0 1 = 0 := by decide
  rw [e3] at hPR
  have o4 : Ok21 s4_21 := ok21_pg o3 1 0 [120]
  clear e3 hER hw5
  go_wp2_with fail
  rw [HW5.out]
  clear hcv
  refine hPR.mono ?_
  rintro e w6 ⟨rfl, hn6⟩
  obtain ⟨F6, hF6, hw6, b6⟩ := hn6.kpw hw4 b5'.size
  have b6' := b5'.trans b6
  have hRD := pread21 (S := s4_21) hF6 o4 1 0 2 ⟨by omega, by omega⟩ ⟨by omega, by omega⟩ ⟨by omega, by omega⟩
  clear hPR
  go_wp2_with fail
  refine hRD.mono ?_
  rintro e w7 ⟨b7, h7⟩
  rcases h7 with ⟨h7, -⟩ | ⟨-, g, rfl, hg, X, hX⟩
  · exact absurd (show rdE21 s4_21 1 0 2 = 0 by decide) h7
  have hX' : w7.heap[g]? = some (.cells (([120, 255] ++ X).map (Value.int .u8)).toArray 5 (0, 0)) := hX
  have x0 : w7.cell? ⟨g, 0, none⟩ = some (.int .u8 120) := by simp [World.cell?, hX']
  have x1 : w7.cell? ⟨g, 1, none⟩ = some (.int .u8 255) := by simp [World.cell?, hX']
  have b7' := b6'.trans (b7.mono b6'.size)
  have hOP := pops21 (S := s4_21) (hF6.old b7) o4
  have e4 : ((s4_21.lg.length : Nat) : Int) = 2 := by decide
  rw [e4] at hOP
  clear hX hX' e4 hRD
  rw [show Int.toNat 2 = 2 from rfl]
  go_wp2_with fail
  refine hOP.mono ?_
  rintro e w8 ⟨rfl, hw8⟩
  subst w8
  go_wp2_with fail
  go_ret
  exact ⟨rfl, b7'⟩
end Go.Proofs.YtjoghmdjnkdokaaDoor
