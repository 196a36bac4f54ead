
import Derived.Test.YtiocdhkompekpaaPgF
namespace Go.Proofs.Ytiocdhkompekpaa
open Go.RowKit Go.Shelf
set_option linter.unusedVariables false
set_option linter.unusedSimpArgs false

/-! The law's awake. -/
theorem Pn22.below {w w' : World} {v s g b N : Nat} {F : Nat → Prop} {S : Fs21} {P : Pw22} (h : Pn22 w w' v s g b F S P) (hF : ∀ k, F k → N ≤ k) (hs : N ≤ s) (hg : N ≤ g) (hN : N ≤ w.heap.size) : ∃ F', Pe22 w' v s g b F' S P ∧ (∀ k, F' k → N ≤ k) ∧ Below N w w' := by
  obtain ⟨F', h1, h2, h3⟩ := h
  refine ⟨F', h1, fun k e => ?_, h3.below (fun i e => ?_) hN⟩
  · rcases h2 k e with q | q
    · exact hF k q
    · omega
  · rcases e with e | e | e
    · exact hF i e
    · omega
    · omega
def sa22 : Fs21 := nw21 64 2 0 [] []
def pa22 : Pw22 := ⟨1, [], 0, 0, 0⟩
theorem awk22 : wrE22 sa22 pa22 (List.replicate 65 0) = 0 ∧ (wrP22 sa22 pa22 (List.replicate 65 0)).wn = 65 ∧ (wrP22 sa22 pa22 (List.replicate 65 0)).pn = 1 ∧ (wrS22 sa22 pa22 (List.replicate 65 0)).lg.length = 2 := by
  refine ⟨by decide +kernel, by decide +kernel, by decide +kernel, by decide +kernel⟩
theorem ok22_tk : ∀ (L : List Int) (S : Fs21) (P : Pw22), Ok21 S → Ok21 (tk22 S P L).1
  | [], S, P, h => h
  | c :: L, S, P, h => by
    rw [tk22]
    split
    · split
      · exact ok22_ly h _
      · exact ok22_tk L _ _ (ok22_ly h _)
    · exact ok22_tk L _ _ h
theorem ok22_wr {S : Fs21} (h : Ok21 S) (P : Pw22) (L : List Int) : Ok21 (wrS22 S P L) := by
  unfold wrS22
  split
  · exact h
  · split
    · exact h
    · exact ok22_tk L S P h
set_option maxRecDepth 100000 in
set_option maxHeartbeats 8000000 in
theorem pawk22 (w : World) : Calls Try.prog 9 #[] w fun e w' => e = .returned (.bool true) ∧ Below w.heap.size w w' := by
  have HN := pnew21 (w := w) 64 2 0 ⟨by omega, by omega⟩ ⟨by omega, by omega⟩ none none [] [] 0 0 0 0 (SegK.nil (by decide) _ _) (SegK.nil (by decide) _ _) rfl rfl (by omega) (by omega)
  have HMK : ∀ W : World, (Instr.makeSlice 26 (.int .i64 65) (.int .i64 65)).run Try.prog W = .ok (.slice (some ⟨W.heap.size, 0, none⟩) 65 65) (W.alloc (.cells ((List.replicate 65 (0 : Int)).map (Value.int .u8)).toArray 5)) := fun W => run_make22 65 (by omega) W
  go_enter Try.func9, Try.ntmps9
  go_wp2_with fail
  refine HN.mono ?_
  rintro e w2 ⟨b2, h2⟩
  rcases h2 with ⟨h2, -⟩ | ⟨-, b, F, rfl, hF, hFw⟩
  · exact absurd h2 (by decide)
  have o1 : Ok21 sa22 := ok21_new 64 2 0 _ _ (by omega) (by omega) (by omega)
  have hFl : Fl21 w2 b F sa22 := hF
  have HW := pnw22 hFl o1
  clear HN hF
  go_wp2_with fail
  refine HW.mono ?_
  rintro e w3 ⟨v, s, g, rfl, q3, b3, z1, z2, z3⟩
  have q3' : Pe22 w3 v s g b F sa22 pa22 := q3
  have b3' : Below w.heap.size w w3 := b2.trans (b3.mono b2.size)
  obtain ⟨w4, hw4⟩ : ∃ w4, w4 = w3.alloc (.cells ((List.replicate 65 (0 : Int)).map (Value.int .u8)).toArray 5) := ⟨_, rfl⟩
  have HW4 : Hid (w3.alloc (.cells ((List.replicate 65 (0 : Int)).map (Value.int .u8)).toArray 5) = w4) := hw4.symm
  have b4 : Below w3.heap.size w3 w4 := by rw [hw4]; exact (Below.refl _ _).alloc (Nat.le_refl _) _
  have hsg : Seg w4 (some ⟨w3.heap.size, 0, none⟩) (List.replicate 65 0) := by rw [hw4]; exact seg_lit21 w3 (List.replicate 65 0) _ _ (by intro z hz; rw [(List.mem_replicate.1 hz).2]; decide)
  have hlt := q3.wr.lt
  have hFs : ∀ k, F k → k < w3.heap.size := by
    obtain ⟨m, c, f, ta, tc, la, lc, V, h1, h2, h3, h4, h5, h6⟩ := q3.fl
    exact h6
  have HWR := pwr22 (q3'.old b4) o1 ⟨by decide, by decide⟩ (by decide) (by decide) (by decide) (by intro _; decide) (some ⟨w3.heap.size, 0, none⟩) (List.replicate 65 0) 65 65 hsg (by show _ = _; simp) (by omega) (by omega) (fun x off e _ => by
    cases e
    refine ⟨fun e => ?_, ?_, ?_⟩
    · have := hFs _ e; omega
    · omega
    · omega)
  obtain ⟨a1, a2, a3, a4⟩ := awk22
  have o2 := ok22_wr o1 pa22 (List.replicate 65 0)
  rw [a1] at HWR
  have b4' : Below w.heap.size w w4 := b3'.trans (b4.mono b3'.size)
  generalize wrS22 sa22 pa22 (List.replicate 65 0) = S5 at *
  generalize wrP22 sa22 pa22 (List.replicate 65 0) = P5 at *
  have HA : Hid (P5.wn = 65 ∧ P5.pn = 1 ∧ S5.lg.length = 2) := ⟨a2, a3, a4⟩
  have HZ : Hid (w.heap.size ≤ s ∧ w.heap.size ≤ g ∧ (∀ k, F k → w.heap.size ≤ k) ∧ w.heap.size ≤ w4.heap.size ∧ Below w.heap.size w w4) := ⟨by have := b2.size; omega, by have := b2.size; omega, hFw, b4'.size, b4'⟩
  clear hw4 b4 hsg a1 a2 a3 a4 HW q3 q3' b3 z1 z2 z3 hlt hFs hFw b4'
  go_wp2_with fail
  rw [← HW4.out] at HWR
  refine HWR.mono ?_
  rintro e w5 ⟨rfl, hn5⟩
  rw [HW4.out] at hn5
  obtain ⟨F5, q5, f5, b5⟩ := hn5.below HZ.out.2.2.1 HZ.out.1 HZ.out.2.1 HZ.out.2.2.2.1
  have HB5 : Hid (Below w.heap.size w w5) := HZ.out.2.2.2.2.trans b5
  have hW := pwn22 q5.wr
  have hP := ppn22 q5.wr
  have hO := pops21 q5.fl o2
  rw [HA.out.1] at hW
  rw [HA.out.2.1] at hP
  rw [HA.out.2.2] at hO
  clear hn5 q5 f5 b5
  go_wp2_with fail
  refine hW.mono ?_
  rintro e w6 ⟨rfl, hw6⟩
  subst w6
  go_wp2_with fail
  refine hP.mono ?_
  rintro e w6 ⟨rfl, hw6⟩
  subst w6
  go_wp2_with fail
  refine hO.mono ?_
  rintro e w6 ⟨rfl, hw6⟩
  subst w6
  go_wp2_with fail
  go_ret
  exact ⟨rfl, HB5.out⟩
set_option maxRecDepth 100000 in
set_option maxHeartbeats 1000000 in
theorem pnum22 (x : Int) (w : World) : Calls Try.prog 8 #[.int .i64 x] w fun e w' => e = .returned (.int .i64 x) ∧ w' = w := by
  go_enter Try.func8, Try.ntmps8
  go_wp2
  go_ret
  exact ⟨rfl, rfl⟩
end Go.Proofs.Ytiocdhkompekpaa
