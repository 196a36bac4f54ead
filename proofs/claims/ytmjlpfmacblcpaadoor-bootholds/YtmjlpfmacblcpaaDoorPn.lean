import Derived.Test.YtmjlpfmacblcpaaDoorPl
namespace Go.Proofs.YtmjlpfmacblcpaaDoor
open Go.RowKit Go.Shelf
set_option linter.unusedVariables false
set_option linter.unusedSimpArgs false
def ck21 (pg : Nat) (L : List Int) (y : Int) : Option Sh21 := if 0 ≤ y ∧ y.toNat * pg < L.length then some ⟨(L.drop (y.toNat * pg)).take pg, false, 0⟩ else none
def pj21 (pg : Nat) (Ls : Int → List Int) (i j : Int) (x y : Int) : Option Sh21 := if (x = 0 ∨ x = 1) ∧ (x < i ∨ x = i ∧ y < j) then ck21 pg (Ls x) y else none
def Ls21 (L0 L1 : List Int) (x : Int) : List Int := if x = 0 then L0 else L1
def nw21 (p q : Nat) (ac : Int) (L0 L1 : List Int) : Fs21 := ⟨p, q, ac, true, 0, pj21 p (Ls21 L0 L1) 2 0, 0, [], []⟩
def nj21 (p q : Nat) (ac : Int) (Ls : Int → List Int) (i j : Int) : Fs21 := ⟨p, q, ac, true, 0, pj21 p Ls i j, 0, [], []⟩
def nwE21 (p q ac : Int) (n0 n1 : Nat) : Int := if mb21 p q = false ∨ ac < 0 ∨ 2 ≤ ac then 210 else if p * q < (n0 : Int) ∨ p * q < (n1 : Int) then 210 else 0
def NwQ21 (w : World) (p q ac : Int) (L0 L1 : List Int) (e : Ending) (w' : World) : Prop := Below w.heap.size w w' ∧ ((nwE21 p q ac L0.length L1.length = 210 ∧ e = .returned (.tuple #[.pointer none, .int .i64 210])) ∨ (nwE21 p q ac L0.length L1.length = 0 ∧ ∃ b F, e = .returned (.tuple #[.pointer (some ⟨b, 0, none⟩), .int .i64 0]) ∧ Fl21 w' b F (nw21 p.toNat q.toNat ac L0 L1) ∧ (∀ k, F k → w.heap.size ≤ k)))
theorem pj21_step (pg : Nat) (Ls : Int → List Int) (i j : Nat) (hi : i = 0 ∨ i = 1) (hj : j * pg < (Ls (i : Int)).length) : up21 (pj21 pg Ls (i : Int) (j : Int)) (i : Int) (j : Int) ⟨((Ls (i : Int)).drop (j * pg)).take pg, false, 0⟩ = pj21 pg Ls (i : Int) ((j + 1 : Nat) : Int) := by
  funext x y
  unfold up21
  by_cases h : x = (i : Int) ∧ y = (j : Int)
  · obtain ⟨rfl, rfl⟩ := h
    rw [if_pos ⟨rfl, rfl⟩]
    unfold pj21
    rw [if_pos ⟨by omega, by omega⟩]
    unfold ck21
    rw [if_pos ⟨by omega, by simpa using hj⟩]
    simp
  · rw [if_neg h]
    unfold pj21
    by_cases h1 : (x = 0 ∨ x = 1) ∧ (x < (i : Int) ∨ x = (i : Int) ∧ y < (j : Int))
    · rw [if_pos h1, if_pos ⟨h1.1, by omega⟩]
    · rw [if_neg h1, if_neg (by omega)]
theorem pj21_end (pg : Nat) (Ls : Int → List Int) (i j : Nat) (hj : (Ls (i : Int)).length ≤ j * pg) : pj21 pg Ls (i : Int) (j : Int) = pj21 pg Ls ((i + 1 : Nat) : Int) 0 := by
  funext x y
  unfold pj21
  by_cases h1 : (x = 0 ∨ x = 1) ∧ (x < (i : Int) ∨ x = (i : Int) ∧ y < (j : Int))
  · rw [if_pos h1, if_pos ⟨h1.1, by omega⟩]
  · rw [if_neg h1]
    by_cases h2 : (x = 0 ∨ x = 1) ∧ (x < ((i + 1 : Nat) : Int) ∨ x = ((i + 1 : Nat) : Int) ∧ y < 0)
    · rw [if_pos h2]
      unfold ck21
      by_cases h3 : 0 ≤ y ∧ y.toNat * pg < (Ls x).length
      · exfalso
        have hx : x = (i : Int) := by omega
        subst hx
        have hy : j ≤ y.toNat := by omega
        have := Nat.mul_le_mul_right pg hy
        omega
      · rw [if_neg h3]
    · rw [if_neg h2]
theorem pj21_zero (pg : Nat) (Ls : Int → List Int) : pj21 pg Ls 0 0 = fun _ _ => none := by
  funext x y
  unfold pj21
  by_cases h : (x = 0 ∨ x = 1) ∧ (x < 0 ∨ x = 0 ∧ y < 0)
  · rw [if_pos h]
    unfold ck21
    rw [if_neg (by omega)]
  · rw [if_neg h]
def sliceLen21 : Value → Nat
  | .slice _ n _ => n
  | _ => 0
/-- What holds of New's loops: i areas and j pages are laid. -/
structure Nj21 (w : World) (g3 fb m : Nat) (p q : Nat) (ac : Int) (Ls : Int → List Int) (i j : Nat) (W : World) : Prop where
  bl : Below w.heap.size w W
  g3 : W.heap[g3]? = some (.cells #[.int .i64 (p : Int), .int .i64 (q : Int)] 45 (0, 0))
  fi : ∃ c f V, Fi21 W fb m c f none 0 none 0 V (nj21 p q ac Ls (i : Int) (j : Int)) ∧ c ≤ 4096 * i + j ∧ (∀ k, V k → w.heap.size ≤ k)
theorem Nj21.next {w W : World} {g3 fb m p q : Nat} {ac : Int} {Ls : Int → List Int} {i j : Nat} (h : Nj21 w g3 fb m p q ac Ls i j W) (hj : (Ls (i : Int)).length ≤ j * p) (hl : j ≤ 4096) : Nj21 w g3 fb m p q ac Ls (i + 1) 0 W := by
  obtain ⟨h1, h2, c, f, V, h3, h4, h5⟩ := h
  refine ⟨h1, h2, c, f, V, ?_, by omega, h5⟩
  unfold nj21 at h3 ⊢
  rw [pj21_end p Ls i j hj] at h3
  exact h3
set_option maxRecDepth 100000 in
set_option maxHeartbeats 16000000 in
theorem pnew21 {w : World} (p q ac : Int) (hp : In21 p) (hq : In21 q) (a0 a1 : Option Addr) (L0 L1 : List Int) (n0 n1 k0 k1 : Nat) (s0 : Seg w a0 L0) (s1 : Seg w a1 L1) (e0 : Hid (L0.length = n0)) (e1 : Hid (L1.length = n1)) (z0 : n0 ≤ k0) (z1 : n1 ≤ k1) :
    Calls Tryd.prog 17 #[.agg #[.int .i64 p, .int .i64 q], .int .i64 ac, .agg #[.slice a0 n0 k0, .slice a1 n1 k1]] w (NwQ21 w p q ac L0 L1) := by
  have HQ : Hid (∀ e w', NwQ21 w p q ac L0 L1 e w' = (Below w.heap.size w w' ∧ ((nwE21 p q ac n0 n1 = 210 ∧ e = .returned (.tuple #[.pointer none, .int .i64 210])) ∨ (nwE21 p q ac n0 n1 = 0 ∧ ∃ b F, e = .returned (.tuple #[.pointer (some ⟨b, 0, none⟩), .int .i64 0]) ∧ Fl21 w' b F (nw21 p.toNat q.toNat ac L0 L1) ∧ (∀ k, F k → w.heap.size ≤ k))))) := fun _ _ => by rw [← e0.out, ← e1.out]; rfl
  have HMB := pmay21 p q
  obtain ⟨w1, hw1⟩ : ∃ w1, w1 = (w.alloc (.cells #[.int .i64 p, .int .i64 q] 45)).alloc (.cells #[.slice a0 n0 k0, .slice a1 n1 k1] 46) := ⟨_, rfl⟩
  have HW : Hid ((w.alloc (.cells #[.int .i64 p, .int .i64 q] 45)).alloc (.cells #[.slice a0 n0 k0, .slice a1 n1 k1] 46) = w1) := hw1.symm
  have b1 : Below w.heap.size w w1 := by rw [hw1]; exact ((Below.refl _ _).alloc (Nat.le_refl _) _).alloc (by simp) _
  have hsz : w1.heap.size = w.heap.size + 2 := by rw [hw1]; simp
  have q3 : w1.heap[w.heap.size]? = some (.cells #[.int .i64 p, .int .i64 q] 45 (0, 0)) := by rw [hw1, heap_alloc_old _ _ (by simp)]; exact heap_alloc_new w _
  have q5 : w1.heap[w.heap.size + 1]? = some (.cells #[.slice a0 n0 k0, .slice a1 n1 k1] 46 (0, 0)) := by rw [hw1]; exact heap_alloc2_new w _ _
  obtain ⟨g3, hg3⟩ : ∃ g3, g3 = w.heap.size := ⟨_, rfl⟩
  have HG3 : Hid (w.heap.size = g3) := hg3.symm
  have HB1 : Hid (Below w.heap.size w w1 ∧ w1.heap.size = g3 + 2) := ⟨b1, by rw [hg3]; exact hsz⟩
  rw [← hg3] at q3 q5
  clear hw1 hg3 b1 hsz
  by_cases hbad : mb21 p q = false ∨ ac < 0 ∨ 2 ≤ ac
  · have hE : nwE21 p q ac n0 n1 = 210 := by unfold nwE21; rw [if_pos hbad]
    by_cases h1 : mb21 p q = false
    · rw [h1] at HMB
      go_enter Tryd.func17, Tryd.ntmps17
      go_wp2_with fail
      rw [HW.out]
      refine (HMB _).mono ?_
      rintro e w2 ⟨rfl, b2⟩
      go_wp2_with fail
      go_ret2
      rw [HQ.out, hE]
      exact ⟨HB1.out.1.trans (b2.mono HB1.out.1.size), .inl ⟨rfl, rfl⟩⟩
    · have h1' : mb21 p q = true := by simpa using h1
      rw [h1'] at HMB
      by_cases h2 : ac < 0
      · go_enter Tryd.func17, Tryd.ntmps17
        go_wp2_with fail
        rw [HW.out]
        refine (HMB _).mono ?_
        rintro e w2 ⟨rfl, b2⟩
        go_wp2_with fail
        go_ret2
        rw [HQ.out, hE]
        exact ⟨HB1.out.1.trans (b2.mono HB1.out.1.size), .inl ⟨rfl, rfl⟩⟩
      · have h3 : 2 ≤ ac := by
          rcases hbad with h | h | h
          · exact absurd h h1
          · exact absurd h h2
          · exact h
        go_enter Tryd.func17, Tryd.ntmps17
        go_wp2_with fail
        rw [HW.out]
        refine (HMB _).mono ?_
        rintro e w2 ⟨rfl, b2⟩
        go_wp2_with fail
        go_ret2
        rw [HQ.out, hE]
        exact ⟨HB1.out.1.trans (b2.mono HB1.out.1.size), .inl ⟨rfl, rfl⟩⟩
  · have h1' : mb21 p q = true := by
      cases h : mb21 p q
      · exact absurd (.inl h) hbad
      · rfl
    rw [h1'] at HMB
    have hac : 0 ≤ ac ∧ ac < 2 := by omega
    have hmb : 64 ≤ p ∧ p ≤ 4096 ∧ 1 ≤ q ∧ q ≤ 4096 := by
      simp [mb21] at h1'
      omega
    obtain ⟨P, rfl⟩ := Int.eq_ofNat_of_zero_le (show 0 ≤ p by omega)
    obtain ⟨Q, rfl⟩ := Int.eq_ofNat_of_zero_le (show 0 ≤ q by omega)
    have hPQ : P * Q ≤ 16777216 := by
      have := Nat.mul_le_mul (show P ≤ 4096 by omega) (show Q ≤ 4096 by omega)
      omega
    obtain ⟨PQ, hPQe⟩ : ∃ PQ, PQ = P * Q := ⟨_, rfl⟩
    have hmul : IntKind.i64.wrap ((P : Int) * (Q : Int)) = (PQ : Int) := by
      rw [show (P : Int) * (Q : Int) = (PQ : Int) by rw [hPQe]; simp, IntWalk.i64_in _ (by omega)]
    have HE : Hid (nwE21 (P : Int) (Q : Int) ac n0 n1 = if PQ < n0 ∨ PQ < n1 then 210 else 0) := by
      show _ = _
      unfold nwE21
      rw [if_neg hbad, show (P : Int) * (Q : Int) = (PQ : Int) by rw [hPQe]; simp]
      by_cases h : PQ < n0 ∨ PQ < n1
      · rw [if_pos h, if_pos (by omega)]
      · rw [if_neg h, if_neg (by omega)]
    have hac0 : ¬ ac < 0 := by omega
    have hac2 : ¬ 2 ≤ ac := by omega
    have HPQ : Hid (PQ = P * Q ∧ PQ ≤ 16777216 ∧ 64 ≤ P ∧ P ≤ 4096 ∧ 1 ≤ Q ∧ Q ≤ 4096) := ⟨hPQe, by omega, by omega, by omega, by omega, by omega⟩
    have q30 := two_cell0 q3
    have q31 := two_cell1 q3
    have HSS : Hid (∀ i : Nat, i < 2 → ∃ ai ni ki, (∀ W : World, (Instr.index 46 (.agg #[.slice a0 n0 k0, .slice a1 n1 k1]) (.int .i64 (i : Int))).run Tryd.prog W = .ok (.slice ai ni ki) W) ∧ (∀ W : World, Below w.heap.size w W → Seg W ai (Ls21 L0 L1 (i : Int))) ∧ (Ls21 L0 L1 (i : Int)).length = ni ∧ ni ≤ ki ∧ (i = 0 ∧ ni = n0 ∨ i = 1 ∧ ni = n1)) := fun i hi => by
      rcases (show i = 0 ∨ i = 1 by omega) with rfl | rfl
      · exact ⟨a0, n0, k0, fun W => by kernel_rfl, fun W hW => s0.old hW, e0.out, z0, .inl ⟨rfl, rfl⟩⟩
      · exact ⟨a1, n1, k1, fun W => by kernel_rfl, fun W hW => s1.old hW, e1.out, z1, .inr ⟨rfl, rfl⟩⟩
    clear h1' hbad hmb hPQ hPQe s0 s1 z0 z1 hp hq
    go_enter Tryd.func17, Tryd.ntmps17
    go_wp2_with fail
    rw [HW.out]
    (try rw [HG3.out])
    refine (HMB _).mono ?_
    rintro e w2 ⟨rfl, b2⟩
    have b2' : Below w.heap.size w w2 := HB1.out.1.trans (b2.mono HB1.out.1.size)
    have t3 := (b2.block g3 (Array.getElem?_eq_some_iff.1 q3).1).trans q3
    have t5 := (b2.block (g3 + 1) (Array.getElem?_eq_some_iff.1 q5).1).trans q5
    have t30 := two_cell0 t3
    have t31 := two_cell1 t3
    have t50 := two_cell0 t5
    have t51 := two_cell1 t5
    have HM0 := Mv21.made w2
    have bm : Below w.heap.size w (w2.alloc (.map #[] 0)) := b2'.alloc b2'.size _
    obtain ⟨m, hm⟩ : ∃ m, m = w2.heap.size := ⟨_, rfl⟩
    obtain ⟨w3, hw3⟩ : ∃ w3, w3 = (w2.alloc (.map #[] 0)).alloc (.cells #[.int .i64 (P : Int), .int .i64 (Q : Int), .int .i64 ac, .bool true, .int .i64 0, .map (some m), .int .i64 0, .slice none 0 0, .slice none 0 0] 96) := ⟨_, rfl⟩
    have HW3 : Hid ((w2.alloc (.map #[] 0)).alloc (.cells #[.int .i64 (P : Int), .int .i64 (Q : Int), .int .i64 ac, .bool true, .int .i64 0, .map (some m), .int .i64 0, .slice none 0 0, .slice none 0 0] 96) = w3) := hw3.symm
    have HMM : Hid (w2.heap.size = m) := hm.symm
    have b3 : Below w.heap.size w w3 := by rw [hw3]; exact bm.alloc bm.size _
    have hsz3 : w3.heap.size = m + 2 := by rw [hw3, hm]; simp
    have hbp : w3.heap[m + 1]? = some (.cells #[.int .i64 (P : Int), .int .i64 (Q : Int), .int .i64 ac, .bool true, .int .i64 0, .map (some m), .int .i64 0, .slice none 0 0, .slice none 0 0] 96 (0, 0)) := by rw [hw3, hm]; exact heap_alloc2_new _ _ _
    have hm3 : Mv21 w3 m 0 (fun _ _ => none) := by
      rw [hm]
      refine HM0.block ?_
      rw [hw3, heap_alloc_old _ _ (by simp)]
    have hI3 : Fi21 w3 (m + 1) m 0 (fun _ _ => none) none 0 none 0 (fun _ => False) (nj21 P Q ac (Ls21 L0 L1) 0 0) := by
      refine ⟨hbp, hm3, fun x y => .inl ⟨?_, rfl⟩, ⟨SegK.nil (by decide) _ _, .inl rfl, fun _ => rfl, by simp [nj21]⟩, World.ownsRow_nil _ _ _ _, by simp, fun e => e, fun e => e, fun _ _ e => e, fun _ e => e.elim⟩
      show pj21 P (Ls21 L0 L1) 0 0 x y = none
      rw [pj21_zero]
    have t33 : w3.heap[g3]? = some (.cells #[.int .i64 (P : Int), .int .i64 (Q : Int)] 45 (0, 0)) := by
      rw [hw3, heap_alloc_old _ _ (by simp; have := (Array.getElem?_eq_some_iff.1 t3).1; omega), heap_alloc_old _ _ (Array.getElem?_eq_some_iff.1 t3).1]; exact t3
    have HNJ : Nj21 w g3 (m + 1) m P Q ac (Ls21 L0 L1) 0 0 w3 := ⟨b3, t33, 0, _, _, hI3, by omega, fun _ e => e.elim⟩
    have t53 : w3.heap[g3 + 1]? = some (.cells #[.slice a0 n0 k0, .slice a1 n1 k1] 46 (0, 0)) := by
      rw [hw3, heap_alloc_old _ _ (by simp; have := (Array.getElem?_eq_some_iff.1 t5).1; omega), heap_alloc_old _ _ (Array.getElem?_eq_some_iff.1 t5).1]; exact t5
    have u50 := two_cell0 t53
    have u51 := two_cell1 t53
    have HZM : Hid (w.heap.size ≤ m ∧ g3 + 1 < m ∧ w.heap.size = g3) := ⟨by have := b2'.size; omega, by have := (Array.getElem?_eq_some_iff.1 t5).1; omega, HG3.out⟩
    clear HMB HM0 bm hm hw3 hsz3 hbp hm3 hI3 t33 b2 b2' b3
    have hmm := @run_makeMap Tryd.prog
    have hlt5 : g3 + 1 < w2.heap.size := (Array.getElem?_eq_some_iff.1 t5).1
    have hlt3 : g3 < w2.heap.size := by omega
    go_wp2_with fail
    (try rw [HMM.out])
    (try rw [HW3.out])
    clear hmm
    have HL0 : Hid (∀ i : Nat, i < 2 → ∃ ai ni ki, (∀ W : World, (Instr.index 46 (.agg #[.slice a0 n0 k0, .slice a1 n1 k1]) (.int .i64 (i : Int))).run Tryd.prog W = .ok (.slice ai ni ki) W) ∧ (∀ W : World, Below w.heap.size w W → Seg W ai (Ls21 L0 L1 (i : Int))) ∧ (Ls21 L0 L1 (i : Int)).length = ni ∧ ni ≤ ki ∧ (i = 0 ∧ ni = n0 ∨ i = 1 ∧ ni = n1)) := HSS.out
    clear hlt5 hlt3
    clear HSS q3 q5 q30 q31 t3 t5 t30 t31 t50 t51 t53 u50 u51 HW HB1
    go_loopw [30] (fun ti wr => ∃ i : Nat, i ≤ 2 ∧ ti = .int .i64 (i : Int) ∧ Nj21 w g3 (m + 1) m P Q ac (Ls21 L0 L1) i 0 wr ∧ (0 < i → n0 ≤ PQ) ∧ (1 < i → n1 ≤ PQ)) (fun ti _ => 2 - (intOf ti).toNat)
    case atStart => exact ⟨0, by omega, rfl, HNJ, by omega, by omega⟩
    case round =>
      obtain ⟨i, hi2, rfl, hN, hok0, hok1⟩ := hrel
      by_cases hi : i < 2
      · have hii : (i : Int) < 2 := by omega
        obtain ⟨ai, ni, ki, hidx, hseg, hlen, hcap, hwh⟩ := HL0.out i hi
        have HSEG : Hid (∀ W : World, Below w.heap.size w W → Seg W ai (Ls21 L0 L1 (i : Int))) := hseg
        have HLEN : Hid ((Ls21 L0 L1 (i : Int)).length = ni ∧ (i = 0 ∧ ni = n0 ∨ i = 1 ∧ ni = n1)) := ⟨hlen, hwh⟩
        have e30 := two_cell0 hN.g3
        have e31 := two_cell1 hN.g3
        by_cases hbig : PQ < ni
        · have hbigi : (PQ : Int) < (ni : Int) := by omega
          have hE : nwE21 (P : Int) (Q : Int) ac n0 n1 = 210 := by rw [HE.out]; rw [if_pos (by omega)]
          clear HNJ hseg hlen hwh
          go_wp2_with fail
          go_ret2
          rw [HQ.out, hE]
          exact ⟨hN.bl, .inl ⟨rfl, rfl⟩⟩
        · have hbigi : ¬ (PQ : Int) < (ni : Int) := by omega
          have HNI : Hid (ni ≤ PQ) := by show ni ≤ PQ; omega
          have HCAP : Hid (ni ≤ ki) := hcap
          have HN : Hid (Nj21 w g3 (m + 1) m P Q ac (Ls21 L0 L1) i 0 wr) := hN
          have HOK : Hid ((0 < i → n0 ≤ PQ) ∧ (1 < i → n1 ≤ PQ)) := ⟨hok0, hok1⟩
          clear HNJ hseg hlen hwh hN hok0 hok1 hcap hbig
          go_wp2_with fail
          go_loopw [10, 11] (fun tb tp wq => ∃ (j n' k' : Nat) (a' : Option Addr), tb = .slice a' n' k' ∧ tp = .int .i64 (j : Int) ∧ Nj21 w g3 (m + 1) m P Q ac (Ls21 L0 L1) i j wq ∧ Seg wq a' ((Ls21 L0 L1 (i : Int)).drop (j * P)) ∧ n' = (Ls21 L0 L1 (i : Int)).length - j * P ∧ n' ≤ k' ∧ j ≤ Q) (fun tb _ _ => sliceLen21 tb)
          case atStart => exact ⟨0, ni, ki, ai, rfl, rfl, HN.out, by simpa using HSEG.out _ HN.out.bl, by rw [HLEN.out.1]; simp, HCAP.out, by omega⟩
          case round =>
            obtain ⟨j, n', k', a', rfl, rfl, hNj, hsj, hn', hk', hjQ⟩ := hrel
            obtain ⟨c, f, V, hI, hcc, hVV⟩ := hNj.fi
            by_cases hlt : 0 < n'
            · have hlti : (0 : Int) < (n' : Int) := by omega
              have hjlt : j * P < (Ls21 L0 L1 (i : Int)).length := by omega
              have hjQ' : j < Q := by
                have h1 := HNI.out
                have h2 := HLEN.out.1
                have h3 := HPQ.out.1
                have h4 : j * P < Q * P := by rw [Nat.mul_comm Q P]; omega
                exact Nat.lt_of_mul_lt_mul_right h4
              obtain ⟨g, off, ha', hcell⟩ := hsj.at_ 0 (by simp; omega)
              subst ha'
              obtain ⟨nn, hnn⟩ : ∃ nn, nn = min n' P := ⟨_, rfl⟩
              have hmin : (if P < n' then (P : Int) else (n' : Int)) = (nn : Int) := by split <;> omega
              have hmin' : (if (P : Int) < (n' : Int) then (P : Int) else (n' : Int)) = (nn : Int) := by split <;> omega
              have hnk : (nn : Int) ≤ (k' : Int) := by omega
              have hnn' : (nn : Int) ≤ (n' : Int) := by omega
              have hn0 : (0 : Int) ≤ (nn : Int) := by omega
              obtain ⟨ch, hch⟩ : ∃ ch, ch = ((Ls21 L0 L1 (i : Int)).drop (j * P)).take P := ⟨_, rfl⟩
              have hchl : ch.length = nn := by rw [hch]; simp; omega
              have HNN : Hid (nn = min n' P ∧ ch = ((Ls21 L0 L1 (i : Int)).drop (j * P)).take P ∧ ch.length = nn) := ⟨hnn, hch, hchl⟩
              have HSJ : Hid (Seg wr (some ⟨g, off, none⟩) ((Ls21 L0 L1 (i : Int)).drop (j * P))) := hsj
              have hnP := HPQ.out
              have hnB : nn ≤ 4096 := by omega
              obtain ⟨y0, hy0⟩ : ∃ y0, y0 = wr.drew := ⟨_, rfl⟩
              have HY0 : Hid (wr.drew = y0) := hy0.symm
              have by0 : Below wr.heap.size wr y0 := by rw [hy0]; exact (Below.refl _ _).drew
              have hyz : y0.heap.size = wr.heap.size := by rw [hy0]; rfl
              have hIy := hI.old by0
              have HC := pcl21 (some ⟨g, off, none⟩) ch nn k' y0 (by rw [hch]; exact (hsj.take P).old by0) hchl (by intro h; cases h) (by omega)
              have HHC : Hid (Calls Tryd.prog 67 #[.slice (some ⟨g, off, none⟩) nn k'] y0 fun e w' => (∃ ra rc, e = .returned (.slice ra nn rc) ∧ Cl21 w' ra ch rc y0.heap.size) ∧ Below y0.heap.size y0 w') := HC
              have HI : Hid (Fi21 y0 (m + 1) m c f none 0 none 0 V (nj21 P Q ac (Ls21 L0 L1) (i : Int) (j : Int))) := hIy
              have HNJ : Hid (Nj21 w g3 (m + 1) m P Q ac (Ls21 L0 L1) i j wr) := hNj
              have HCV : Hid (c ≤ 4096 * i + j ∧ (∀ k, V k → w.heap.size ≤ k) ∧ y0.heap.size = wr.heap.size ∧ Below wr.heap.size wr y0) := ⟨hcc, hVV, hyz, by0⟩
              have d5 : Hid (y0.cell? ⟨m + 1, 5, none⟩ = some (.map (some m))) := hIy.cel (i := 5) rfl
              have e30' := two_cell0 hNj.g3
              have hjw : IntKind.i64.wrap ((j : Int) + 1) = ((j + 1 : Nat) : Int) := by rw [IntWalk.i64_in _ (by omega)]; omega
              have HN' : Hid (n' = (Ls21 L0 L1 (i : Int)).length - j * P ∧ n' ≤ k' ∧ j < Q ∧ j * P < (Ls21 L0 L1 (i : Int)).length) := ⟨hn', hk', hjQ', hjlt⟩
              have hx : In21 (i : Int) := ⟨by omega, by omega⟩
              have hy : In21 (j : Int) := ⟨by omega, by omega⟩
              clear hsj hn' hk' hjQ hjQ' hjlt hch hchl hnn hI hIy hcc hVV hNj HC by0 hyz hcell hy0 hnP
              go_wp2_with fail
              refine plain_region16 (fun Y => Y.cell? ⟨m + 1, 5, none⟩ = some (.map (some m))) 12 (by kernel_rfl) (by rw [HY0.out]; exact d5.out) (fun hHeld => ?_)
              rw [HY0.out] at hHeld ⊢
              refine wpAnyK_take (i := 0) (v := .pointer (some ⟨m + 1, 0, none⟩)) rfl (by kernel_rfl) (by kernel_rfl) (by kernel_rfl) (by kernel_rfl) (fun _ _ _ h => h) (Or.inl ⟨by rfl, fun w hSw => by go_simp⟩) hHeld ?_
              simp only [List.getElem_toArray, List.getElem_cons_zero, Act.put, List.setIfInBounds_toArray, List.set_cons_zero, List.set_cons_succ]
              refine wpAnyK_take (i := 1) (v := .pointer (some ⟨m + 1, 0, none⟩)) rfl (by kernel_rfl) (by kernel_rfl) (by kernel_rfl) (by kernel_rfl) (fun _ _ _ h => h) (Or.inl ⟨by rfl, fun w hSw => by go_simp⟩) hHeld ?_
              simp only [List.getElem_toArray, List.getElem_cons_zero, List.getElem_cons_succ, Act.put, List.setIfInBounds_toArray, List.set_cons_zero, List.set_cons_succ]
              refine wpAnyK_take (i := 2) (v := .pointer (some ⟨m + 1, 5, none⟩)) rfl (by kernel_rfl) (by kernel_rfl) (by kernel_rfl) (by kernel_rfl) (fun _ _ _ h => h) (Or.inl ⟨by rfl, fun w hSw => by go_simp⟩) hHeld ?_
              simp only [List.getElem_toArray, List.getElem_cons_zero, List.getElem_cons_succ, Act.put, List.setIfInBounds_toArray, List.set_cons_zero, List.set_cons_succ]
              refine wpAnyK_take (i := 3) (v := .map (some m)) rfl (by kernel_rfl) (by kernel_rfl) (by kernel_rfl) (by kernel_rfl) (fun _ _ _ h => h) (Or.inl ⟨by rfl, fun w hSw => by go_simp⟩) hHeld ?_
              simp only [List.getElem_toArray, List.getElem_cons_zero, List.getElem_cons_succ, Act.put, List.setIfInBounds_toArray, List.set_cons_zero, List.set_cons_succ]
              refine wpAnyK_take (i := 4) (v := .int .i64 (i : Int)) rfl (by kernel_rfl) (by kernel_rfl) (by kernel_rfl) (by kernel_rfl) (fun _ _ _ h => h) (Or.inl ⟨by rfl, fun w hSw => by go_simp⟩) hHeld ?_
              simp only [List.getElem_toArray, List.getElem_cons_zero, List.getElem_cons_succ, Act.put, List.setIfInBounds_toArray, List.set_cons_zero, List.set_cons_succ]
              refine wpAnyK_take (i := 5) (v := .int .i64 (j : Int)) rfl (by kernel_rfl) (by kernel_rfl) (by kernel_rfl) (by kernel_rfl) (fun _ _ _ h => h) (Or.inl ⟨by rfl, fun w hSw => by go_simp⟩) hHeld ?_
              simp only [List.getElem_toArray, List.getElem_cons_zero, List.getElem_cons_succ, Act.put, List.setIfInBounds_toArray, List.set_cons_zero, List.set_cons_succ]
              refine wpAnyK_take (i := 6) (v := .agg #[.int .i64 (i : Int), .int .i64 (j : Int)]) rfl (by kernel_rfl) (by kernel_rfl) (by kernel_rfl) (by kernel_rfl) (fun _ _ _ h => h) (Or.inl ⟨by rfl, fun w hSw => by go_simp⟩) hHeld ?_
              simp only [List.getElem_toArray, List.getElem_cons_zero, List.getElem_cons_succ, Act.put, List.setIfInBounds_toArray, List.set_cons_zero, List.set_cons_succ]
              refine wpAnyK_take (i := 7) (v := .slice (some ⟨g, off, none⟩) n' k') rfl (by kernel_rfl) (by kernel_rfl) (by kernel_rfl) (by kernel_rfl) (fun _ _ _ h => h) (Or.inl ⟨by rfl, fun w hSw => by go_simp⟩) hHeld ?_
              simp only [List.getElem_toArray, List.getElem_cons_zero, List.getElem_cons_succ, Act.put, List.setIfInBounds_toArray, List.set_cons_zero, List.set_cons_succ]
              refine wpAnyK_take (i := 8) (v := .int .i64 (nn : Int)) rfl (by kernel_rfl) (by kernel_rfl) (by kernel_rfl) (by kernel_rfl) (fun _ _ _ h => h) (Or.inl ⟨by rfl, fun w hSw => by go_simp⟩) hHeld ?_
              simp only [List.getElem_toArray, List.getElem_cons_zero, List.getElem_cons_succ, Act.put, List.setIfInBounds_toArray, List.set_cons_zero, List.set_cons_succ]
              refine wpAnyK_take (i := 9) (v := .slice (some ⟨g, off, none⟩) nn k') rfl (by kernel_rfl) (by kernel_rfl) (by kernel_rfl) (by kernel_rfl) (fun _ _ _ h => h) (Or.inl ⟨by rfl, fun w hSw => by go_simp⟩) hHeld ?_
              simp only [List.getElem_toArray, List.getElem_cons_zero, List.getElem_cons_succ, Act.put, List.setIfInBounds_toArray, List.set_cons_zero, List.set_cons_succ]
              refine wpAnyK_one (i := 10) (by kernel_rfl) rfl (fun K hK => ?_)
              (try simp only [List.getElem_toArray, List.getElem_cons_zero, List.getElem_cons_succ, Act.put, List.setIfInBounds_toArray, List.set_cons_zero, List.set_cons_succ])
              go_simp
              refine HHC.out.mono ?_
              rintro e w4 ⟨⟨ra, rc, rfl, hcl⟩, b4⟩
              have hI4 := HI.out.old b4
              have d54 := hI4.cel (i := 5) rfl
              have HCL : Hid (Cl21 w4 ra ch rc y0.heap.size) := hcl
              refine hK.out _ _ (fun _ => d54) (fun hHeld0 => ?_)
              have hHeld := hHeld0 (by decide)
              clear hHeld0 hK K
              (try simp only [List.getElem_toArray, List.getElem_cons_zero, List.getElem_cons_succ, Act.put, List.setIfInBounds_toArray, List.set_cons_zero, List.set_cons_succ])
              refine wpAnyK_take (i := 11) (v := .agg #[.slice ra nn rc, .bool false, .int .i64 0]) rfl (by kernel_rfl) (by kernel_rfl) (by kernel_rfl) (by kernel_rfl) (fun _ _ _ h => h) (Or.inl ⟨by rfl, fun w hSw => by go_simp⟩) hHeld ?_
              simp only [List.getElem_toArray, List.getElem_cons_zero, List.getElem_cons_succ, Act.put, List.setIfInBounds_toArray, List.set_cons_zero, List.set_cons_succ]
              obtain ⟨w5, hr5, hm5, hg5⟩ := hI4.hm.store (by have h1 := HCV.out.1; have h2 := HN'.out.2.2.1; have h3 := HPQ.out; unfold maxLen; omega) hx hy (.agg #[.slice ra nn rc, .bool false, .int .i64 0])
              have k5 : Kp (fun k => k = m) w4 w5 := Kp.grown hg5 (fun i e => by injection e with e; exact e.symm)
              refine wpAnyK_one (i := 12) (by kernel_rfl) rfl (fun K hK => ?_)
              (try simp only [List.getElem_toArray, List.getElem_cons_zero, List.getElem_cons_succ, Act.put, List.setIfInBounds_toArray, List.set_cons_zero, List.set_cons_succ])
              go_simp
              refine hK.out _ _ (fun h => absurd rfl h) (fun _ => ?_)
              clear hK K
              (try simp only [List.getElem_toArray, List.getElem_cons_zero, List.getElem_cons_succ, Act.put, List.setIfInBounds_toArray, List.set_cons_zero, List.set_cons_succ])
              refine wpAnyK_done (by kernel_rfl) ?_ _
              obtain ⟨cv1, cv2, cv3, cv4⟩ := HCV.out
              obtain ⟨q1, q2, q3, q4⟩ := HCL.out
              have hra : ∀ k, ra = some ⟨k, 0, none⟩ → wr.heap.size ≤ k ∧ k < w4.heap.size := fun k e => by
                rcases q2 with q2 | ⟨k', q2, q5, q6⟩
                · rw [q2] at e; cases e
                · rw [q2] at e; cases e; exact ⟨by omega, q6⟩
              have hwm : m < wr.heap.size := by rw [← cv3]; exact HI.out.hm.lt
              have hwb : m + 1 < wr.heap.size := by rw [← cv3]; exact HI.out.bl
              have hwr := HNJ.out.bl.size
              have hI5 := hI4.put (f' := f) k5 hm5 (V' := fun k => V k ∨ ra = some ⟨k, 0, none⟩) (s := ⟨ch, false, 0⟩) (fun k e => .inl e) ⟨ra, rc, by rw [HNN.out.2.2], q1, by rcases q2 with q2 | ⟨k', q2, _, _⟩; (exact .inl q2); (exact .inr ⟨k', q2, .inr q2⟩), q3, q4⟩ (by have h2 := HN'.out.2.2.1; have h3 := HPQ.out; show c + 1 ≤ 8200 + 0; omega) (by rintro (e | e); (exact hI4.vb e); (have := hra _ e; omega)) (by rintro (e | e); (exact hI4.vm e); (have := hra _ e; omega)) (fun k e => by simp [Value.ownBlock, nj21] at e) (by rintro k (e | e); (exact hI4.vs k e); (exact (hra k e).2))
              have hpj := pj21_step P (Ls21 L0 L1) i j (by omega) HN'.out.2.2.2
              rw [← HNN.out.2.1] at hpj
              have b5 : Below w.heap.size w w5 := ((HNJ.out.bl.trans (cv4.mono hwr)).trans (b4.mono (by omega))).trans (k5.below (fun i e => by have := HZM.out.1; omega) (by have := b4.size; omega))
              have hlt3 := (Array.getElem?_eq_some_iff.1 HNJ.out.g3).1
              have t35 : w5.heap[g3]? = some (.cells #[.int .i64 (P : Int), .int .i64 (Q : Int)] 45 (0, 0)) := by
                rw [k5.block g3 (by have := b4.size; omega) (by have := HZM.out.2.1; show ¬ g3 = m; omega), b4.block g3 (by omega), cv4.block g3 hlt3]
                exact HNJ.out.g3
              have hNext : Nj21 w g3 (m + 1) m P Q ac (Ls21 L0 L1) i (j + 1) w5 := by
                refine ⟨b5, t35, c + 1, (fun x' y' => if x' = (i : Int) ∧ y' = (j : Int) then some (.agg #[.slice ra nn rc, .bool false, .int .i64 0]) else f x' y'), fun k => V k ∨ ra = some ⟨k, 0, none⟩, ?_, by omega, ?_⟩
                · have := hI5
                  unfold nj21 at this ⊢
                  simp only at this
                  rw [hpj] at this
                  exact this
                · rintro k (e | e)
                  · exact cv2 k e
                  · have := hra k e; omega
              have HNX : Hid (Nj21 w g3 (m + 1) m P Q ac (Ls21 L0 L1) i (j + 1) w5) := hNext
              have hsw : Seg w5 (some ⟨g, off, none⟩) ((Ls21 L0 L1 (i : Int)).drop (j * P)) := by
                refine (HSJ.out.old cv4).of_cells fun g' off' i' v hi' ha' hcl' => ?_
                cases ha'
                have hgl : g < y0.heap.size := World.block_lt_of_cell? _ _ hcl'
                have hnm : g ≠ m := fun e => by
                  subst e
                  have := HI.out.hm
                  obtain ⟨D, ⟨es, ck, hh, _⟩, _⟩ := this
                  simp [World.cell?, hh] at hcl'
                rw [World.cell?_of_block (a := ⟨g, off + i', none⟩) ((k5.block g (by have := b4.size; omega) hnm).trans (b4.block g hgl))]
                exact hcl'
              have HSW : Hid (Seg w5 (some ⟨g, off, none⟩) ((Ls21 L0 L1 (i : Int)).drop (j * P))) := hsw
              clear hI5 hNext hsw t35 b5 hpj hm5 hg5 hI4 q1 q2 q3 q4 hra
              go_wp2_with fail
              obtain ⟨x1, x2, x3⟩ := HNN.out
              obtain ⟨y1, y2, y3, y4⟩ := HN'.out
              have hsm : (j + 1) * P = j * P + P := Nat.succ_mul j P
              refine ⟨⟨j + 1, n' - nn, k' - nn, _, rfl, by simp, HNX.out, ?_, by omega, by omega, by omega⟩, ?_⟩
              · by_cases hem : (Ls21 L0 L1 (i : Int)).length ≤ (j + 1) * P
                · rw [List.drop_eq_nil_of_le hem]
                  exact SegK.nil (by decide) _ _
                · have hnP : nn = P := by omega
                  rw [if_neg (by omega), hnP, hsm, ← List.drop_drop]
                  exact HSW.out.drop P
              · show n' - nn < n'
                have := HPQ.out
                omega
            · obtain rfl : n' = 0 := by omega
              have hx := hNj.next (by omega) (by have := HPQ.out; omega)
              have HX : Hid (Nj21 w g3 (m + 1) m P Q ac (Ls21 L0 L1) (i + 1) 0 wr) := hx
              have hiw : IntKind.i64.wrap ((i : Int) + 1) = ((i + 1 : Nat) : Int) := by rw [IntWalk.i64_in _ (by omega)]; omega
              clear hx hNj hI hsj hn' hk'
              go_wp2_with fail
              refine ⟨⟨i + 1, by omega, by simp, HX.out, fun _ => ?_, fun h => ?_⟩, ?_⟩
              · rcases HLEN.out.2 with ⟨h1, h2⟩ | ⟨h1, h2⟩
                · have := HNI.out; omega
                · exact HOK.out.1 (by omega)
              · rcases HLEN.out.2 with ⟨h1, h2⟩ | ⟨h1, h2⟩
                · omega
                · have := HNI.out; omega
              · simp [intOf]; omega
      · obtain rfl : i = 2 := by omega
        have hii : ¬ ((2 : Nat) : Int) < 2 := by omega
        have hok0' := hok0 (by omega)
        have hok1' := hok1 (by omega)
        have HE0 : Hid (nwE21 (P : Int) (Q : Int) ac n0 n1 = 0) := by show _ = _; rw [HE.out, if_neg (by omega)]
        clear HNJ hok0 hok1
        go_wp2_with fail
        go_ret2
        rw [HQ.out, HE0.out]
        obtain ⟨c, f, V, hI, hc, hV⟩ := hN.fi
        obtain ⟨zz1, zz2, zz3⟩ := HZM.out
        refine ⟨hN.bl, .inr ⟨rfl, m + 1, fun k => k = m + 1 ∨ k = m ∨ V k, rfl, ⟨m, c, f, none, 0, none, 0, V, ?_, .inl rfl, .inr (.inl rfl), fun k e => by simp [Value.ownBlock] at e, fun k e => .inr (.inr e), ?_⟩, ?_⟩⟩
        · exact hI
        · rintro k (e | e | e)
          · rw [e]; exact hI.bl
          · rw [e]; exact hI.hm.lt
          · exact hI.vs k e
        · rintro k (e | e | e)
          · omega
          · omega
          · exact hV k e
end Go.Proofs.YtmjlpfmacblcpaaDoor
