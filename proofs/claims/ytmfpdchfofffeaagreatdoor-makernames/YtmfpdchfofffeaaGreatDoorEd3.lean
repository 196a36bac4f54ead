import Derived.Test.YtmfpdchfofffeaaGreatDoorEd2
import Derived.Test.YtmfpdchfofffeaaGreatDoorEdK
namespace Go.Proofs.YtmfpdchfofffeaaGreatDoor
open Go.RowKit Go.Shelf
set_option linter.unusedVariables false
attribute [local go_sem] Oper.semAt_some
theorem fn16_ofP {f : FuncId} {P : Program} {c : Code} {Q : Exit → Act → World → Prop} {a : Act} {w : World} (h : c.wp P Q a w) : fn16 f P c Q a w := fn16_of (n := 0) (wpIn_wide.2 h)
theorem one_cell16 {w : World} {b : Nat} {x : Value} {t : TypeId} (h : w.heap[b]? = some (.cells #[x] t (0, 0))) : w.cell? ⟨b, 0, none⟩ = some x := by simp [World.cell?, h]
theorem one_free16 {w : World} {b i : Nat} {x : Value} {t : TypeId} (h : w.heap[b]? = some (.cells #[x] t (0, 0))) : w.frozen? ⟨b, i, none⟩ = false := by simp [World.frozen?, h]
theorem one_set16 {w : World} {b : Nat} {x : Value} {t : TypeId} (h : w.heap[b]? = some (.cells #[x] t (0, 0))) (u : Value) : (w.setCell ⟨b, 0, none⟩ u).heap[b]? = some (.cells #[u] t (0, 0)) := by
  simp [World.setCell, Array.getElem?_modify, h]
theorem below_drewN16 {B : Nat} {a b : World} (h : Below B a b) (n : Nat) : Below B a (b.drewN n) := ⟨h.os, h.tape, h.output, h.size, h.block⟩
theorem cell_far16 {w : World} {b i b' j : Nat} {v x : Value} (hc : w.cell? ⟨b', j, none⟩ = some x) (h : b' ≠ b) : (w.setCell ⟨b, i, none⟩ v).cell? ⟨b', j, none⟩ = some x := by
  rw [World.cell?_of_block (w := w) (a := ⟨b', j, none⟩) (heap_setCell_other _ _ _ _ h)]; exact hc
structure Sq16 (w : World) (f1 f2 : Nat) (x y : Int) (W : World) : Prop where
  h1 : W.heap[f1]? = some (.cells #[.int .i64 x] 3 (0, 0))
  h2 : W.heap[f2]? = some (.cells #[.int .i64 y] 3 (0, 0))
  bl : Below w.heap.size w W
theorem Sq16.kp {w W W' : World} {f1 f2 : Nat} {x y : Int} {E : Nat → Prop} (h : Sq16 w f1 f2 x y W) (hk : Kp E W W') (h1 : ¬ E f1) (h2 : ¬ E f2) (hE : ∀ k, E k → w.heap.size ≤ k) : Sq16 w f1 f2 x y W' :=
  ⟨hk.heap h.h1 h1, hk.heap h.h2 h2, h.bl.trans (hk.below hE h.bl.size)⟩
set_option maxRecDepth 100000 in
set_option maxHeartbeats 4000000 in
theorem pspan16 (a : Option Addr) (n cap : Nat) (S : List St16) (w : World) (hs : SegS w a S) (hn : Hid (S.length = n)) (hl : n ≤ 1073741824) (hok : Hid (Ok16 S n)) :
    Calls Tryz.prog 86 #[.slice a n cap] w fun e w' => e = .returned (.tuple #[.int .i64 (fi16 S n), .int .i64 (en16 S n)]) ∧ Below w.heap.size w w' := by
  refine callsIn_wide.1 (callsIn_of_fn16 (n := 5) Tryz.func86 rfl ?_)
  simp only [Tryz.ntmps86, List.size_toArray, List.length_cons, List.length_nil, Nat.reduceAdd, Nat.reduceSub, Array.replicate_succ, Array.replicate_zero, List.push_toArray, List.append_toArray, List.nil_append, List.cons_append]
  refine fn16_seq (fn16_ofP ?_)
  go_wp2
  refine fn16_seq (fn16_ofP ?_)
  go_wp2
  obtain ⟨w1, hw1⟩ : ∃ w1, w1 = (w.alloc (.cells #[.int .i64 0] 3)).alloc (.cells #[.int .i64 0] 3) := ⟨_, rfl⟩
  have b1 : Below w.heap.size w w1 := by rw [hw1]; exact (below_box16 _ _).trans ((below_box16 _ _).mono (by simp))
  have z1 : Hid (w1.heap.size = w.heap.size + 2) := by show _ = _; rw [hw1]; simp
  have q2 : w1.heap[w.heap.size + 1]? = some (.cells #[.int .i64 0] 3 (0, 0)) := by
    rw [hw1]
    have := heap_alloc_new (w.alloc (.cells #[.int .i64 0] 3)) (.cells #[.int .i64 0] 3 (0, 0))
    simpa using this
  have q1 : w1.heap[w.heap.size]? = some (.cells #[.int .i64 0] 3 (0, 0)) := by
    rw [hw1]
    exact (Below.heap_alloc (w.alloc (.cells #[.int .i64 0] 3)) _ w.heap.size (by simp)).trans (heap_alloc_new w _)
  have CW := pwalk16 a n cap w1
  rw [← hw1]
  clear hw1
  refine fn16_seq (fn16_seq (fn16_ofP ?_))
  go_wp2_with (first
    | (go_at_call 55; refine CW.mono ?_; rintro e1 w2 ⟨rfl, cb⟩; clear CW))
  obtain ⟨b12, z2, q3⟩ := cb
  obtain ⟨ob, hob⟩ : ∃ ob, ob = w1.heap.size := ⟨_, rfl⟩
  rw [← hob] at q3
  rw [← hob]
  have z1 := z1.out
  have b2 : Below w.heap.size w w2 := b1.trans (b12.mono b1.size)
  have hs2 : SegS w2 a S := hs.old b2
  have hlt := hs2.lt
  have hlt0 := hs.lt
  obtain ⟨R, hRB, hRa, HRd⟩ : ∃ R : Nat → Prop, R ob ∧ (∀ b off, a = some ⟨b, off, none⟩ → 0 < S.length → R b) ∧ Hid (∀ k, R k → k = ob ∨ (0 < S.length ∧ ∃ off, a = some ⟨k, off, none⟩)) :=
    ⟨fun k => k = ob ∨ (0 < S.length ∧ ∃ off, a = some ⟨k, off, none⟩), .inl rfl, fun b off h1 h2 => .inr ⟨h2, off, h1⟩, fun k h => h⟩
  have SQ := wk16 5 (by omega) ob a n cap S R w2 (one_cell16 q3) hs2 hn hl hok hRB hRa
  have SQ0 : Sq16 w w.heap.size (w.heap.size + 1) 0 0 w2 := ⟨(b12.block _ (by omega)).trans q1, (b12.block _ (by omega)).trans q2, b2⟩
  refine fn16_block ?_
  refine range16 (n := 5) (w := w2) Tryz.func86 (gf := 87) (lb := #[.pointer (some ⟨ob, 0, none⟩)]) ?_ ?_ ?_ SQ ?_
    (fun i E W => Sq16 w w.heap.size (w.heap.size + 1) (fi16 S i) (en16 S i) W) ?_ (fun _ _ _ => False) ?_ SQ0 ?_ ?_ ?_
  · rfl
  · intro _ _; rfl
  · intro k hk
    rcases HRd.out k hk with rfl | ⟨h1, off, h2⟩
    · omega
    · exact hlt k off h2 h1
  · intro v hv
    simp only [wl16, List.mem_map] at hv
    obtain ⟨i, _, rfl⟩ := hv
    rfl
  · intro i E E' A B hA hlo hk _ _ _
    exact hA.kp hk (fun h => by have := (hlo _ h).1; omega) (fun h => by have := (hlo _ h).1; omega) (fun k h => by have := (hlo _ h).1; omega)
  · intro _ _ _ _ _ h; exact h.elim
  · intro l i v E W hv hI hlo hEl hlr hkr
    have hi : i < n := by
      have := (List.getElem?_eq_some_iff.1 hv).1
      rwa [wl16_len] at this
    rw [wl16_get hi] at hv
    obtain rfl := Option.some.inj hv
    have hbd := ad16_le hok.out hi
    have hpl := sa16_le i (hok.out.mono (Nat.le_of_lt hi))
    have hfe := fe16_bd i (hok.out.mono (Nat.le_of_lt hi))
    have HKR : Hid (∀ k, (E k ∨ R k) → k ≠ w.heap.size ∧ k ≠ w.heap.size + 1) := by
      rintro k (h | h)
      · have := (hlo k h).1; omega
      · rcases HRd.out k h with h | ⟨h1, off, h2⟩
        · omega
        · have := hlt0 k off h2 h1; omega
    have hsk : (S.getD i z16).2.2 = sk16 S i := rfl
    have hsv : sv16 (S.getD i z16) = .agg #[.int .i64 (ad16 S i : Int), .int .i64 (cp16 S i : Int), .int .i64 (sk16 S i)] := by unfold sv16; rw [← hbd.2.2.1, ← hbd.2.2.2.1, hsk]
    rw [hsv]
    have HF : Hid (fi16 S (i + 1) = if 0 < ad16 S i then min (fi16 S i) (pl16 S i) else fi16 S i) := rfl
    have HE : Hid (en16 S (i + 1) = if 0 < ad16 S i then max (en16 S i) (pl16 S i + (ad16 S i : Int)) else en16 S i) := rfl
    obtain ⟨wA, hwA⟩ : ∃ wA, wA = W.alloc (.cells #[.int .i64 (ad16 S i : Int), .int .i64 (cp16 S i : Int), .int .i64 (sk16 S i)] 108) := ⟨_, rfl⟩
    have HWA : Hid (W.alloc (.cells #[.int .i64 (ad16 S i : Int), .int .i64 (cp16 S i : Int), .int .i64 (sk16 S i)] 108) = wA) := hwA.symm
    have tA : SpAt wA W.heap.size 0 ((ad16 S i : Int), (cp16 S i : Int), sk16 S i) := boxS hwA
    have bA : Below W.heap.size W wA := by rw [hwA]; exact below_box16 _ _
    have hIA : Sq16 w w.heap.size (w.heap.size + 1) (fi16 S i) (en16 S i) wA := hI.kp (E := fun _ => False) (Kp.of_below bA) (fun h => h) (fun h => h) (fun _ h => h.elim)
    clear hwA hsv hsk
    obtain ⟨ad, had⟩ : ∃ ad, ad = ad16 S i := ⟨_, rfl⟩
    obtain ⟨p, hp⟩ : ∃ p, p = pl16 S i := ⟨_, rfl⟩
    rw [← had, ← hp] at HF HE
    rw [← had] at HWA tA hbd
    rw [← hp] at hpl
    rw [← had, ← hp]
    obtain ⟨hb1, -⟩ := hbd
    obtain ⟨-, -, hp1, hp2⟩ := hpl
    generalize cp16 S i = cp at *
    generalize sk16 S i = sk at *
    have HZ : Hid (w2.heap.size = w.heap.size + 3) := (by omega : w2.heap.size = w.heap.size + 3)
    clear had hp z1 z2 hob q1 q2 q3 b1 b12
    gi_wp2
    rw [HWA.out]
    refine As16.mk ⟨bA.size, fun k hk _ => bA.block k hk⟩ hIA (fun W2 hk2 _ hI2 => ?_)
    have hob2 : W.heap.size ≠ l := by have := (hlo l hEl).2; omega
    have t2 : SpAt W2 W.heap.size 0 ((ad : Int), (cp : Int), sk) := tA.of_block (hk2.block _ tA.lt hob2)
    have a0 := t2.c0
    simp only at a0
    have hltb : W.heap.size < W2.heap.size := t2.lt
    have hgeb : w2.heap.size ≤ W.heap.size := hkr.size
    have HI2 : Hid (Sq16 w w.heap.size (w.heap.size + 1) (fi16 S i) (en16 S i) W2) := hI2
    have c1 := one_cell16 hI2.h1
    have c2 := one_cell16 hI2.h2
    have f1 := one_free16 (i := 0) hI2.h1
    have f2 := one_free16 (i := 0) hI2.h2
    clear hk2 tA t2 hIA hI hlr hkr hlo hEl bA HWA hI2
    by_cases h0 : 0 < ad
    · have hgt : (0 : Int) < (ad : Int) := by omega
      have hpw : IntKind.i64.wrap (p + (ad : Int)) = p + (ad : Int) := IntWalk.i64_in _ (by omega)
      gi_wp2
      generalize fi16 S i = x at *
      generalize en16 S i = y at *
      refine round_region16 (fun V => V.cell? ⟨W.heap.size, 0, none⟩ = some (.int .i64 (ad : Int)) ∧ V.cell? ⟨w.heap.size + 1, 0, none⟩ = some (.int .i64 y)) 10 (by kernel_rfl) (by kernel_rfl) ⟨a0, c2⟩ (fun hHeld => ?_)
      refine wpAnyK_take (i := 1) (v := .int .i64 p) rfl (by kernel_rfl) (by kernel_rfl) (by kernel_rfl) (by kernel_rfl) (fun _ _ _ h => nomatch h.1) (Or.inl ⟨by rfl, fun w hSw => by go_simp⟩) hHeld ?_
      simp only [List.getElem_toArray, List.getElem_cons_zero, List.getElem_cons_succ, Act.put, List.setIfInBounds_toArray, List.set_cons_zero, List.set_cons_succ]
      refine wpAnyK_take (i := 3) (v := .int .i64 y) rfl (by kernel_rfl) (by kernel_rfl) (by kernel_rfl) (by kernel_rfl) (fun _ _ _ h => nomatch h.1) (Or.inl ⟨by rfl, fun w hSw => by go_simp⟩) hHeld ?_
      simp only [List.getElem_toArray, List.getElem_cons_zero, List.getElem_cons_succ, Act.put, List.setIfInBounds_toArray, List.set_cons_zero, List.set_cons_succ]
      refine wpAnyK_take (i := 4) (v := .int .i64 p) rfl (by kernel_rfl) (by kernel_rfl) (by kernel_rfl) (by kernel_rfl) (fun _ _ _ h => nomatch h.1) (Or.inl ⟨by rfl, fun w hSw => by go_simp⟩) hHeld ?_
      simp only [List.getElem_toArray, List.getElem_cons_zero, List.getElem_cons_succ, Act.put, List.setIfInBounds_toArray, List.set_cons_zero, List.set_cons_succ]
      refine wpAnyK_take (i := 5) (v := .pointer (some ⟨W.heap.size, 0, none⟩)) rfl (by kernel_rfl) (by kernel_rfl) (by kernel_rfl) (by kernel_rfl) (fun _ _ _ h => nomatch h.1) (Or.inl ⟨by rfl, fun w hSw => by go_simp⟩) hHeld ?_
      simp only [List.getElem_toArray, List.getElem_cons_zero, List.getElem_cons_succ, Act.put, List.setIfInBounds_toArray, List.set_cons_zero, List.set_cons_succ]
      refine wpAnyK_take (i := 6) (v := .int .i64 (ad : Int)) rfl (by kernel_rfl) (by kernel_rfl) (by kernel_rfl) (by kernel_rfl) (fun _ _ _ h => nomatch h.1) (Or.inl ⟨by rfl, fun w hSw => by go_simp⟩) hHeld ?_
      simp only [List.getElem_toArray, List.getElem_cons_zero, List.getElem_cons_succ, Act.put, List.setIfInBounds_toArray, List.set_cons_zero, List.set_cons_succ]
      refine wpAnyK_take (i := 7) (v := .int .i64 (p + (ad : Int))) rfl (by kernel_rfl) (by kernel_rfl) (by kernel_rfl) (by kernel_rfl) (fun _ _ _ h => nomatch h.1) (Or.inl ⟨by rfl, fun w hSw => by go_simp⟩) hHeld ?_
      simp only [List.getElem_toArray, List.getElem_cons_zero, List.getElem_cons_succ, Act.put, List.setIfInBounds_toArray, List.set_cons_zero, List.set_cons_succ]
      refine wpAnyK_take (i := 8) (v := .int .i64 (if y < p + (ad : Int) then p + (ad : Int) else y)) rfl (by kernel_rfl) (by kernel_rfl) (by kernel_rfl) (by kernel_rfl) (fun _ _ _ h => nomatch h.1) (Or.inl ⟨by rfl, fun w hSw => by go_simp⟩) hHeld ?_
      simp only [List.getElem_toArray, List.getElem_cons_zero, List.getElem_cons_succ, Act.put, List.setIfInBounds_toArray, List.set_cons_zero, List.set_cons_succ]
      refine wpAnyK_one (i := 0) (by kernel_rfl) rfl (fun K hK => ?_)
      (try simp only [List.getElem_toArray, List.getElem_cons_zero, Act.put, List.setIfInBounds_toArray, List.set_cons_zero, List.set_cons_succ])
      go_simp
      refine hK.out _ _ (fun _ => ⟨a0, c2⟩) (fun hHeld0 => ?_)
      have hHeld := hHeld0 (by decide)
      clear hHeld0 hK K
      (try simp only [List.getElem_toArray, List.getElem_cons_zero, List.getElem_cons_succ, Act.put, List.setIfInBounds_toArray, List.set_cons_zero, List.set_cons_succ])
      refine wpAnyK_one (i := 2) (by kernel_rfl) rfl (fun K hK => ?_)
      (try simp only [List.getElem_toArray, List.getElem_cons_zero, List.getElem_cons_succ, Act.put, List.setIfInBounds_toArray, List.set_cons_zero, List.set_cons_succ])
      go_simp
      refine hK.out _ _ (fun _ => ⟨a0, c2⟩) (fun hHeld0 => ?_)
      have hHeld := hHeld0 (by decide)
      clear hHeld0 hK K
      (try simp only [List.getElem_toArray, List.getElem_cons_zero, List.getElem_cons_succ, Act.put, List.setIfInBounds_toArray, List.set_cons_zero, List.set_cons_succ])
      rw [if_pos h0] at HF HE
      have HMX : Hid (en16 S (i + 1) = if y < p + (ad : Int) then p + (ad : Int) else y) := by show _ = _; rw [HE.out]; split <;> omega
      have HMN : Hid (fi16 S (i + 1) = if p < x then p else x) := by show _ = _; rw [HF.out]; split <;> omega
      generalize (if y < p + (ad : Int) then p + (ad : Int) else y) = mx at *
      generalize (if p < x then p else x) = mn at *
      refine wpAnyK_one (i := 9) (by kernel_rfl) rfl (fun K hK => ?_)
      simp only [List.getElem_toArray, List.getElem_cons_zero, List.getElem_cons_succ, Act.put]
      go_simp
      have HSQ := HI2.out
      have e2 : (W2.drew.setCell ⟨w.heap.size, 0, none⟩ (.int .i64 mn)).heap[w.heap.size + 1]? = some (.cells #[.int .i64 y] 3 (0, 0)) := (heap_setCell_other _ _ _ _ (by show w.heap.size + 1 ≠ w.heap.size; omega)).trans HSQ.h2
      have g2 := one_cell16 e2
      have g3 := one_free16 (i := 0) e2
      have HE2 : Hid ((W2.drew.setCell ⟨w.heap.size, 0, none⟩ (.int .i64 mn)).heap[w.heap.size + 1]? = some (.cells #[.int .i64 y] 3 (0, 0))) := e2
      have hne : W.heap.size ≠ w.heap.size := by have := HZ.out; omega
      clear e2 HSQ
      refine hK.out _ _ (fun _ => ⟨cell_far16 a0 hne, g2⟩) (fun hHeld0 => ?_)
      have hHeld := hHeld0 (by decide)
      clear hHeld0 hK K
      refine wpAnyK_one (i := 10) (by kernel_rfl) rfl (fun K hK => ?_)
      simp only [List.getElem_toArray, List.getElem_cons_zero, List.getElem_cons_succ, Act.put]
      go_simp
      refine hK.out _ _ (fun h => absurd rfl h) (fun _ => ?_)
      clear hK K
      refine wpAnyK_done (by kernel_rfl) ?_ _
      refine ⟨rfl, ?_⟩
      refine ⟨?_, ?_⟩
      · show Sq16 _ _ _ _ _ _
        rw [HMN.out, HMX.out]
        have HSQ := HI2.out
        exact ⟨(heap_setCell_other _ _ _ _ (by show w.heap.size ≠ w.heap.size + 1; omega)).trans (one_set16 (w := W2.drew) HSQ.h1 _), one_set16 HE2.out _, HSQ.bl.drew.trans (((Kp.set (S := fun k => w.heap.size ≤ k) (Nat.le_refl _) _).trans (Kp.set (S := fun k => w.heap.size ≤ k) (by show _ ≤ w.heap.size + 1; omega) _) (fun _ _ h => h)).below (fun _ h => h) HSQ.bl.size)⟩
      · refine ⟨by simp, fun k hk hd => ?_⟩
        have := HKR.out k hd
        exact (heap_setCell_other _ _ _ _ this.2).trans (heap_setCell_other _ _ _ _ this.1)
    · have hgt : ¬ (0 : Int) < (ad : Int) := by omega
      rw [if_neg h0] at HF HE
      gi_wp2
      refine ⟨?_, Kr16.refl _ _⟩
      show Sq16 _ _ _ _ _ _
      rw [HF.out, HE.out]
      exact HI2.out
  · intro D E W hED hlo hI hD
    rw [wl16_len] at hI
    have c1 := one_cell16 hI.h1
    have c2 := one_cell16 hI.h2
    have HDw : Hid (w.heap.size ≤ D) := (by have := (hlo D hED).1; omega : w.heap.size ≤ D)
    have HB : Hid (Below w.heap.size w W) := hI.bl
    clear hI hlo SQ0 SQ hs2 hlt hlt0 b2 q3 b12 b1 q1 q2 z1 z2 hob
    refine fn16_ofP ?_
    go_wp2_with fail
    go_quiet (fail)
    go_wp2_with fail
    refine ⟨by simp, .inl ⟨_, _, rfl, run_takeDeferred (w := W.drewN nq) hD, ?_⟩⟩
    refine ⟨_, results_tmp2 rfl _ _ _, rfl, ?_⟩
    exact (below_drewN16 HB.out nq).trans ((Kp.put16 (S := fun k => w.heap.size ≤ k) HDw.out _).below (fun _ h => h) HB.out.size)
  · intro ch D E W _ _ h; exact h.elim
end Go.Proofs.YtmfpdchfofffeaaGreatDoor
