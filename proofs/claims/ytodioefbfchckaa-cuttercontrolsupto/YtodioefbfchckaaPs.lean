import Derived.Test.YtodioefbfchckaaPo
namespace Go.Proofs.Ytodioefbfchckaa
open Go.RowKit Go.Shelf
set_option linter.unusedVariables false
attribute [local go_sem] Oper.semAt_some

/-! Cut. -/
set_option maxRecDepth 100000 in
theorem pcut17_size (win : Int) (sa : Option Addr) (n sc : Nat) (da : Option Addr) (m dc : Nat) (xa : Option Addr) (k xc : Nat) (w : World) (hw : ¬ (64 ≤ win ∧ win ≤ 65536)) :
    Calls Try.prog 9 #[ev16 sa n sc da m dc xa k xc, .int .i64 win] w fun e w' => e = .returned (.tuple #[.slice none 0 0, .int .i64 170]) ∧ Below w.heap.size w w' := by
  have hb := two_boxes16 w #[.slice sa n sc, .slice da m dc, .slice xa k xc] 28 #[.int .i64 win] 3
  have C1 := pisw17 win ((w.alloc (.cells #[.slice sa n sc, .slice da m dc, .slice xa k xc] 28)).alloc (.cells #[.int .i64 win] 3))
  rw [decide_eq_false hw] at C1
  have c1 := one_cell16 hb.2.2.2
  have HB : Hid (Below w.heap.size w ((w.alloc (.cells #[.slice sa n sc, .slice da m dc, .slice xa k xc] 28)).alloc (.cells #[.int .i64 win] 3))) := hb.1
  clear hb
  unfold ev16
  go_enter Try.func9, Try.ntmps9
  go_wp2_with (first | (go_at_call 35; refine C1.mono ?_; rintro e1 w1 ⟨rfl, rfl⟩; clear C1))
  go_ret2
  exact ⟨rfl, HB.out⟩
/-- Up to edit.Check's answer. -/
structure Ch17 (w : World) (sa : Option Addr) (n sc : Nat) (da : Option Addr) (m dc : Nat) (xa : Option Addr) (k xc : Nat) (win : Int) (w2 : World) : Prop where
  bl : Below w.heap.size w w2
  qe : w2.heap[w.heap.size]? = some (.cells #[.slice sa n sc, .slice da m dc, .slice xa k xc] 28 (0, 0))
  qw : w2.heap[w.heap.size + 1]? = some (.cells #[.int .i64 win] 3 (0, 0))
theorem Ch17.next {w : World} {sa : Option Addr} {n sc : Nat} {da : Option Addr} {m dc : Nat} {xa : Option Addr} {k xc : Nat} {win : Int} {w2 w3 : World} (h : Ch17 w sa n sc da m dc xa k xc win w2) (hb : Below w2.heap.size w2 w3) : Ch17 w sa n sc da m dc xa k xc win w3 :=
  ⟨h.bl.trans (hb.mono h.bl.size), (hb.block _ (Array.getElem?_eq_some_iff.1 h.qe).1).trans h.qe, (hb.block _ (Array.getElem?_eq_some_iff.1 h.qw).1).trans h.qw⟩
set_option maxRecDepth 100000 in
set_option maxHeartbeats 8000000 in
theorem pcut17_err (win : Int) {sa : Option Addr} {n sc : Nat} {da : Option Addr} {m dc : Nat} {xa : Option Addr} {k xc : Nat} {S : List St16} {D X : List Int} (w : World) (h : Ed16 w sa n S da m D xa k X) (hw : 64 ≤ win ∧ win ≤ 65536) (he : ck16 16777216 ((m + k : Nat) : Int) S m k ≠ 0) :
    Calls Try.prog 9 #[ev16 sa n sc da m dc xa k xc, .int .i64 win] w fun e w' => e = .returned (.tuple #[.slice none 0 0, .int .i64 (ck16 16777216 ((m + k : Nat) : Int) S m k)]) ∧ Below w.heap.size w w' := by
  have hb := two_boxes16 w #[.slice sa n sc, .slice da m dc, .slice xa k xc] 28 #[.int .i64 win] 3
  obtain ⟨w2, hw2⟩ : ∃ w2, w2 = (w.alloc (.cells #[.slice sa n sc, .slice da m dc, .slice xa k xc] 28)).alloc (.cells #[.int .i64 win] 3) := ⟨_, rfl⟩
  have hc : Ch17 w sa n sc da m dc xa k xc win w2 := by rw [hw2]; exact ⟨hb.1, hb.2.2.1, hb.2.2.2⟩
  have C1 := pisw17 win ((w.alloc (.cells #[.slice sa n sc, .slice da m dc, .slice xa k xc] 28)).alloc (.cells #[.int .i64 win] 3))
  rw [decide_eq_true hw] at C1
  have c1 := one_cell16 hb.2.2.2
  have hlm := h.lm
  have hlk := h.lk
  have HC : Hid (Ch17 w sa n sc da m dc xa k xc win w2) := hc
  have HCL : Hid (∀ W, Calls Try.prog 37 #[ev16 sa n sc da m dc xa k xc] W fun e w' => e = .returned (.int .i64 ((m + k : Nat) : Int)) ∧ Below W.heap.size W w') := fun W => plen17 sa n sc da m dc xa k xc (by omega) (by omega) W
  have HCC : Hid (∀ W, Below w.heap.size w W → Calls Try.prog 36 #[ev16 sa n sc da m dc xa k xc, .int .i64 16777216, .int .i64 ((m + k : Nat) : Int)] W fun e w' => e = .returned (.int .i64 (ck16 16777216 ((m + k : Nat) : Int) S m k)) ∧ Below W.heap.size W w') := fun W hW => pchk16 _ _ (h.old hW)
  have HW2 : Hid ((w.alloc (.cells #[.slice sa n sc, .slice da m dc, .slice xa k xc] 28)).alloc (.cells #[.int .i64 win] 3) = w2) := hw2.symm
  obtain ⟨bE, hbE⟩ : ∃ bE, bE = w.heap.size := ⟨_, rfl⟩
  have HBE : Hid (w.heap.size = bE) := hbE.symm
  have HCE : Hid (∀ W, Below w2.heap.size w2 W → W.cell? ⟨bE, 0, none⟩ = some (.slice sa n sc) ∧ W.cell? ⟨bE, 1, none⟩ = some (.slice da m dc) ∧ W.cell? ⟨bE, 2, none⟩ = some (.slice xa k xc)) := fun W hW => by
    have := (hc.next hW).qe
    rw [← hbE] at this
    exact ⟨three_cell0 this, three_cell1 this, three_cell2 this⟩
  generalize ck16 16777216 ((m + k : Nat) : Int) S m k = er at *
  generalize ((m + k : Nat) : Int) = sz at *
  have hern : (er == 0) = false := by simp; exact he
  clear hb hc h hlm hlk hw2 hbE
  unfold ev16 at *
  go_enter Try.func9, Try.ntmps9
  go_wp2_with (first | (go_at_call 35; refine C1.mono ?_; rintro e1 w1 ⟨rfl, rfl⟩; clear C1))
  rw [HW2.out, HBE.out]
  clear c1
  have g0 := HCE.out w2.drew ((Below.refl _ _).drew)
  refine plain_region16 (fun V => V.cell? ⟨bE, 0, none⟩ = some (.slice sa n sc) ∧ V.cell? ⟨bE, 1, none⟩ = some (.slice da m dc) ∧ V.cell? ⟨bE, 2, none⟩ = some (.slice xa k xc)) 4 (by kernel_rfl) g0 (fun hHeld => ?_)
  refine wpAnyK_take (i := 0) (v := .agg #[.slice sa n sc, .slice da m dc, .slice xa k xc]) rfl (by kernel_rfl) (by kernel_rfl) (by kernel_rfl) (by kernel_rfl) (fun _ _ _ h => h) (Or.inl ⟨by rfl, fun w hSw => by go_simp⟩) hHeld ?_
  simp only [List.getElem_toArray, List.getElem_cons_zero, Act.put, List.setIfInBounds_toArray, List.set_cons_zero, List.set_cons_succ]
  refine wpAnyK_take (i := 1) (v := .agg #[.slice sa n sc, .slice da m dc, .slice xa k xc]) rfl (by kernel_rfl) (by kernel_rfl) (by kernel_rfl) (by kernel_rfl) (fun _ _ _ h => h) (Or.inl ⟨by rfl, fun w hSw => by go_simp⟩) hHeld ?_
  simp only [List.getElem_toArray, List.getElem_cons_zero, List.getElem_cons_succ, Act.put, List.setIfInBounds_toArray, List.set_cons_zero, List.set_cons_succ]
  refine wpAnyK_one (i := 2) (by kernel_rfl) rfl (fun K hK => ?_)
  (try simp only [List.getElem_toArray, List.getElem_cons_zero, List.getElem_cons_succ, Act.put, List.setIfInBounds_toArray, List.set_cons_zero, List.set_cons_succ])
  go_simp
  refine (HCL.out _).mono ?_
  rintro e3 w3 ⟨rfl, b3⟩
  have b3' : Below w2.heap.size w2 w3 := ((Below.refl w2.heap.size w2).drew).trans (b3.mono (Nat.le_refl _))
  refine hK.out _ _ (fun _ => HCE.out w3 b3') (fun hHeld0 => ?_)
  have hHeld := hHeld0 (by decide)
  clear hHeld0 hK K
  (try simp only [List.getElem_toArray, List.getElem_cons_zero, List.getElem_cons_succ, Act.put, List.setIfInBounds_toArray, List.set_cons_zero, List.set_cons_succ])
  refine wpAnyK_one (i := 3) (by kernel_rfl) rfl (fun K hK => ?_)
  (try simp only [List.getElem_toArray, List.getElem_cons_zero, List.getElem_cons_succ, Act.put, List.setIfInBounds_toArray, List.set_cons_zero, List.set_cons_succ])
  go_simp
  refine (HCC.out w3 (HC.out.next b3').bl).mono ?_
  rintro e4 w4 ⟨rfl, b4⟩
  have b4' : Below w2.heap.size w2 w4 := b3'.trans (b4.mono b3'.size)
  refine hK.out _ _ (fun _ => HCE.out w4 b4') (fun hHeld0 => ?_)
  have hHeld := hHeld0 (by decide)
  clear hHeld0 hK K
  (try simp only [List.getElem_toArray, List.getElem_cons_zero, List.getElem_cons_succ, Act.put, List.setIfInBounds_toArray, List.set_cons_zero, List.set_cons_succ])
  refine wpAnyK_one (i := 4) (by kernel_rfl) rfl (fun K hK => ?_)
  (try simp only [List.getElem_toArray, List.getElem_cons_zero, List.getElem_cons_succ, Act.put, List.setIfInBounds_toArray, List.set_cons_zero, List.set_cons_succ])
  go_simp
  refine hK.out _ _ (fun h => absurd rfl h) (fun _ => ?_)
  clear hK K
  refine wpAnyK_done (by kernel_rfl) ?_ _
  go_wp2
  go_ret2
  exact ⟨rfl, (HC.out.next b4').bl⟩
end Go.Proofs.Ytodioefbfchckaa
