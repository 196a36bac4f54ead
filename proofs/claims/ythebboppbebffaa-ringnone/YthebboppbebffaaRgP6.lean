
import Derived.Test.YthebboppbebffaaRgP5
namespace Go.Proofs.Ythebboppbebffaa
open Go.RowKit
set_option linter.unusedVariables false
set_option linter.unusedSimpArgs false
variable {w w' : World} {b g S : Nat} {F Q : Nat → Prop} {L K : List Int}

theorem own_heap6 {w : World} {base o N : Nat} {R : List Int} (hg : w.heap[o]? = some (.cells (R.map (Value.int .u8)).toArray 5 (0, 0))) (hR : R.length = N) (hb : base ≤ o) (hN : N ≤ 140737488355328) :
    w.ownsRow base 5 1 (.slice (some ⟨o, 0, none⟩) N N) N (R.map (Value.int .u8)) := by
  refine ⟨by simp [hR], .inr ⟨o, N, _, rfl, hb, hg, Nat.le_refl _, by unfold maxLen; omega, by simp [hR], ?_⟩⟩
  simp only [List.toList_toArray]
  exact List.take_of_length_le (by simp [hR])
theorem seg_heap6 {w : World} {o : Nat} {R : List Int} {t : TypeId} (hg : w.heap[o]? = some (.cells (R.map (Value.int .u8)).toArray t (0, 0))) (hb : ∀ z ∈ R, 0 ≤ z ∧ z ≤ 255) : Seg w (some ⟨o, 0, none⟩) R := by
  refine ⟨fun i hi => ⟨o, 0, rfl, ?_⟩, by decide, getD_bd (by decide) hb⟩
  rw [Nat.zero_add]
  simp [World.cell?, hg, List.getD, hi]
/-! Last. -/
set_option maxRecDepth 100000 in
theorem plast_no_k (n : Int) (h : RPk w b g S L K) (hno : n < 0 ∨ (heldN S L : Int) < n) : Calls Try.prog 19 #[.pointer (some ⟨b, 0, none⟩), .int .i64 n] w fun e w' => e = .returned (.tuple #[.slice none 0 0, .int .i64 1]) ∧ w' = w := by
  have CM := pmade h
  have CH := pheld h
  clear h
  generalize heldN S L = hN at *
  by_cases h1 : n < 0
  · clear hno
    go_enter Try.func19, Try.ntmps19
    go_wp2_with fail
    refine CM.mono ?_
    rintro e w1 ⟨rfl, rfl⟩
    go_wp2_with fail
    go_ret2
    exact ⟨rfl, rfl⟩
  · have h2 : (hN : Int) < n := by omega
    clear hno
    go_enter Try.func19, Try.ntmps19
    go_wp2_with fail
    refine CM.mono ?_
    rintro e w1 ⟨rfl, rfl⟩
    go_wp2_with fail
    refine CH.mono ?_
    rintro e w1 ⟨rfl, rfl⟩
    go_wp2_with fail
    go_ret2
    exact ⟨rfl, rfl⟩
/-- What Last has done. -/
def LastQ (w : World) (N : Nat) (R : List Int) (e : Ending) (w' : World) : Prop := e = .returned (.tuple #[.slice (some ⟨w.heap.size, 0, none⟩) N N, .int .i64 0]) ∧ w'.ownsRow w.heap.size 5 1 (.slice (some ⟨w.heap.size, 0, none⟩) N N) N (R.map (Value.int .u8)) ∧ Below w.heap.size w w'
set_option maxRecDepth 100000 in
set_option maxHeartbeats 1000000 in
theorem plast_ok_k (N : Nat) (h : RPk w b g S L K) (hl : L.length ≤ 140737488355328) (hok : N ≤ heldN S L) : Calls Try.prog 19 #[.pointer (some ⟨b, 0, none⟩), .int .i64 (N : Int)] w (LastQ w N (L.drop (L.length - N))) := by
  have CM := pmade h
  have CH := pheld h
  have e1 : heldN S L ≤ L.length := by unfold heldN; omega
  have e2 : heldN S L ≤ S := by unfold heldN; omega
  have h2 := h.s2
  have hmk := run_make6 N (by omega) w
  obtain ⟨wA, hwA⟩ : ∃ wA, wA = w.alloc (.cells ((List.replicate N (0 : Int)).map (Value.int .u8)).toArray 5) := ⟨_, rfl⟩
  rw [← hwA] at hmk
  have bA : Below w.heap.size w wA := by rw [hwA]; exact (Below.refl _ _).alloc (Nat.le_refl _) _
  have hgA : wA.heap[w.heap.size]? = some (.cells ((List.replicate N (0 : Int)).map (Value.int .u8)).toArray 5 (0, 0)) := by rw [hwA]; exact heap_new6 _ _ _
  have CF := pfill w.heap.size N N (List.replicate N 0) (h.old bA) hgA (show _ = _ by simp) (by have := h.b_lt; omega) (by have := h.g_lt; omega) hok hl (by omega)
  rw [Nat.min_self, show (L.drop (L.length - N)).take N ++ (List.replicate N (0 : Int)).drop N = L.drop (L.length - N) from by
    have hd : (List.replicate N (0 : Int)).drop N = [] := List.drop_of_length_le (by simp)
    rw [hd, List.append_nil, List.take_of_length_le (by rw [List.length_drop]; omega)]] at CF
  have HL : Hid ((L.drop (L.length - N)).length = N) := by show _ = _; rw [List.length_drop]; omega
  have HW : Hid (w.heap.size + 1 = wA.heap.size) := by show _ = _; rw [hwA]; simp
  have hN0 : ¬ (N : Int) < 0 := by omega
  have hNh : ¬ (heldN S L : Int) < (N : Int) := by omega
  have hNi : (0 : Int) ≤ (N : Int) := by omega
  have hNl : N ≤ 32768 := by omega
  clear hwA h hok e1 e2
  generalize heldN S L = hN at *
  generalize L.drop (L.length - N) = R at *
  go_enter Try.func19, Try.ntmps19
  go_wp2_with fail
  refine CM.mono ?_
  rintro e w1 ⟨rfl, rfl⟩
  go_wp2_with fail
  refine CH.mono ?_
  rintro e w1 ⟨rfl, rfl⟩
  go_wp2_with fail
  refine CF.mono ?_
  rintro e wF ⟨rfl, hgF, kF⟩
  go_wp2_with fail
  go_ret2
  exact ⟨rfl, own_heap6 hgF HL.out (Nat.le_refl _) (by omega), bA.trans (kF.below (fun i e => by omega) bA.size)⟩
/-! Reset. -/
theorem run_clear6 {w : World} (ty : TypeId) (X : List Int) (n : Nat) (hX : X.length = n) (hn : 0 < n) (hg : w.heap[g]? = some (.cells (X.map (Value.int .u8)).toArray 5 (0, 0))) :
    (Builtin.clear_ #[34] ty #[.slice (some ⟨g, 0, none⟩) n n]).run Try.prog w = .ok (.tuple #[]) (w.setRow g ((List.replicate n (0 : Int)).map (Value.int .u8)).toArray) := by
  obtain ⟨i0, hi, hz0, hz1, hz2⟩ := info_parts info_u8r
  have hv : ∀ w, (zeroValue 5).run Try.prog w = .ok (.int .u8 0) w := fun w => by simp [zeroValue, typeInfo, hi, hz0]
  have hc : ∀ j, j < n → (w.cell? ⟨g, 0 + j, none⟩).isSome = true := fun j hj => by
    rw [Nat.zero_add]
    simp [World.cell?, hg, show j < X.length by omega]
  have hf : ∀ j, j < n → w.frozen? ⟨g, 0 + j, none⟩ = false := fun j _ => two_free6 hg _
  have e1 := Lib.run_clear_slice (P := Try.prog) w 34 5 ty (.int .u8 0) Try.underlying34 hv rfl rfl g 0 n n hn hc hf
  rw [e1]
  have e2 := run_storeCells_cells (P := Try.prog) g 0 (List.replicate n (Value.int .u8 0)) 0 w (by simpa using hc) (by simpa using hf) (by intro v hv'; rw [List.eq_of_mem_replicate hv']; rfl)
  have e3 := run_storeCells_at Try.prog g 0 5 (List.replicate n (Value.int .u8 0)) 0 _ w hg (by simp [hX]) (by intro v hv'; rw [List.eq_of_mem_replicate hv']; rfl)
  rw [e2] at e3
  simp only [Result.ok.injEq, true_and] at e3
  rw [e3]
  congr 2
  have hd : List.drop n (List.map (Value.int IntKind.u8) X) = [] := List.drop_of_length_le (by simp [hX])
  simp [hd]
set_option maxRecDepth 100000 in
set_option maxHeartbeats 1000000 in
theorem preset_k (h : RPk w b g S L K) : Calls Try.prog 21 #[.pointer (some ⟨b, 0, none⟩)] w fun e w' => e = .returned (.tuple #[]) ∧ RPk w' b g S [] (List.replicate S 0) ∧ Kp (FP b g) w w' := by
  have CM := pmade h
  have c0 := h.c0
  have hne := h.ne
  have h1 := h.s1
  have h2 := h.s2
  have hcl := fun ty => run_clear6 (g := g) ty K S h.rd.len h1 h.hk
  obtain ⟨wC, hwC⟩ : ∃ wC, wC = w.setRow g ((List.replicate S (0 : Int)).map (Value.int .u8)).toArray := ⟨_, rfl⟩
  rw [← hwC] at hcl
  have kC : Kp (fun x => x = g) w wC := by rw [hwC]; exact Kp.setRow (Q := fun x => x = g) rfl _ _
  have hgC : wC.heap[g]? = some (.cells ((List.replicate S (0 : Int)).map (Value.int .u8)).toArray 5 (0, 0)) := by rw [hwC]; exact setRow_heap w g _ _ _ _ h.hk
  have hbC := kC.heap h.hp hne
  have c1C := two_cell1 hbC
  have f1C := two_free hbC 1
  have HB : Hid _ := hbC
  have HG : Hid _ := hgC
  clear hwC h hbC hgC
  go_enter Try.func21, Try.ntmps21
  go_wp2_with fail
  refine CM.mono ?_
  rintro e w1 ⟨rfl, rfl⟩
  go_wp2_with fail
  go_end0
  have k5 : Kp (fun x => x = b) wC (wC.setCell ⟨b, 1, none⟩ (.int .i64 0)) := Kp.set (S := fun x => x = b) rfl _
  refine ⟨rfl, ⟨two_set1 HB.out _, k5.heap HG.out (fun e => hne e.symm), ⟨by simp, noughts_bd6 S, by simp⟩, hne, by simp, h1, h2⟩, (kC.mono (S' := FP b g) (fun _ _ e => .inr e)).trans k5 (fun _ _ e => .inl e)⟩
end Go.Proofs.Ythebboppbebffaa
