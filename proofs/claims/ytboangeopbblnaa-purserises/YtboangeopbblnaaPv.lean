import Derived.Test.YtboangeopbblnaaPu
namespace Go.Proofs.Ytboangeopbblnaa
open Go.RowKit
set_option linter.unusedVariables false
def putAll (w : World) (b : Nat) : Nat → List Value → World
  | _, [] => w
  | i, v :: vs => putAll (w.setCell ⟨b, i, none⟩ v) b (i + 1) vs
theorem putAll_heap (b : Nat) {T : TypeId} : ∀ (vs : List Value) (w : World) (pre old : List Value) (i : Nat), w.heap[b]? = some (.cells (pre ++ old).toArray T (0, 0)) → pre.length = i → old.length = vs.length → (putAll w b i vs).heap[b]? = some (.cells (pre ++ vs).toArray T (0, 0))
  | [], w, pre, old, i, h, _, hl => by
    have : old = [] := List.eq_nil_of_length_eq_zero hl
    subst this
    exact h
  | v :: vs, w, pre, [], i, h, hi, hl => by simp at hl
  | v :: vs, w, pre, x :: old, i, h, hi, hl => by
    have h1 : (w.setCell ⟨b, i, none⟩ v).heap[b]? = some (.cells ((pre ++ [v]) ++ old).toArray T (0, 0)) := by
      subst hi
      rw [mid_set h]
      simp
    have := putAll_heap b vs (w.setCell ⟨b, i, none⟩ v) (pre ++ [v]) old (i + 1) h1 (by simp [hi]) (by simpa using hl)
    rw [putAll, this]
    simp
theorem putAll_kp (b : Nat) : ∀ (vs : List Value) (w : World) (i : Nat), Kp (fun k => k = b) w (putAll w b i vs)
  | [], w, i => Kp.refl _ _
  | v :: vs, w, i => (Kp.set (S := fun k => k = b) (b := b) (i := i) rfl v).trans (putAll_kp b vs _ (i + 1)) (fun _ _ e => e)
section
variable {w w' : World} {b g S : Nat} {L K : List Int} {H : List Bool} {t dl dd hd : Nat} {win lim nx : Int} {last : Bool}
set_option maxRecDepth 100000 in
set_option maxHeartbeats 4000000 in
theorem pstart11 (win' lim' : Int) (h : Sw w b g S L K H t dl dd hd win lim nx last) :
    Calls Try.prog 37 #[.pointer (some ⟨b, 0, none⟩), .int .i64 win', .int .i64 lim'] w fun e w' => e = .returned (.tuple #[]) ∧ Sw w' b g S [] (List.replicate S 0) [] 0 dl dd hd win' lim' 0 false ∧ Kp (fun k => k = b ∨ k = g) w w' := by
  have CR := preset_k_o h.ring
  have HH : Hid (Sw w b g S L K H t dl dd hd win lim nx last) := h
  clear h
  go_enter Try.func37, Try.ntmps37
  go_wp2_with fail
  refine CR.mono ?_
  rintro e w1 ⟨rfl, hR, k1⟩
  have h1 := HH.out.ofO hR
  have k1' : Kp (fun k => k = b ∨ k = g) w w1 := k1
  have c0 := h1.cell 0 _ rfl
  have c1 : w1.cell? ⟨b, 1, none⟩ = some (.int .i64 0) := h1.cell 1 _ rfl
  have c2 := h1.cell 2 _ rfl
  have c3 := h1.cell 3 _ rfl
  have c4 := h1.cell 4 _ rfl
  have c5 := h1.cell 5 _ rfl
  have c6 := h1.cell 6 _ rfl
  have c7 := h1.cell 7 _ rfl
  have c8 := h1.cell 8 _ rfl
  have c9 := h1.cell 9 _ rfl
  have c10 := h1.cell 10 _ rfl
  have c11 := h1.cell 11 _ rfl
  have c12 := h1.cell 12 _ rfl
  have c13 := h1.cell 13 _ rfl
  have c14 := h1.cell 14 _ rfl
  have c15 := h1.cell 15 _ rfl
  have c16 := h1.cell 16 _ rfl
  have ff : ∀ i, w1.frozen? ⟨b, i, none⟩ = false := fun i => h1.free i
  have H1 : Hid (Sw w1 b g S [] (List.replicate S 0) H t dl dd hd win lim nx last) := h1
  have HK1 : Hid (Kp (fun k => k = b ∨ k = g) w w1) := k1'
  clear CR hR k1 h1 k1'
  go_wp2_with fail
  go_region
  obtain ⟨W3, hW3⟩ : ∃ W3, W3 = putAll w1 b 0 [.slice (some ⟨g, 0, none⟩) S S, .int .i64 0, .int .u64 0, .int .i64 0, .int .i64 0, .pointer (some ⟨dl, 0, none⟩), .pointer (some ⟨dd, 0, none⟩), .pointer (some ⟨hd, 0, none⟩), .int .i64 win', .int .i64 lim', .int .i64 0, .bool false, .int .i64 0, .int .i64 0, .int .i64 0, .int .i64 0, .int .i64 0] := ⟨_, rfl⟩
  obtain ⟨w2, hw2⟩ : ∃ w2, w2 = W3.drew := ⟨_, rfl⟩
  have HW2 : Hid ((((((((((((((((((w1.setCell ⟨b, 0, none⟩ (.slice (some ⟨g, 0, none⟩) S S)).setCell ⟨b, 1, none⟩ (.int .i64 0)).setCell ⟨b, 2, none⟩ (.int .u64 0)).setCell ⟨b, 3, none⟩ (.int .i64 0)).setCell ⟨b, 4, none⟩ (.int .i64 0)).setCell ⟨b, 5, none⟩ (.pointer (some ⟨dl, 0, none⟩))).setCell ⟨b, 6, none⟩ (.pointer (some ⟨dd, 0, none⟩))).setCell ⟨b, 7, none⟩ (.pointer (some ⟨hd, 0, none⟩))).setCell ⟨b, 8, none⟩ (.int .i64 win')).setCell ⟨b, 9, none⟩ (.int .i64 lim')).setCell ⟨b, 10, none⟩ (.int .i64 0)).setCell ⟨b, 11, none⟩ (.bool false)).setCell ⟨b, 12, none⟩ (.int .i64 0)).setCell ⟨b, 13, none⟩ (.int .i64 0)).setCell ⟨b, 14, none⟩ (.int .i64 0)).setCell ⟨b, 15, none⟩ (.int .i64 0)).setCell ⟨b, 16, none⟩ (.int .i64 0)).drew = w2) := by
    rw [hw2, hW3]
    show _ = _
    simp only [putAll, Nat.reduceAdd]
  have hp3 : W3.heap[b]? = some (.cells (([] : List Value) ++ ([.slice (some ⟨g, 0, none⟩) S S, .int .i64 0, .int .u64 0, .int .i64 0, .int .i64 0, .pointer (some ⟨dl, 0, none⟩), .pointer (some ⟨dd, 0, none⟩), .pointer (some ⟨hd, 0, none⟩), .int .i64 win', .int .i64 lim', .int .i64 0, .bool false, .int .i64 0, .int .i64 0, .int .i64 0, .int .i64 0, .int .i64 0] : List Value)).toArray 110 (0, 0)) := by
    rw [hW3]
    exact putAll_heap b [.slice (some ⟨g, 0, none⟩) S S, .int .i64 0, .int .u64 0, .int .i64 0, .int .i64 0, .pointer (some ⟨dl, 0, none⟩), .pointer (some ⟨dd, 0, none⟩), .pointer (some ⟨hd, 0, none⟩), .int .i64 win', .int .i64 lim', .int .i64 0, .bool false, .int .i64 0, .int .i64 0, .int .i64 0, .int .i64 0, .int .i64 0] w1 [] (.slice (some ⟨g, 0, none⟩) S S :: .int .i64 (([] : List Int).length : Int) :: swA H t dl dd hd win lim nx last) 0 H1.out.hp rfl rfl
  have k3 : Kp (fun k => k = b) w1 W3 := by
    rw [hW3]
    exact putAll_kp b [.slice (some ⟨g, 0, none⟩) S S, .int .i64 0, .int .u64 0, .int .i64 0, .int .i64 0, .pointer (some ⟨dl, 0, none⟩), .pointer (some ⟨dd, 0, none⟩), .pointer (some ⟨hd, 0, none⟩), .int .i64 win', .int .i64 lim', .int .i64 0, .bool false, .int .i64 0, .int .i64 0, .int .i64 0, .int .i64 0, .int .i64 0] w1 0
  have hp2 : w2.heap[b]? = some (.cells (.slice (some ⟨g, 0, none⟩) S S :: .int .i64 (([] : List Int).length : Int) :: swA [] 0 dl dd hd win' lim' 0 false).toArray 110 (0, 0)) := by
    rw [hw2]
    exact hp3
  have k2 : Kp (fun k => k = b) w1 w2 := by
    rw [hw2]
    exact k3.drew
  have h2 : Sw w2 b g S [] (List.replicate S 0) [] 0 dl dd hd win' lim' 0 false := ⟨hp2, k2.heap H1.out.hk (fun e => H1.out.ne e.symm), H1.out.rd, H1.out.ne, H1.out.bd, H1.out.s1, H1.out.s2, by simp⟩
  have HE : Hid (Sw w2 b g S [] (List.replicate S 0) [] 0 dl dd hd win' lim' 0 false ∧ Kp (fun k => k = b ∨ k = g) w w2) := ⟨h2, HK1.out.trans k2 (fun _ _ e => .inl e)⟩
  clear hw2 hW3 hp3 k3 hp2 k2 h2 c0 c1 c2 c3 c4 c5 c6 c7 c8 c9 c10 c11 c12 c13 c14 c15 c16 ff
  rw [HW2.out]
  refine bodyPost_end (results_none rfl _ _ _) rfl ?_
  exact ⟨rfl, HE.out⟩
end
end Go.Proofs.Ytboangeopbblnaa
