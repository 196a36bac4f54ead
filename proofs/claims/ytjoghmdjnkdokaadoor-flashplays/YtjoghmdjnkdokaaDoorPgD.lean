
import Derived.Test.YtjoghmdjnkdokaaDoorPgC
namespace Go.Proofs.YtjoghmdjnkdokaaDoor
open Go.RowKit Go.Shelf
set_option linter.unusedVariables false
set_option linter.unusedSimpArgs false

/-! The landed page: take. -/
/-- Bytes one by one. -/
def tk22 : Fs21 → Pw22 → List Int → Fs21 × Pw22 × Int
  | S, P, [] => (S, P, 0)
  | S, P, c :: L =>
    if (P.bf ++ [c]).length = S.pg then
      if lyE22 S { P with bf := P.bf ++ [c] } ≠ 0 then (lyS22 S { P with bf := P.bf ++ [c] }, lyP22 S { P with bf := P.bf ++ [c] }, lyE22 S { P with bf := P.bf ++ [c] })
      else tk22 (lyS22 S { P with bf := P.bf ++ [c] }) (lyP22 S { P with bf := P.bf ++ [c] }) L
    else tk22 S { P with bf := P.bf ++ [c] } L
theorem tk22_some (S : Fs21) : ∀ (cs : List Int) (P : Pw22) (L : List Int), P.bf.length + cs.length < S.pg → tk22 S P (cs ++ L) = tk22 S { P with bf := P.bf ++ cs } L
  | [], P, L, _ => by simp
  | c :: cs, P, L, h => by
    have h1 : ¬ (P.bf ++ [c]).length = S.pg := by simp at h ⊢; omega
    rw [List.cons_append, tk22, if_neg h1, tk22_some S cs { P with bf := P.bf ++ [c] } L (by simp at h ⊢; omega)]
    simp
theorem tk22_full (S : Fs21) : ∀ (cs : List Int) (P : Pw22) (L : List Int), P.bf.length + cs.length = S.pg → 0 < cs.length →
    tk22 S P (cs ++ L) = if lyE22 S { P with bf := P.bf ++ cs } ≠ 0 then (lyS22 S { P with bf := P.bf ++ cs }, lyP22 S { P with bf := P.bf ++ cs }, lyE22 S { P with bf := P.bf ++ cs }) else tk22 (lyS22 S { P with bf := P.bf ++ cs }) (lyP22 S { P with bf := P.bf ++ cs }) L
  | [], P, L, _, h => by simp at h
  | [c], P, L, h, _ => by
    have h1 : (P.bf ++ [c]).length = S.pg := by simp at h ⊢; omega
    rw [List.cons_append, tk22, if_pos h1]
    rfl
  | c :: d :: cs, P, L, h, _ => by
    have h1 : ¬ (P.bf ++ [c]).length = S.pg := by simp at h ⊢; omega
    rw [List.cons_append, tk22, if_neg h1, tk22_full S (d :: cs) { P with bf := P.bf ++ [c] } L (by simp at h ⊢; omega) (by simp)]
    simp
def tkE22 (S : Fs21) (P : Pw22) (L : List Int) : Int := (tk22 S P L).2.2
def tkS22 (S : Fs21) (P : Pw22) (L : List Int) : Fs21 := (tk22 S P L).1
def tkP22 (S : Fs21) (P : Pw22) (L : List Int) : Pw22 := if (tk22 S P L).2.2 = 0 then { (tk22 S P L).2.1 with wn := (tk22 S P L).2.1.wn + L.length } else (tk22 S P L).2.1
section
variable {w w' : World} {v s g b pg : Nat} {F : Nat → Prop} {S : Fs21} {P P' : Pw22}
theorem Wr22.copy (h : Wr22 w v s g b pg P) {Y cs : List Int} (hY : w.heap[g]? = some (.cells ((P.bf ++ Y).map (Value.int .u8)).toArray 5 (0, 0))) (hl : P.bf.length + Y.length = pg) (hb : ∀ y ∈ P.bf ++ Y, 0 ≤ y ∧ y ≤ 255) (hc : ∀ y ∈ cs, 0 ≤ y ∧ y ≤ 255) (hn : P.bf.length + cs.length ≤ pg)
    (k5 : Kp (fun k => k = g) w w') (h5 : w'.heap[g]? = some (.cells ((sp21 (P.bf ++ Y) P.bf.length cs).map (Value.int .u8)).toArray 5 (0, 0))) (m : Nat) (hm : P.bf.length + cs.length = m) :
    Wr22 (w'.setCell ⟨s, 3, none⟩ (.int .i64 (m : Int))) v s g b pg { P with bf := P.bf ++ cs } := by
  have h1 := h.lt
  have e1 : w'.heap[v]? = w.heap[v]? := k5.block v h1.1 h.ne_vg
  have e2 : w'.heap[s]? = w.heap[s]? := k5.block s h1.2.1 h.ne_sg
  refine ⟨(set_other22 w' _ h.ne_vs).trans (e1.trans h.hv), ?_, Y.drop cs.length, ?_, ?_, ?_⟩
  · have := (seven_set22 (e2.trans h.hs) (.int .i64 (m : Int))).1
    rw [this]
    simp [← hm]
  · rw [set_other22 w' _ h.ne_sg.symm, h5, sp21_at P.bf Y cs _ rfl]
  · simp; omega
  · intro y hy
    simp at hy
    rcases hy with hy | hy | hy
    · exact hb y (by simp [hy])
    · exact hc y hy
    · exact hb y (List.mem_append_right _ (List.mem_of_mem_drop hy))
end
/-- What holds of take's loop behind k bytes. -/
structure Ti22 (w wr : World) (v s g b : Nat) (F : Nat → Prop) (S : Fs21) (P : Pw22) (L : List Int) (k : Nat) (F' : Nat → Prop) (S' : Fs21) (P' : Pw22) : Prop where
  pe : Pe22 wr v s g b F' S' P'
  fr : ∀ x, F' x → F x ∨ w.heap.size ≤ x
  kp : Kp (fun x => F x ∨ x = s ∨ x = g) w wr
  ok : Ok21 S'
  pg : S'.pg = S.pg
  tk : tk22 S P L = tk22 S' P' (L.drop k)
  lt : P'.bf.length < S'.pg
  ar : P'.ar = P.ar
  wn : P'.wn = P.wn
  pn : P'.pn ≤ P.pn + k
  lg : S'.lg.length ≤ S.lg.length + 2 * k
section
variable {w wr w2 : World} {v s g b : Nat} {F F' F2 : Nat → Prop} {S S' : Fs21} {P P' : Pw22} {L : List Int} {k : Nat}
theorem Ti22.some (h : Ti22 w wr v s g b F S P L k F' S' P') {nn : Nat} (hk : k + nn = L.length) (hn : P'.bf.length + nn < S'.pg) (hp : Pn22 wr w2 v s g b F' S' { P' with bf := P'.bf ++ (L.drop k).take nn }) :
    ∃ F2, Ti22 w w2 v s g b F S P L (k + nn) F2 S' { P' with bf := P'.bf ++ (L.drop k).take nn } := by
  obtain ⟨F2, h1, h2, h3⟩ := Pn22.cons h.fr h.kp hp
  have hl : ((L.drop k).take nn).length = nn := by simp; omega
  refine ⟨F2, h1, h2, h3, h.ok, h.pg, ?_, ?_, h.ar, h.wn, Nat.le_trans h.pn (by omega), Nat.le_trans h.lg (by omega)⟩
  · rw [h.tk, ← List.drop_drop]
    have := tk22_some S' ((L.drop k).take nn) P' ((L.drop k).drop nn) (by omega)
    rw [List.take_append_drop] at this
    exact this
  · simp only [List.length_append]; omega
theorem Ti22.full (h : Ti22 w wr v s g b F S P L k F' S' P') {nn : Nat} (hk : k + nn ≤ L.length) (h0 : 0 < nn) (hn : P'.bf.length + nn = S'.pg) (hE : lyE22 S' { P' with bf := P'.bf ++ (L.drop k).take nn } = 0)
    (hp : Pn22 wr w2 v s g b F' (lyS22 S' { P' with bf := P'.bf ++ (L.drop k).take nn }) (lyP22 S' { P' with bf := P'.bf ++ (L.drop k).take nn })) :
    ∃ F2, Ti22 w w2 v s g b F S P L (k + nn) F2 (lyS22 S' { P' with bf := P'.bf ++ (L.drop k).take nn }) (lyP22 S' { P' with bf := P'.bf ++ (L.drop k).take nn }) := by
  obtain ⟨F2, h1, h2, h3⟩ := Pn22.cons h.fr h.kp hp
  have hl : ((L.drop k).take nn).length = nn := by simp; omega
  have hy := lyS22_pg S' { P' with bf := P'.bf ++ (L.drop k).take nn }
  have hpg := h.ok.pg
  have hP : lyP22 S' { P' with bf := P'.bf ++ (L.drop k).take nn } = { P' with pn := P'.pn + 1, bf := [] } := by
    unfold lyP22; rw [if_neg (by rw [hE]; simp)]
  refine ⟨F2, h1, h2, h3, ok22_ly h.ok _, hy.1.trans h.pg, ?_, ?_, ?_, ?_, ?_, ?_⟩
  · rw [h.tk, ← List.drop_drop]
    have := tk22_full S' ((L.drop k).take nn) P' ((L.drop k).drop nn) (by omega) (by omega)
    rw [List.take_append_drop, if_neg (by rw [hE]; simp)] at this
    exact this
  · rw [hP, hy.1]; simp; omega
  · rw [hP]; exact h.ar
  · rw [hP]; exact h.wn
  · rw [hP]; have := h.pn; show P'.pn + 1 ≤ _; omega
  · have := h.lg; omega
theorem Ti22.no (h : Ti22 w wr v s g b F S P L k F' S' P') {nn : Nat} (hk : k + nn ≤ L.length) (h0 : 0 < nn) (hn : P'.bf.length + nn = S'.pg) (hE : lyE22 S' { P' with bf := P'.bf ++ (L.drop k).take nn } ≠ 0)
    (hp : Pn22 wr w2 v s g b F' (lyS22 S' { P' with bf := P'.bf ++ (L.drop k).take nn }) (lyP22 S' { P' with bf := P'.bf ++ (L.drop k).take nn })) :
    tkE22 S P L = lyE22 S' { P' with bf := P'.bf ++ (L.drop k).take nn } ∧ Pn22 w w2 v s g b F (tkS22 S P L) (tkP22 S P L) := by
  have hl : ((L.drop k).take nn).length = nn := by simp; omega
  have := tk22_full S' ((L.drop k).take nn) P' ((L.drop k).drop nn) (by omega) (by omega)
  rw [List.take_append_drop, if_pos hE, ← h.tk] at this
  unfold tkE22 tkS22 tkP22
  rw [this]
  refine ⟨rfl, ?_⟩
  rw [if_neg hE]
  exact Pn22.cons h.fr h.kp hp
theorem Ti22.fin (h : Ti22 w wr v s g b F S P L L.length F' S' P') (hp : Pn22 wr w2 v s g b F' S' { P' with wn := P.wn + L.length }) :
    tkE22 S P L = 0 ∧ Pn22 w w2 v s g b F (tkS22 S P L) (tkP22 S P L) := by
  have := h.tk
  rw [List.drop_eq_nil_of_le (Nat.le_refl _)] at this
  unfold tkE22 tkS22 tkP22
  rw [this, tk22]
  refine ⟨rfl, ?_⟩
  rw [if_pos rfl]
  have e := Pn22.cons h.fr h.kp hp
  rw [← h.wn] at e
  exact e
end
end Go.Proofs.YtjoghmdjnkdokaaDoor
