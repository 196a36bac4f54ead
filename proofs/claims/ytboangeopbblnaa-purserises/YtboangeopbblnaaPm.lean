import Derived.Test.YtboangeopbblnaaPl
namespace Go.Proofs.Ytboangeopbblnaa
open Go.RowKit
set_option linter.unusedVariables false
variable {w w' : World} {b g S : Nat} {F Q : Nat → Prop} {L K : List Int}
theorem RPk.drew (h : RPk w b g S L K) : RPk w.drew b g S L K := ⟨h.hp, h.hk, h.rd, h.ne, h.bd, h.s1, h.s2⟩
theorem RPk.cell (h : RPk w b g S L K) (i : Nat) (hi : i < S) : w.cell? ⟨g, i, none⟩ = some (.int .u8 (K.getD i 0)) := by
  have := h.rd.len
  have hi' : i < K.length := by omega
  simp [World.cell?, h.hk, List.getD, hi']
theorem splice_getD (X : List Int) (off : Nat) (cs : List Int) (h : off + cs.length ≤ X.length) (i : Nat) :
    (splice X off cs).getD i 0 = if off ≤ i ∧ i < off + cs.length then cs.getD (i - off) 0 else X.getD i 0 := by
  unfold splice
  have hm : min off X.length = off := by omega
  by_cases h1 : i < off
  · rw [if_neg (by omega)]
    have h4 : i < X.length := by omega
    simp [List.getD, List.getElem?_append, hm, h1, h4]
  · by_cases h2 : i < off + cs.length
    · rw [if_pos (by omega)]
      have h3 : i - off < cs.length := by omega
      simp [List.getD, List.getElem?_append, hm, h1, h3]
    · rw [if_neg (by omega)]
      have h3 : ¬ i - off < cs.length := by omega
      simp [List.getD, List.getElem?_append, hm, h1, h3, List.getElem?_drop]
      congr 2
      omega
theorem splice_mem {X cs : List Int} {off : Nat} {z : Int} (h : z ∈ splice X off cs) : z ∈ X ∨ z ∈ cs := by
  unfold splice at h
  rcases List.mem_append.1 h with h | h
  · exact .inl (List.mem_of_mem_take h)
  · rcases List.mem_append.1 h with h | h
    · exact .inr h
    · exact .inl (List.mem_of_mem_drop h)
theorem Kp.setRow {Q : Nat → Prop} {g : Nat} (hg : Q g) (w : World) (cs : Array Value) : Kp Q w (w.setRow g cs) :=
  ⟨rfl, rfl, rfl, by simp [World.setRow], fun k hk hn => setRow_other w g k cs (fun e => hn (e ▸ hg))⟩
end Go.Proofs.Ytboangeopbblnaa

namespace Go.Proofs.Ytboangeopbblnaa
open Go.RowKit
set_option linter.unusedVariables false
theorem getD_app6 (A B : List Int) (i : Nat) : (A ++ B).getD i 0 = if i < A.length then A.getD i 0 else B.getD (i - A.length) 0 := by
  by_cases h : i < A.length
  · rw [if_pos h]; simp [List.getD, List.getElem?_append, h]
  · rw [if_neg h]; simp [List.getD, List.getElem?_append, h]
theorem getD_drop6 (A : List Int) (j i : Nat) : (A.drop j).getD i 0 = A.getD (j + i) 0 := by simp [List.getD, List.getElem?_drop]
theorem getD_take6 (A : List Int) (j i : Nat) (h : i < j) : (A.take j).getD i 0 = A.getD i 0 := by simp [List.getD, h]
theorem mod_far6 {S a i : Nat} (h1 : i < a) (h2 : a < i + S) : a % S ≠ i % S := by
  intro e
  have h3 := Nat.sub_mod_eq_zero_of_mod_eq e
  rw [Nat.mod_eq_of_lt (by omega)] at h3
  omega
theorem Rnd.put {S : Nat} {L K p q : List Int} {r m : Nat} (h : Rnd S L K) (hS : 1 ≤ S) (hp : ∀ z ∈ p, 0 ≤ z ∧ z ≤ 255) (hq : q = p.drop (p.length - S)) (hr : r = (L.length + p.length - q.length) % S) (hm : m = min q.length (S - r)) :
    Rnd S (L ++ p) (splice (splice K r (q.take m)) 0 (q.drop m)) := by
  have hl := h.len
  have hrS : r < S := by rw [hr]; exact Nat.mod_lt _ hS
  have hql : q.length = min p.length S := by rw [hq, List.length_drop]; omega
  have ht : (q.take m).length = m := by rw [List.length_take]; omega
  have hd : (q.drop m).length = q.length - m := by rw [List.length_drop]
  have f1 : r + (q.take m).length ≤ K.length := by omega
  have l1 : (splice K r (q.take m)).length = S := by rw [length_splice _ _ _ f1, hl]
  have f2 : 0 + (q.drop m).length ≤ (splice K r (q.take m)).length := by omega
  have hqm : ∀ z ∈ q, 0 ≤ z ∧ z ≤ 255 := fun z hz => hp z (by rw [hq] at hz; exact List.mem_of_mem_drop hz)
  refine ⟨by rw [length_splice _ _ _ f2, l1], ?_, ?_⟩
  · intro z hz
    rcases splice_mem hz with hz | hz
    · rcases splice_mem hz with hz | hz
      · exact h.bd z hz
      · exact hqm z (List.mem_of_mem_take hz)
    · exact hqm z (List.mem_of_mem_drop hz)
  · intro i h1 h2
    rw [List.length_append] at h1 h2
    rw [splice_getD _ _ _ f2, splice_getD _ _ _ f1, ht, hd]
    have hbase : L.length + p.length - q.length ≤ i ∨ i < L.length + p.length - q.length := by omega
    obtain ⟨base, hb⟩ : ∃ base, base = L.length + p.length - q.length := ⟨_, rfl⟩
    rw [← hb] at hr hbase
    rcases hbase with hi | hi
    · obtain ⟨j, rfl⟩ : ∃ j, i = base + j := ⟨i - base, by omega⟩
      have hj : j < q.length := by omega
      have hmod : (base + j) % S = (r + j) % S := by rw [hr, Nat.mod_add_mod]
      have hv : (L ++ p).getD (base + j) 0 = q.getD j 0 := by
        rw [getD_app6, if_neg (by omega), hq, getD_drop6]
        congr 1
        omega
      rw [hv, hmod]
      by_cases hjr : r + j < S
      · rw [Nat.mod_eq_of_lt hjr, if_neg (by omega), if_pos (by omega), getD_take6 _ _ _ (by omega)]
        congr 1
        omega
      · have e : (r + j) % S = r + j - S := by rw [Nat.mod_eq_sub_mod (by omega), Nat.mod_eq_of_lt (by omega)]
        rw [e, if_pos (by omega), getD_drop6]
        congr 1
        omega
    · have hv : (L ++ p).getD i 0 = L.getD i 0 := by rw [getD_app6, if_pos (by omega)]
      have hK := h.at_ i (by omega) (by omega)
      have hi' : i % S < S := Nat.mod_lt _ hS
      have hno : ∀ j, j < q.length → (r + j) % S ≠ i % S := by
        intro j hj
        have e : (r + j) % S = (base + j) % S := by rw [hr, Nat.mod_add_mod]
        rw [e]
        exact mod_far6 (by omega) (by omega)
      have n1 : ¬ (0 ≤ i % S ∧ i % S < 0 + (q.length - m)) := by
        rintro ⟨_, e⟩
        refine hno (i % S + m) (by omega) ?_
        rw [show r + (i % S + m) = i % S + S by omega, Nat.add_mod_right, Nat.mod_eq_of_lt hi']
      have n2 : ¬ (r ≤ i % S ∧ i % S < r + m) := by
        rintro ⟨e1, e2⟩
        refine hno (i % S - r) (by omega) ?_
        rw [show r + (i % S - r) = i % S by omega, Nat.mod_eq_of_lt hi']
      rw [if_neg n1, if_neg n2, hK, hv]
end Go.Proofs.Ytboangeopbblnaa

namespace Go.Proofs.Ytboangeopbblnaa
open Go.RowKit
set_option linter.unusedVariables false
set_option linter.unusedSimpArgs false
theorem two_free6 {w : World} {b : Nat} {cs : Array Value} {t : TypeId} (h : w.heap[b]? = some (.cells cs t (0, 0))) (i : Nat) : w.frozen? ⟨b, i, none⟩ = false := by simp [World.frozen?, h]
end Go.Proofs.Ytboangeopbblnaa

namespace Go.Proofs.Ytboangeopbblnaa
open Go.RowKit
set_option linter.unusedVariables false
set_option linter.unusedSimpArgs false
set_option maxRecDepth 100000
variable {w w' : World} {b g S : Nat} {F Q : Nat → Prop} {L K : List Int}
theorem run_clear6 {w : World} (ty : TypeId) (X : List Int) (n : Nat) (hX : X.length = n) (hn : 0 < n) (hg : w.heap[g]? = some (.cells (X.map (Value.int .u8)).toArray 5 (0, 0))) :
    (Builtin.clear_ #[101] ty #[.slice (some ⟨g, 0, none⟩) n n]).run Try.prog w = .ok (.tuple #[]) (w.setRow g ((List.replicate n (0 : Int)).map (Value.int .u8)).toArray) := by
  obtain ⟨i0, hi, hz0, hz1, hz2⟩ := info_parts info_u8r
  have hv : ∀ w, (zeroValue 5).run Try.prog w = .ok (.int .u8 0) w := fun w => by simp [zeroValue, typeInfo, hi, hz0]
  have hc : ∀ j, j < n → (w.cell? ⟨g, 0 + j, none⟩).isSome = true := fun j hj => by
    rw [Nat.zero_add]
    simp [World.cell?, hg, show j < X.length by omega]
  have hf : ∀ j, j < n → w.frozen? ⟨g, 0 + j, none⟩ = false := fun j _ => two_free6 hg _
  have e1 := Lib.run_clear_slice (P := Try.prog) w 101 5 ty (.int .u8 0) Try.underlying101 hv rfl rfl g 0 n n hn hc hf
  rw [e1]
  have e2 := run_storeCells_cells (P := Try.prog) g 0 (List.replicate n (Value.int .u8 0)) 0 w (by simpa using hc) (by simpa using hf) (by intro v hv'; rw [List.eq_of_mem_replicate hv']; rfl)
  have e3 := run_storeCells_at Try.prog g 0 5 (List.replicate n (Value.int .u8 0)) 0 _ w hg (by simp [hX]) (by intro v hv'; rw [List.eq_of_mem_replicate hv']; rfl)
  rw [e2] at e3
  simp only [Result.ok.injEq, true_and] at e3
  rw [e3]
  congr 2
  have hd : List.drop n (List.map (Value.int IntKind.u8) X) = [] := List.drop_of_length_le (by simp [hX])
  simp [hd]
end Go.Proofs.Ytboangeopbblnaa
