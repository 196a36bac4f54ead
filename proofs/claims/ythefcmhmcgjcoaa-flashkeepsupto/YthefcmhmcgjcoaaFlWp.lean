
import Derived.Test.YthefcmhmcgjcoaaFlV
import Derived.Test.YthefcmhmcgjcoaaFlQ
import Derived.Test.YthefcmhmcgjcoaaOpenFl
import Derived.Deep.WholeRow
namespace Go.Proofs.Ythefcmhmcgjcoaa
open Go.RowKit Go.Shelf Go.Deep
set_option linter.unusedVariables false
set_option linter.unusedSimpArgs false
set_option maxRecDepth 1000000

/-! FlashWears: mathematics. -/
def ec21 (L : List (Int × Int × Int)) (x y : Int) : Nat := L.countP (fun o => decide (o = (1, x, y)))
theorem ec21_app (L : List (Int × Int × Int)) (o : Int × Int × Int) (x y : Int) : ec21 (L ++ [o]) x y = ec21 L x y + (if o = (1, x, y) then 1 else 0) := by
  unfold ec21
  rw [List.countP_append, List.countP_singleton]
  simp
theorem ec21_le (L : List (Int × Int × Int)) (x y : Int) : ec21 L x y ≤ L.length := List.countP_le_length
def Or21 (ps : Nat) (o : Int × Int × Int) : Prop := 0 ≤ o.2.1 ∧ o.2.1 ≤ 2 ∧ 0 ≤ o.2.2 ∧ o.2.2 < pn21 ps o.2.1
structure Wi21 (lim : Int) (S : Fs21) : Prop where
  lm : S.lm = lim
  wr : ∀ x y, (sh21 S x y).wr = (ec21 S.lg x y : Int) ∧ (sh21 S x y).wr ≤ lim
  lg : ∀ o ∈ S.lg, Or21 S.ps o
theorem ms21_or {ps : Nat} {x y : Int} (h : ms21 ps x y = 0) (kd : Int) : Or21 ps (kd, x, y) := by
  unfold ms21 at h
  by_cases h1 : y < 0 ∨ pn21 ps x ≤ y
  · rw [if_pos h1] at h; omega
  · refine ⟨?_, ?_, by show 0 ≤ y; omega, by show y < pn21 ps x; omega⟩
    · show 0 ≤ x
      by_cases h2 : x < 0
      · have : pn21 ps x = 0 := by simp [pn21, h2]
        omega
      · omega
    · show x ≤ 2
      by_cases h2 : 2 < x
      · have : pn21 ps x = 0 := by simp [pn21, h2]
        omega
      · omega
theorem sh21_rn (S : Fs21) (kd x y : Int) (nn : Sh21) (x' y' : Int) : (sh21 (rn21 S kd x y nn) x' y').wr = if x' = x ∧ y' = y then nn.wr else (sh21 S x' y').wr := by
  unfold rn21
  split
  · unfold cu21 sh21 up21
    by_cases h : x' = x ∧ y' = y
    · simp only [if_pos h, Option.getD_some]
    · simp only [if_neg h]
  · unfold go21 sh21 up21
    by_cases h : x' = x ∧ y' = y
    · simp only [if_pos h, Option.getD_some]
    · simp only [if_neg h]
theorem rn21_lg (S : Fs21) (kd x y : Int) (nn : Sh21) : (rn21 S kd x y nn).lg = S.lg ++ [(kd, x, y)] ∧ (rn21 S kd x y nn).lm = S.lm ∧ (rn21 S kd x y nn).ps = S.ps ∧ (rn21 S kd x y nn).pg = S.pg := by
  unfold rn21
  split <;> exact ⟨rfl, rfl, rfl, rfl⟩
theorem Wi21.rn {lim : Int} {S : Fs21} (h : Wi21 lim S) (kd x y : Int) (nn : Sh21) (hm : ms21 S.ps x y = 0) (hk : kd = 1 ∧ nn.wr = (sh21 S x y).wr + 1 ∧ nn.wr ≤ lim ∨ kd ≠ 1 ∧ nn.wr = (sh21 S x y).wr) : Wi21 lim (rn21 S kd x y nn) := by
  obtain ⟨e1, e2, e3, e4⟩ := rn21_lg S kd x y nn
  refine ⟨by rw [e2]; exact h.lm, fun x' y' => ?_, ?_⟩
  · rw [sh21_rn, e1, ec21_app]
    have h0 := h.wr x' y'
    by_cases hx : x' = x ∧ y' = y
    · obtain ⟨rfl, rfl⟩ := hx
      rw [if_pos ⟨rfl, rfl⟩]
      rcases hk with ⟨rfl, h2, h3⟩ | ⟨h2, h3⟩
      · rw [if_pos rfl]; omega
      · rw [if_neg (by simp [h2])]; omega
    · rw [if_neg hx, if_neg (by simp; omega)]
      simpa using h0
  · rw [e1, e3]
    intro o ho
    rcases List.mem_append.1 ho with ho | ho
    · exact h.lg o ho
    · simp only [List.mem_singleton] at ho
      subst ho
      exact ms21_or hm kd
theorem rf21_ms {on : Bool} {ps : Nat} {x y : Int} (h : ¬ rf21 on ps x y ≠ 0) : ms21 ps x y = 0 := by
  unfold rf21 at h
  cases on
  · simp at h
  · simpa using h
theorem Wi21.er {lim : Int} {S : Fs21} (h : Wi21 lim S) (hl : 0 < lim) (x y : Int) : Wi21 lim (erS21 S x y) := by
  unfold erS21
  split
  · exact h
  · rename_i h1
    split
    · exact h
    · rename_i h2
      refine h.rn 1 x y _ (rf21_ms h1) (.inl ⟨rfl, rfl, ?_⟩)
      have h3 : ¬ S.lm ≤ (sh21 S x y).wr := fun e => h2 (by
        have : 0 < S.lm := by rw [h.lm]; exact hl
        simp [wo21, e, this])
      have h4 := h.lm
      show (sh21 S x y).wr + 1 ≤ lim
      omega
theorem Wi21.pg {lim : Int} {S : Fs21} (h : Wi21 lim S) (x y : Int) (L : List Int) : Wi21 lim (pgS21 S x y L) := by
  unfold pgS21
  split
  · exact h
  · rename_i h1
    split
    · exact h
    · split
      · exact h
      · exact h.rn 2 x y _ (rf21_ms h1) (.inr ⟨by decide, rfl⟩)
theorem Wi21.cu {lim : Int} {S : Fs21} (h : Wi21 lim S) (n : Int) (L : List Int) : Wi21 lim (cuS21 S n L) := by
  unfold cuS21
  split
  · exact h
  · split
    · exact h
    · exact ⟨h.lm, h.wr, h.lg⟩
theorem Wi21.po {lim : Int} {S : Fs21} (h : Wi21 lim S) : Wi21 lim { S with on := true } := ⟨h.lm, h.wr, h.lg⟩
theorem er21_worn {lim : Int} {S : Fs21} (h : Wi21 lim S) (hl : lim ≤ 1099511627776) (x y : Int) (he : erE21 S x y = 214) : weV21 S x y = lim ∧ ms21 S.ps x y = 0 := by
  unfold erE21 at he
  by_cases h1 : rf21 S.on S.ps x y ≠ 0
  · rw [if_pos h1] at he
    exfalso
    unfold rf21 ms21 at he
    split at he
    · split at he <;> omega
    · omega
  · rw [if_neg h1] at he
    have hm := rf21_ms h1
    refine ⟨?_, hm⟩
    unfold weV21
    rw [if_neg (by simp [hm])]
    have h0 := (h.wr x y).2
    have h2 := h.lm
    by_cases hw : wo21 S x y = true
    · unfold wo21 at hw
      simp at hw
      omega
    · rw [if_neg hw] at he
      exfalso
      unfold rc21 at he
      split at he <;> omega
theorem wi21_new (p q : Nat) (ac lim : Int) (L0 L1 : List Int) (hl : 0 ≤ lim) : Wi21 lim { nw21 p q ac L0 L1 with lm := lim } := by
  refine ⟨rfl, fun x y => ?_, by simp [nw21]⟩
  have h0 : (sh21 { nw21 p q ac L0 L1 with lm := lim } x y).wr = 0 := by
    unfold sh21
    show ((pj21 p (Ls21 L0 L1) 2 0 x y).getD _).wr = 0
    unfold pj21
    split
    · unfold ck21
      split <;> rfl
    · rfl
  rw [h0]
  exact ⟨by simp [ec21, nw21], hl⟩
theorem ok21_cu {S : Fs21} (h : Ok21 S) (n : Int) (hn : In21 n) (L : List Int) : Ok21 (cuS21 S n L) := by
  unfold cuS21
  split
  · exact h
  · split
    · exact h
    · rename_i h1 h2
      refine ⟨h.pg, h.ps, h.ac, h.lm, ?_, ?_, h.sh⟩
      · have := hn.2; show 0 ≤ n ∧ n ≤ _; omega
      · show (if 0 < n then L else []).length ≤ S.pg
        split
        · omega
        · simp
theorem ok21_po {S : Fs21} (h : Ok21 S) : Ok21 { S with on := true } := ⟨h.pg, h.ps, h.ac, h.lm, h.lf, h.tn, h.sh⟩
theorem ok21_li {S : Fs21} (h : Ok21 S) (n : Int) : Ok21 (liS21 S n) := by
  unfold liS21
  split
  · exact h
  · rename_i h1
    exact ⟨h.pg, h.ps, h.ac, by show 0 ≤ n ∧ n ≤ _; omega, h.lf, h.tn, h.sh⟩
/-- What no call changes, and how the log grows. -/
def Gr21 (S S' : Fs21) : Prop := S'.pg = S.pg ∧ S'.ps = S.ps ∧ S.lg.length ≤ S'.lg.length ∧ S'.lg.length ≤ S.lg.length + 1
theorem gr21_rn (S : Fs21) (kd x y : Int) (nn : Sh21) : Gr21 S (rn21 S kd x y nn) := by
  obtain ⟨e1, e2, e3, e4⟩ := rn21_lg S kd x y nn
  exact ⟨e4, e3, by rw [e1]; simp, by rw [e1]; simp⟩
theorem gr21_refl (S : Fs21) : Gr21 S S := ⟨rfl, rfl, Nat.le_refl _, Nat.le_succ _⟩
theorem gr21_er (S : Fs21) (x y : Int) : Gr21 S (erS21 S x y) := by
  unfold erS21; split; exact gr21_refl S; split; exact gr21_refl S; exact gr21_rn _ _ _ _ _
theorem gr21_pg (S : Fs21) (x y : Int) (L : List Int) : Gr21 S (pgS21 S x y L) := by
  unfold pgS21; split; exact gr21_refl S; split; exact gr21_refl S; split; exact gr21_refl S; exact gr21_rn _ _ _ _ _
theorem gr21_cu (S : Fs21) (n : Int) (L : List Int) : Gr21 S (cuS21 S n L) := by
  unfold cuS21; split; exact gr21_refl S; split; exact gr21_refl S; exact ⟨rfl, rfl, Nat.le_refl _, Nat.le_succ _⟩
/-! The counts in their array. -/
def zr21 (n : Nat) : List Value := List.replicate n (.int .i64 0)
def cl21 (f : Nat → Nat) : List Value := (List.range 12288).map fun i => .int .i64 (f i : Int)
theorem cl21_zero : zr21 12288 = cl21 (fun _ => 0) := by
  have h : ∀ n : Nat, zr21 n = (List.range n).map fun i => Value.int .i64 ((0 : Nat) : Int) := by
    intro n
    apply List.ext_getElem?
    intro i
    by_cases hi : i < n
    · simp [zr21, List.getElem?_replicate, hi]
    · simp [zr21, List.getElem?_replicate, hi]
  exact h 12288
theorem cl21_len (f : Nat → Nat) : (cl21 f).length = 12288 := by unfold cl21; rw [List.length_map, List.length_range]
theorem cl21_get (f : Nat → Nat) (i : Nat) (hi : i < 12288) : (cl21 f)[i]? = some (.int .i64 (f i : Int)) := by
  unfold cl21
  rw [List.getElem?_map, List.getElem?_range hi]
  rfl
theorem cl21_set (f : Nat → Nat) (i v : Nat) : (cl21 f).set i (.int .i64 (v : Int)) = cl21 (fun j => if j = i then v else f j) := by
  apply List.ext_getElem?
  intro j
  by_cases hj : j < 12288
  · rw [cl21_get _ j hj, List.getElem?_set, cl21_len]
    by_cases e : i = j
    · subst e; simp [hj]
    · rw [if_neg e, cl21_get _ j hj, if_neg (fun h => e h.symm)]
  · rw [List.getElem?_eq_none (by rw [List.length_set, cl21_len]; omega), List.getElem?_eq_none (by rw [cl21_len]; omega)]
def ct21 (L : List (Int × Int × Int)) (i : Nat) : Nat := ec21 L ((i / 4096 : Nat) : Int) ((i % 4096 : Nat) : Int)
theorem ct21_at (L : List (Int × Int × Int)) (a p : Nat) (hp : p < 4096) : ct21 L (a * 4096 + p) = ec21 L (a : Int) (p : Int) := by
  unfold ct21
  rw [show (a * 4096 + p) / 4096 = a by omega, show (a * 4096 + p) % 4096 = p by omega]
theorem ct21_one (L : List (Int × Int × Int)) (kd : Int) (a p : Nat) (hp : p < 4096) : ct21 (L ++ [(kd, (a : Int), (p : Int))]) = fun j => if j = a * 4096 + p ∧ kd = 1 then ct21 L j + 1 else ct21 L j := by
  funext j
  unfold ct21
  rw [ec21_app]
  by_cases h : j = a * 4096 + p ∧ kd = 1
  · obtain ⟨rfl, rfl⟩ := h
    have e1 : (a * 4096 + p) / 4096 = a := by omega
    have e2 : (a * 4096 + p) % 4096 = p := by omega
    simp [e1, e2]
  · rw [if_neg h, if_neg (by
      intro e
      simp only [Prod.mk.injEq] at e
      obtain ⟨e1, e2, e3⟩ := e
      exact h ⟨by omega, e1⟩), Nat.add_zero]
theorem ct21_nil : ct21 [] = fun _ => 0 := by funext j; simp [ct21, ec21]
theorem cell_cl21 {w : World} {g : Nat} {f : Nat → Nat} {t : TypeId} (h : w.heap[g]? = some (.cells (cl21 f).toArray t (0, 0))) (i : Nat) (hi : i < 12288) : w.cell? ⟨g, i, none⟩ = some (.int .i64 (f i : Int)) ∧ w.frozen? ⟨g, i, none⟩ = false := by
  refine ⟨?_, by simp [World.frozen?, h]⟩
  simp only [World.cell?, h]
  simpa using cl21_get f i hi
theorem set_cl21 {w : World} {g : Nat} {f : Nat → Nat} {t : TypeId} (h : w.heap[g]? = some (.cells (cl21 f).toArray t (0, 0))) (i v : Nat) : (w.setCell ⟨g, i, none⟩ (.int .i64 (v : Int))).heap[g]? = some (.cells (cl21 (fun j => if j = i then v else f j)).toArray t (0, 0)) := by
  rw [← cl21_set]
  simp [World.setCell, Array.getElem?_modify, h]
end Go.Proofs.Ythefcmhmcgjcoaa
