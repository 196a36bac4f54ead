import Derived.Test.YtmddnmpldmdllaaDoorPr
import Derived.Laws.MakeOwn
import Derived.Test.YtmddnmpldmdllaaDoorPq
import Derived.Test.YtmddnmpldmdllaaDoorPp
namespace Go.Proofs.YtmddnmpldmdllaaDoor
open Go.RowKit
set_option linter.unusedVariables false

/-! What the calls of package lz answer, in one form for the program and the document. -/
def xpd7 (win : Int) (l : List Tok7) : List Int := if (check7 win l).2 = 0 then exp7 [] l else []
def ExpQ (w : World) (R : List Int) (er : Int) (e : Ending) (w' : World) : Prop := ∃ oa oc, e = .returned (.tuple #[.slice oa R.length oc, .int .i64 er]) ∧ w'.ownsRow w.heap.size 5 1 (.slice oa R.length oc) R.length (R.map (Value.int .u8)) ∧ Below w.heap.size w w'
def best7 (D : List Int) (p win chain : Int) : Int × Int × Int :=
  if opt7 win chain ≠ 0 then (0, 0, 72) else if p < 0 ∨ (D.length : Int) ≤ p then (0, 0, 1) else (((bst7 D p.toNat win.toNat chain.toNat).1 : Int), ((bst7 D p.toNat win.toNat chain.toNat).2 : Int), 0)
def parse7 (D : List Int) (win chain : Int) (lazy : Bool) : List Tok7 := if opt7 win chain = 0 then par7 D win.toNat chain.toNat lazy else []
def ParQ (w : World) (ty : TypeId) (T : List Tok7) (er : Int) (e : Ending) (w' : World) : Prop := ∃ oa oc, e = .returned (.tuple #[.slice oa T.length oc, .int .i64 er]) ∧ w'.ownsRow w.heap.size ty 3 (.slice oa T.length oc) T.length (flatT T) ∧ Below w.heap.size w w'
theorem parg7_fit (D : List Int) (W C : Nat) (lz : Bool) (hD : ∀ z ∈ D, 0 ≤ z ∧ z ≤ 255) (hl : D.length ≤ 1152921504606846976) : ∀ f p, ∀ t ∈ parg7 D W C lz f p, t.Fit
  | 0, p, t, h => by simp [parg7] at h
  | f + 1, p, t, h => by
    rw [parg7] at h
    by_cases hp : p < D.length
    · rw [if_pos hp] at h
      by_cases h0 : pick7 D W C lz p = 0
      · rw [if_pos h0] at h
        rcases List.mem_cons.1 h with rfl | h
        · have := getD_bd7 hD p
          exact ⟨this, by simp, by simp⟩
        · exact parg7_fit D W C lz hD hl f _ t h
      · rw [if_neg h0] at h
        rcases List.mem_cons.1 h with rfl | h
        · rcases pick7_mt D W C lz p with e | e
          · exact absurd e h0
          · have h1 := e.n258
            have h2 := e.dp
            refine ⟨by simp, ?_, ?_⟩ <;> simp only <;> omega
        · exact parg7_fit D W C lz hD hl f _ t h
    · rw [if_neg hp] at h
      simp at h
theorem parse7_fit {D : List Int} {win chain : Int} {lazy : Bool} (hD : ∀ z ∈ D, 0 ≤ z ∧ z ≤ 255) (hl : D.length ≤ 1152921504606846976) : ∀ t ∈ parse7 D win chain lazy, t.Fit := by
  unfold parse7
  split
  · exact parg7_fit D _ _ _ hD hl _ _
  · simp
theorem parse7_len {D : List Int} {win chain : Int} {lazy : Bool} : (parse7 D win chain lazy).length ≤ D.length := by
  unfold parse7
  split
  · rename_i h
    have h1 := opt7_ok h
    have := (Tz7.all (by omega) _ _ (par7_tz D win.toNat chain.toNat lazy)).2.2.2
    simpa using this
  · simp
end Go.Proofs.YtmddnmpldmdllaaDoor

namespace Go.Proofs.YtmddnmpldmdllaaDoor
open Go.RowKit
set_option linter.unusedVariables false

/-! The landed lz: length, Check, Size, Expand, Options. -/
theorem wid7_zero {t : Tok7} (h : wid7 t = 0) : ¬ may7 t := by
  intro hm
  unfold wid7 at h
  rw [if_pos hm] at h
  split at h
  · omega
  · rename_i h0
    unfold may7 at hm
    rw [if_neg h0] at hm
    omega
theorem wid7_pos {t : Tok7} (h : wid7 t ≠ 0) : may7 t := by
  unfold wid7 at h
  by_cases hm : may7 t
  · exact hm
  · rw [if_neg hm] at h; exact absurd rfl h
theorem far7_iff {win : Int} {tot : Nat} {t : Tok7} (h : may7 t) (hw : 1 ≤ win) : far7 win tot t ↔ (win < t.dist ∨ (tot : Int) < t.dist) := by
  unfold far7
  unfold may7 at h
  by_cases h0 : t.len = 0
  · rw [if_pos h0] at h; omega
  · rw [if_neg h0] at h; omega
end Go.Proofs.YtmddnmpldmdllaaDoor

namespace Go.Proofs.YtmddnmpldmdllaaDoor
open Go.RowKit
set_option linter.unusedVariables false

end Go.Proofs.YtmddnmpldmdllaaDoor

namespace Go.Proofs.YtmddnmpldmdllaaDoor
open Go.RowKit
set_option linter.unusedVariables false

/-! The landed block: a tally. -/
/-- A tally in memory: its size, its more bits, how often each symbol stands there. -/
structure Ta9 (w : World) (b : Nat) (X : List Int) : Prop where
  len : X.length = 318
  hp : w.heap[b]? = some (.cells (arr X) 158 (0, 0))
  bd : ∀ z ∈ X, 0 ≤ z ∧ z ≤ 1125899906842624
theorem Ta9.lt {w : World} {b : Nat} {X : List Int} (h : Ta9 w b X) : b < w.heap.size := (Array.getElem?_eq_some_iff.1 h.hp).1
theorem Ta9.keep {w w' : World} {b : Nat} {X : List Int} (h : Ta9 w b X) (hb : w'.heap[b]? = w.heap[b]?) : Ta9 w' b X := ⟨h.len, hb.trans h.hp, h.bd⟩
theorem Ta9.cell {w : World} {b : Nat} {X : List Int} (h : Ta9 w b X) {i : Nat} (hi : i < 318) : w.cell? ⟨b, i, none⟩ = some (.int .i64 (X.getD i 0)) := by
  refine (cell_of_row w b i _ _ _ h.hp).trans ?_
  have : i < X.length := by rw [h.len]; exact hi
  simp [arr, List.getD, this]
theorem Ta9.free {w : World} {b : Nat} {X : List Int} (h : Ta9 w b X) (i : Nat) : w.frozen? ⟨b, i, none⟩ = false := frozen_of_row w b i _ _ h.hp
theorem Ta9.get {w : World} {b : Nat} {X : List Int} (h : Ta9 w b X) (i : Nat) : 0 ≤ X.getD i 0 ∧ X.getD i 0 ≤ 1125899906842624 := by
  by_cases hi : i < X.length
  · have hm : X.getD i 0 ∈ X := by simp only [List.getD, List.getElem?_eq_getElem hi, Option.getD_some]; exact List.getElem_mem hi
    exact h.bd _ hm
  · simp only [List.getD, List.getElem?_eq_none (Nat.le_of_not_lt hi), Option.getD_none]; omega
theorem Ta9.set {w : World} {b : Nat} {X : List Int} (h : Ta9 w b X) {i : Nat} (hi : i < 318) (v : Int) (hv : 0 ≤ v ∧ v ≤ 1125899906842624) : Ta9 (w.setCell ⟨b, i, none⟩ (.int .i64 v)) b (X.set i v) := by
  refine ⟨by rw [List.length_set]; exact h.len, ?_, fun z hz => ?_⟩
  · rw [heap_setCell_same w b i _ _ _ h.hp]
    simp [arr, List.map_set]
  · rcases List.mem_or_eq_of_mem_set hz with h1 | rfl
    · exact h.bd z h1
    · exact hv
/-- One more at a place. -/
def inc9 (X : List Int) (i : Nat) (v : Int) : List Int := X.set i (X.getD i 0 + v)
/-- The place of a number among spans. -/
def ixo9 (S : List Int) (n : Nat) (x : Int) : Nat := (List.range n).countP (fun k => decide (S.getD (k * 2) 0 ≤ x)) - 1
theorem cnt_le9 (i : Nat) : ∀ n, (List.range n).countP (fun k => decide (k ≤ i)) = min n (i + 1)
  | 0 => rfl
  | n + 1 => by
    rw [List.range_succ, List.countP_append, cnt_le9 i n]
    by_cases h : n ≤ i
    · simp [h]; omega
    · simp [h]; omega
theorem ixo9_eq {S : List Int} {n : Nat} {x : Int} {i : Nat} (hm : ∀ a b, a ≤ b → b < n → S.getD (a * 2) 0 ≤ S.getD (b * 2) 0) (hi : i < n) (h1 : S.getD (i * 2) 0 ≤ x) (h2 : ∀ k, i < k → k < n → x < S.getD (k * 2) 0) : ixo9 S n x = i := by
  unfold ixo9
  have e : (List.range n).countP (fun k => decide (S.getD (k * 2) 0 ≤ x)) = (List.range n).countP (fun k => decide (k ≤ i)) := by
    refine List.countP_congr fun k hk => ?_
    rw [List.mem_range] at hk
    simp only [decide_eq_true_eq]
    constructor
    · intro h
      by_cases q : k ≤ i
      · exact q
      · have := h2 k (by omega) hk; omega
    · intro h
      have := hm k i h hi
      omega
  rw [e, cnt_le9]
  omega
def lix9 (x : Int) : Nat := ixo9 lnS9 29 x
def dix9 (x : Int) : Nat := ixo9 dsS9 30 x
end Go.Proofs.YtmddnmpldmdllaaDoor

namespace Go.Proofs.YtmddnmpldmdllaaDoor
open Go.RowKit
set_option linter.unusedVariables false

/-! The landed block: a match comes to a tally. -/
theorem inc_bd9 {X : List Int} {i : Nat} {v B : Int} (h : ∀ z ∈ X, 0 ≤ z ∧ z ≤ B) (hv : 0 ≤ v) (hB : 0 ≤ B) : ∀ z ∈ inc9 X i v, 0 ≤ z ∧ z ≤ B + v := by
  intro z hz
  unfold inc9 at hz
  rcases List.mem_or_eq_of_mem_set hz with h1 | rfl
  · have := h z h1; omega
  · by_cases hi : i < X.length
    · have hm : X.getD i 0 ∈ X := by simp only [List.getD, List.getElem?_eq_getElem hi, Option.getD_some]; exact List.getElem_mem hi
      have := h _ hm
      omega
    · have : X.getD i 0 = 0 := by simp only [List.getD, List.getElem?_eq_none (Nat.le_of_not_lt hi), Option.getD_none]
      omega
theorem Ta9.inc {w : World} {b : Nat} {X : List Int} (h : Ta9 w b X) {i : Nat} (hi : i < 318) (v : Int) (hv : 0 ≤ X.getD i 0 + v ∧ X.getD i 0 + v ≤ 1125899906842624) : Ta9 (w.setCell ⟨b, i, none⟩ (.int .i64 (X.getD i 0 + v))) b (inc9 X i v) := h.set hi _ hv
end Go.Proofs.YtmddnmpldmdllaaDoor

namespace Go.Proofs.YtmddnmpldmdllaaDoor
open Go.RowKit
set_option linter.unusedVariables false

/-! The landed block: tallied. -/
def tst9 (X : List Int) (t : Tok7) : List Int :=
  if t.len = 0 then inc9 (inc9 X 0 (wid7 t)) (2 + t.lit.toNat) 1 else inc9 (inc9 (inc9 (inc9 (inc9 X 0 (wid7 t)) (259 + lix9 t.len) 1) 1 (lnS9.getD (lix9 t.len * 2 + 1) 0)) (288 + dix9 t.dist) 1) 1 (dsS9.getD (dix9 t.dist * 2 + 1) 0)
def tal09 : List Int := List.replicate 318 0
def tals9 (l : List Tok7) : List Int := l.foldl tst9 tal09
def tal9 (l : List Tok7) : List Int := (tals9 l).set 258 1
theorem tals9_snoc (l : List Tok7) (t : Tok7) : tals9 (l ++ [t]) = tst9 (tals9 l) t := by unfold tals9; rw [List.foldl_append]; rfl
set_option maxRecDepth 100000 in
theorem lnb9 (i : Nat) : 0 ≤ lnS9.getD (i * 2 + 1) 0 ∧ lnS9.getD (i * 2 + 1) 0 ≤ 13 := by
  by_cases h : i < 29
  · exact (bd_plsy9 ⟨i, h⟩).2
  · simp only [List.getD, List.getElem?_eq_none (show lnS9.length ≤ i * 2 + 1 by show 58 ≤ _; omega), Option.getD_none]; omega
set_option maxRecDepth 100000 in
theorem dsb9 (i : Nat) : 0 ≤ dsS9.getD (i * 2 + 1) 0 ∧ dsS9.getD (i * 2 + 1) 0 ≤ 13 := by
  by_cases h : i < 30
  · exact (bd_pdsy9 ⟨i, h⟩).2
  · simp only [List.getD, List.getElem?_eq_none (show dsS9.length ≤ i * 2 + 1 by show 60 ≤ _; omega), Option.getD_none]; omega
end Go.Proofs.YtmddnmpldmdllaaDoor

namespace Go.Proofs.YtmddnmpldmdllaaDoor
open Go.RowKit
set_option linter.unusedVariables false

/-! The landed block: forms. -/
def fnv9 (n : Nat) : Value := .func (.func n) #[] #[]
def frm9 : Array Value := #[.int .i64 65535, fnv9 120, fnv9 120, fnv9 120, .int .i64 16908288, fnv9 120, fnv9 120, fnv9 120, .int .i64 16908288, fnv9 120, fnv9 120, fnv9 120]
end Go.Proofs.YtmddnmpldmdllaaDoor

namespace Go.Proofs.YtmddnmpldmdllaaDoor
open Go.RowKit
set_option linter.unusedVariables false

/-! The landed swell: deeds, run. -/
def fn11 (k : Nat) : Value := .func (.func k) #[] #[]
def dv11 : Array Value := #[fn11 31, fn11 32, fn11 33, fn11 34, fn11 35, fn11 36, fn11 37, fn11 38, fn11 39]
theorem info_dv11 : (Tryd.prog.info? 61).map (·.size) = some dv11.size := by kernel_rfl
set_option maxRecDepth 100000 in
set_option maxHeartbeats 2000000 in
theorem pdeeds11 (w : World) : Calls Tryd.prog 25 #[] w fun e w' => e = .returned (.agg dv11) ∧ Below w.heap.size w w' := by
  go_enter Tryd.func25, Tryd.ntmps25
  go_wp2_with (first
    | (refine wpList_store_row rfl 61 (.tmp 0) (.tmp 1) rfl w.heap.size dv11 rfl (by kernel_rfl) _ _ (heap_alloc_new w _) (by kernel_rfl) (by kernel_rfl) (by kernel_rfl) ?_))
  refine bodyPost_ret (v := .agg dv11) (results_cell_row rfl _ _ w.heap.size _ _ _ _ rfl (setRow_heap _ _ _ _ _ _ (heap_alloc_new w _)) Tryd.underlying61 rfl info_dv11) rfl ⟨rfl, ?_⟩
  exact ((Below.refl w.heap.size w).alloc (Nat.le_refl _) _).grown (grown_setRow _ _ _) (by simp) (fun j e => by cases e; exact Nat.le_refl _)
theorem LOk11 : LOk plnL9 := (errS_zero (errC_zero pln_ok11.1).1).2
theorem De.kp11 {w w' : World} {d n : Nat} {zs : List Int} {Q : Nat → Prop} (h : De w d n zs) (hk : Kp Q w w') (hn : ¬ Q d) : De w' d n zs := h.keep (hk.block d (by obtain ⟨S, _, _, q⟩ := h.row; exact (Array.getElem?_eq_some_iff.1 q).1) hn)
section
variable {W wr : World} {b g S : Nat} {L K K0 : List Int} {H : List Bool} {t dl dd hd : Nat} {win lim nx most : Int} {last : Bool} {bf tk pg : Nat}
/-- The blocks that a stream's run writes. -/
def Mv (b g dl dd bf : Nat) (k : Nat) : Prop := k = b ∨ k = g ∨ k = dl ∨ k = dd ∨ k = bf
/-- Where the run of the example stands. -/
inductive Inv11 (W wr : World) (b g dl dd hd bf pg S : Nat) (win lim most : Int) : Nat → Prop
  | s0 (K : List Int) : Sw wr b g S [] K [] 0 dl dd hd win lim 0 false → Fl wr bf (some ⟨pg, 0, none⟩) 3 3 0 most (.slice none 0 0) → De wr dl 288 [] → De wr dd 32 [] → Inv11 W wr b g dl dd hd bf pg S win lim most 0
  | s1 (K : List Int) : Sw wr b g S [] K [true, true, false, true, false, false, true, false] 0 dl dd hd win lim 0 false → Fl wr bf (some ⟨pg, 0, none⟩) 3 3 1 most (.slice none 0 0) → De wr dl 288 [] → De wr dd 32 [] → Inv11 W wr b g dl dd hd bf pg S win lim most 1
  | s2 (K : List Int) : Sw wr b g S [] K hA11 3 dl dd hd win lim 4 true → Fl wr bf (some ⟨pg, 0, none⟩) 3 3 1 most (.slice none 0 0) → De wr dl 288 plnL9 → De wr dd 32 plnD9 → Inv11 W wr b g dl dd hd bf pg S win lim most 2
  | s3 (K : List Int) : Sw wr b g S [] K hB11 3 dl dd hd win lim 4 true → Fl wr bf (some ⟨pg, 0, none⟩) 3 3 2 most (.slice none 0 0) → De wr dl 288 plnL9 → De wr dd 32 plnD9 → Inv11 W wr b g dl dd hd bf pg S win lim most 3
  | s4 (K : List Int) (og oc : Nat) : Sw wr b g S [97] K hC11 11 dl dd hd win lim 4 true → Fl wr bf (some ⟨pg, 0, none⟩) 3 3 2 most (.slice (some ⟨og, 0, none⟩) 1 oc) → De wr dl 288 plnL9 → De wr dd 32 plnD9 → wr.ownsRow W.heap.size 5 1 (.slice (some ⟨og, 0, none⟩) 1 oc) 1 [.int .u8 97] → Inv11 W wr b g dl dd hd bf pg S win lim most 4
  | s5 (K : List Int) (og oc : Nat) : Sw wr b g S [97] K hD11 11 dl dd hd win lim 4 true → Fl wr bf (some ⟨pg, 0, none⟩) 3 3 3 most (.slice (some ⟨og, 0, none⟩) 1 oc) → De wr dl 288 plnL9 → De wr dd 32 plnD9 → wr.ownsRow W.heap.size 5 1 (.slice (some ⟨og, 0, none⟩) 1 oc) 1 [.int .u8 97] → Inv11 W wr b g dl dd hd bf pg S win lim most 5
  | s6 (K : List Int) (og oc : Nat) (H : List Bool) : Sw wr b g S [97] K H 18 dl dd hd win lim 9 true → Fl wr bf (some ⟨pg, 0, none⟩) 3 3 3 most (.slice (some ⟨og, 0, none⟩) 1 oc) → De wr dl 288 plnL9 → De wr dd 32 plnD9 → wr.ownsRow W.heap.size 5 1 (.slice (some ⟨og, 0, none⟩) 1 oc) 1 [.int .u8 97] → Inv11 W wr b g dl dd hd bf pg S win lim most 6
def cn11 : Option Value → Nat
  | some (.int _ z) => z.toNat
  | _ => 0
def ms11 (b bf : Nat) (wr : World) : Nat := 100 - (20 * cn11 (wr.cell? ⟨bf, 1, none⟩) + cn11 (wr.cell? ⟨b, 4, none⟩))
set_option maxRecDepth 100000 in
set_option maxHeartbeats 8000000 in
theorem psw_run (w : World) (F : Df b g dl dd bf) (hpg : ¬ Mv b g dl dd bf pg) (hS : Sw w b g S [] K0 [] 0 dl dd hd win 10 0 false) (hF : Fl w bf (some ⟨pg, 0, none⟩) 3 3 0 9 (.slice none 0 0)) (D1 : De w dl 288 []) (D2 : De w dd 32 []) (hsg : Seg w (some ⟨pg, 0, none⟩) [75, 4, 0]) :
    Calls Tryd.prog 20 #[.pointer (some ⟨b, 0, none⟩), .pointer (some ⟨bf, 0, none⟩)] w fun e w' => e = .returned (.tuple #[]) ∧ ∃ W, Below w.heap.size w W ∧ Inv11 W w' b g dl dd hd bf pg S win 10 9 6 ∧ Kp (Mv b g dl dd bf) W w' := by
  have HS : Hid (Sw w b g S [] K0 [] 0 dl dd hd win 10 0 false) := hS
  have HF : Hid (Fl w bf (some ⟨pg, 0, none⟩) 3 3 0 9 (.slice none 0 0)) := hF
  have HD : Hid (De w dl 288 [] ∧ De w dd 32 []) := ⟨D1, D2⟩
  have HSG : Hid (Seg w (some ⟨pg, 0, none⟩) [75, 4, 0]) := hsg
  clear hS hF D1 D2 hsg
  go_enter Tryd.func20, Tryd.ntmps20
  go_wp2_with fail
  refine (pdeeds11 w).mono ?_
  rintro e w1 ⟨rfl, b1⟩
  go_wp2_with (refine wpList_store_row rfl 61 (.tmp 4) (.tmp 5) rfl w1.heap.size dv11 rfl rfl _ _ (heap_alloc_new w1 _) (by kernel_rfl) (by kernel_rfl) (by kernel_rfl) ?_)
  obtain ⟨W, hW⟩ : ∃ W, W = (w1.alloc (.cells #[.nilFunc, .nilFunc, .nilFunc, .nilFunc, .nilFunc, .nilFunc, .nilFunc, .nilFunc, .nilFunc] 61)).setRow w1.heap.size dv11 := ⟨_, rfl⟩
  rw [← hW]
  have q3 : W.heap[w1.heap.size]? = some (.cells dv11 61 (0, 0)) := by rw [hW]; exact setRow_heap _ w1.heap.size _ dv11 _ _ (heap_alloc_new w1 _)
  have bW : Below w1.heap.size w1 W := by rw [hW]; exact ((Below.refl w1.heap.size w1).alloc (Nat.le_refl _) _).grown (grown_setRow _ _ _) (by simp) (fun j e => by cases e; exact Nat.le_refl _)
  have BW : Below w.heap.size w W := b1.trans (bW.mono b1.size)
  have hlb := HS.out.b_lt
  have hlg := HS.out.g_lt
  have hlf : bf < w.heap.size := (Array.getElem?_eq_some_iff.1 HF.out.hp).1
  have hl1 : dl < w.heap.size := by obtain ⟨S, _, _, q⟩ := HD.out.1.row; exact (Array.getElem?_eq_some_iff.1 q).1
  have hl2 : dd < w.heap.size := by obtain ⟨S, _, _, q⟩ := HD.out.2.row; exact (Array.getElem?_eq_some_iff.1 q).1
  have HFAR : Hid (∀ q, w.heap.size ≤ q → ¬ Mv b g dl dd bf q) := fun q hq e => by
    rcases e with e | e | e | e | e <;> omega
  have HAR : Hid (∀ wr, Kp (Mv b g dl dd bf) W wr → wr.heap[w1.heap.size]? = some (.cells dv11 61 (0, 0))) := fun wr hk => hk.heap q3 (HFAR.out _ b1.size)
  have HSGW : Hid (∀ wr, Kp (Mv b g dl dd bf) W wr → Seg wr (some ⟨pg, 0, none⟩) [75, 4, 0]) := fun wr hk => (HSG.out.old BW).kp hk (fun g' o' e _ => by cases e; exact hpg)
  have HI0 : Hid (Inv11 W W b g dl dd hd bf pg S win 10 9 0) := Inv11.s0 K0 (HS.out.old BW) (HF.out.kp (Kp.of_below (S := fun _ => False) BW) (fun e => e)) (HD.out.1.keep (BW.block dl hl1)) (HD.out.2.keep (BW.block dd hl2))
  have HBW : Hid (Below w.heap.size w W) := BW
  have HWS : Hid (w.heap.size ≤ W.heap.size) := BW.size
  have hpb : pg ≠ b := fun e => hpg (.inl e)
  clear hW q3 bW BW b1 HS HF HD HSG
  simp only [Act.put]
  go_loopw [] (fun wr => ∃ i, i ≤ 6 ∧ Inv11 W wr b g dl dd hd bf pg S win 10 9 i ∧ Kp (Mv b g dl dd bf) W wr) (fun wr => ms11 b bf wr)
  case atStart => exact ⟨0, by omega, HI0.out, Kp.refl _ _⟩
  case round =>
    obtain ⟨i, hi6, HV, KV⟩ := hrel
    clear HI0
    have HKV : Hid (Kp (Mv b g dl dd bf) W wr) := KV
    have HA := HAR.out wr KV
    have HAd : wr.drew.heap[w1.heap.size]? = some (.cells dv11 61 (0, 0)) := HA
    have hsg : Seg wr.drew (some ⟨pg, 0, none⟩) [75, 4, 0] := (HSGW.out wr KV).kp (Kp.refl (fun _ => False) wr).drew (fun _ _ _ _ e => e)
    have HSD : Hid (Seg wr.drew (some ⟨pg, 0, none⟩) [75, 4, 0]) := hsg
    have kd : Kp (fun _ => False) wr wr.drew := (Kp.refl _ wr).drew
    have hKw : W.heap.size ≤ wr.heap.size := KV.size
    clear KV hsg HAR HSGW
    cases HV with
    | s0 K hS hF D1 D2 =>
      have c10 := hS.cell 10 _ rfl
      have c3 := hF.cell 3 _ rfl
      have c2 := hF.cell 2 _ rfl
      have HM : Hid (ms11 b bf wr = 100 - (20 * 0 + 0)) := by
        show _ = _
        unfold ms11
        rw [hF.cell 1 _ rfl, hS.cell 4 _ rfl]
        rfl
      have hSd := hS.kp kd (fun e => e) (fun e => e)
      have hFd := hF.kp kd (fun e => e)
      have e10 := hSd.cell 10 _ rfl
      have D1d := D1.kp11 kd (fun e => e)
      have D2d := D2.kp11 kd (fun e => e)
      have dN : wr.drew.cell? ⟨w1.heap.size, 0, none⟩ = some (fn11 31) := (cell_of_row wr.drew _ 0 _ _ _ HAd).trans rfl
      unfold fn11 at dN
      have C := psw_begin_no (.pointer (some ⟨bf, 0, none⟩)) (by decide) hSd (by omega)
      clear hS hF
      go_wp2_with fail
      go_region
      go_wp2_with fail
      refine C.mono ?_
      rintro e w3 ⟨rfl, h3, k3b⟩
      have k3 : Kp (fun k => k = b ∨ k = bf) wr.drew w3 := k3b.mono (fun _ _ e => .inl e)
      have CF := psw_feed pg 0 [75, 4, 0] (np := 3) (pc := 3) (tk := 0) rfl h3 ((hFd.kp k3b (fun e => F.b3 e.symm))) (HSD.out.kp k3b (fun g' o' e _ => by cases e; exact hpb)) (by omega) (by omega) (by omega) (by decide) F.b3 hpb F.g3
      clear C
      go_wp2_with fail
      refine CF.mono ?_
      rintro e w4 ⟨rfl, h4, f4, k4⟩
      have k5 : Kp (Mv b g dl dd bf) wr w4 := (kd.mono (S' := Mv b g dl dd bf) (fun _ _ e => e.elim)).trans (k3.trans k4 (fun _ _ e => e)) (fun _ _ e => by rcases e with e | e; exact .inl e; exact .inr (.inr (.inr (.inr e))))
      have E1 := (D1d.kp11 k3b (fun e => F.b1 e.symm)).kp11 k4 (by rintro (e | e); exact F.b1 e.symm; exact F.d2 e)
      have E2 := (D2d.kp11 k3b (fun e => F.b2 e.symm)).kp11 k4 (by rintro (e | e); exact F.b2 e.symm; exact F.d3 e)
      go_wp2_with fail
      go_roundw
      case rel => exact ⟨1, by omega, Inv11.s1 K h4 f4 E1 E2, HKV.out.trans (k5) (fun _ _ e => e)⟩
      case measure =>
        rw [HM.out]
        unfold ms11
        rw [f4.cell 1 _ rfl, h4.cell 4 _ rfl]
        decide
    | s1 K hS hF D1 D2 =>
      have c10 := hS.cell 10 _ rfl
      have c3 := hF.cell 3 _ rfl
      have c2 := hF.cell 2 _ rfl
      have HM : Hid (ms11 b bf wr = 100 - (20 * 1 + 0)) := by
        show _ = _
        unfold ms11
        rw [hF.cell 1 _ rfl, hS.cell 4 _ rfl]
        rfl
      have hSd := hS.kp kd (fun e => e) (fun e => e)
      have hFd := hF.kp kd (fun e => e)
      have e10 := hSd.cell 10 _ rfl
      have D1d := D1.kp11 kd (fun e => e)
      have D2d := D2.kp11 kd (fun e => e)
      have dN : wr.drew.cell? ⟨w1.heap.size, 0, none⟩ = some (fn11 31) := (cell_of_row wr.drew _ 0 _ _ _ HAd).trans rfl
      unfold fn11 at dN
      have C := psw_begin_plain (.pointer (some ⟨bf, 0, none⟩)) [true, false, false, true, false] [] [] rfl F hSd D1d D2d (by omega)
      clear hS hF
      go_wp2_with fail
      go_region
      go_wp2_with fail
      refine C.mono ?_
      rintro e w3 ⟨rfl, h3, E1, E2, k3⟩
      have f3 := hFd.kp k3 (by rintro (e | e | e); exact F.b3 e.symm; exact F.d2 e.symm; exact F.d3 e.symm)
      have k5 : Kp (Mv b g dl dd bf) wr w3 := (kd.mono (S' := Mv b g dl dd bf) (fun _ _ e => e.elim)).trans k3 (fun _ _ e => by rcases e with e | e | e; exact .inl e; exact .inr (.inr (.inl e)); exact .inr (.inr (.inr (.inl e))))
      clear C
      go_wp2_with fail
      go_roundw
      case rel => exact ⟨2, by omega, Inv11.s2 K h3 f3 E1 E2, HKV.out.trans (k5) (fun _ _ e => e)⟩
      case measure =>
        rw [HM.out]
        unfold ms11
        rw [f3.cell 1 _ rfl, h3.cell 4 _ rfl]
        decide
    | s2 K hS hF D1 D2 =>
      have c10 := hS.cell 10 _ rfl
      have c3 := hF.cell 3 _ rfl
      have c2 := hF.cell 2 _ rfl
      have HM : Hid (ms11 b bf wr = 100 - (20 * 1 + 3)) := by
        show _ = _
        unfold ms11
        rw [hF.cell 1 _ rfl, hS.cell 4 _ rfl]
        rfl
      have hSd := hS.kp kd (fun e => e) (fun e => e)
      have hFd := hF.kp kd (fun e => e)
      have e10 := hSd.cell 10 _ rfl
      have D1d := D1.kp11 kd (fun e => e)
      have D2d := D2.kp11 kd (fun e => e)
      have dN : wr.drew.cell? ⟨w1.heap.size, 4, none⟩ = some (fn11 35) := (cell_of_row wr.drew _ 4 _ _ _ HAd).trans rfl
      unfold fn11 at dN
      have C := psw_sym_may (bf := bf) (no_beg11 (by decide)) may_a11 F hSd D1d (by omega)
      clear hS hF
      go_wp2_with fail
      go_region
      go_wp2_with fail
      refine C.mono ?_
      rintro e w3 ⟨rfl, h3, k3b⟩
      have k3 : Kp (fun k => k = b ∨ k = bf) wr.drew w3 := k3b.mono (fun _ _ e => .inl e)
      have CF := psw_feed pg 0 [75, 4, 0] (np := 3) (pc := 3) (tk := 1) rfl h3 ((hFd.kp k3b (fun e => F.b3 e.symm))) (HSD.out.kp k3b (fun g' o' e _ => by cases e; exact hpb)) (by omega) (by omega) (by omega) (by decide) F.b3 hpb F.g3
      clear C
      go_wp2_with fail
      refine CF.mono ?_
      rintro e w4 ⟨rfl, h4, f4, k4⟩
      have k5 : Kp (Mv b g dl dd bf) wr w4 := (kd.mono (S' := Mv b g dl dd bf) (fun _ _ e => e.elim)).trans (k3.trans k4 (fun _ _ e => e)) (fun _ _ e => by rcases e with e | e; exact .inl e; exact .inr (.inr (.inr (.inr e))))
      have E1 := (D1d.kp11 k3b (fun e => F.b1 e.symm)).kp11 k4 (by rintro (e | e); exact F.b1 e.symm; exact F.d2 e)
      have E2 := (D2d.kp11 k3b (fun e => F.b2 e.symm)).kp11 k4 (by rintro (e | e); exact F.b2 e.symm; exact F.d3 e)
      go_wp2_with fail
      go_roundw
      case rel => exact ⟨3, by omega, Inv11.s3 K h4 f4 E1 E2, HKV.out.trans (k5) (fun _ _ e => e)⟩
      case measure =>
        rw [HM.out]
        unfold ms11
        rw [f4.cell 1 _ rfl, h4.cell 4 _ rfl]
        decide
    | s3 K hS hF D1 D2 =>
      have c10 := hS.cell 10 _ rfl
      have c3 := hF.cell 3 _ rfl
      have c2 := hF.cell 2 _ rfl
      have HM : Hid (ms11 b bf wr = 100 - (20 * 2 + 3)) := by
        show _ = _
        unfold ms11
        rw [hF.cell 1 _ rfl, hS.cell 4 _ rfl]
        rfl
      have hSd := hS.kp kd (fun e => e) (fun e => e)
      have hFd := hF.kp kd (fun e => e)
      have e10 := hSd.cell 10 _ rfl
      have D1d := D1.kp11 kd (fun e => e)
      have D2d := D2.kp11 kd (fun e => e)
      have dN : wr.drew.cell? ⟨w1.heap.size, 4, none⟩ = some (fn11 35) := (cell_of_row wr.drew _ 4 _ _ _ HAd).trans rfl
      unfold fn11 at dN
      have C := psw_sym_put 97 (by omega) beg_b11 (fun s' hs' => beg_one LOk11 hs' beg_b11) F hSd hFd D1d (by omega) (by omega) (by decide)
      rw [pl_cd11.2.1] at C
      clear hS hF
      go_wp2_with fail
      go_region
      go_wp2_with fail
      refine C.mono ?_
      rintro e w3 ⟨rfl, K', og, oc, h3, f3, O3, k3⟩
      have k5 : Kp (Mv b g dl dd bf) wr w3 := (kd.mono (S' := Mv b g dl dd bf) (fun _ _ e => e.elim)).trans k3 (fun _ _ e => by rcases e with e | e | e; exact .inl e; exact .inr (.inl e); exact .inr (.inr (.inr (.inr e))))
      have E1 := D1d.kp11 k3 (by rintro (e | e | e); exact F.b1 e.symm; exact F.g1 e.symm; exact F.d2 e)
      have E2 := D2d.kp11 k3 (by rintro (e | e | e); exact F.b2 e.symm; exact F.g2 e.symm; exact F.d3 e)
      have O4 := own_base O3 (show W.heap.size ≤ wr.drew.heap.size from hKw)
      clear C
      go_wp2_with fail
      go_roundw
      case rel => exact ⟨4, by omega, Inv11.s4 K' og oc h3 f3 E1 E2 O4, HKV.out.trans (k5) (fun _ _ e => e)⟩
      case measure =>
        rw [HM.out]
        unfold ms11
        rw [f3.cell 1 _ rfl, h3.cell 4 _ rfl]
        decide
    | s4 K og oc hS hF D1 D2 O =>
      have c10 := hS.cell 10 _ rfl
      have c3 := hF.cell 3 _ rfl
      have c2 := hF.cell 2 _ rfl
      have HM : Hid (ms11 b bf wr = 100 - (20 * 2 + 11)) := by
        show _ = _
        unfold ms11
        rw [hF.cell 1 _ rfl, hS.cell 4 _ rfl]
        rfl
      have hSd := hS.kp kd (fun e => e) (fun e => e)
      have hFd := hF.kp kd (fun e => e)
      have e10 := hSd.cell 10 _ rfl
      have D1d := D1.kp11 kd (fun e => e)
      have D2d := D2.kp11 kd (fun e => e)
      have dN : wr.drew.cell? ⟨w1.heap.size, 4, none⟩ = some (fn11 35) := (cell_of_row wr.drew _ 4 _ _ _ HAd).trans rfl
      unfold fn11 at dN
      have C := psw_sym_may (bf := bf) (no_beg11 (by decide)) may_c11 F hSd D1d (by omega)
      clear hS hF
      go_wp2_with fail
      go_region
      go_wp2_with fail
      refine C.mono ?_
      rintro e w3 ⟨rfl, h3, k3b⟩
      have k3 : Kp (fun k => k = b ∨ k = bf) wr.drew w3 := k3b.mono (fun _ _ e => .inl e)
      have CF := psw_feed pg 0 [75, 4, 0] (np := 3) (pc := 3) (tk := 2) rfl h3 ((hFd.kp k3b (fun e => F.b3 e.symm))) (HSD.out.kp k3b (fun g' o' e _ => by cases e; exact hpb)) (by omega) (by omega) (by omega) (by decide) F.b3 hpb F.g3
      clear C
      go_wp2_with fail
      refine CF.mono ?_
      rintro e w4 ⟨rfl, h4, f4, k4⟩
      have k5 : Kp (Mv b g dl dd bf) wr w4 := (kd.mono (S' := Mv b g dl dd bf) (fun _ _ e => e.elim)).trans (k3.trans k4 (fun _ _ e => e)) (fun _ _ e => by rcases e with e | e; exact .inl e; exact .inr (.inr (.inr (.inr e))))
      have E1 := (D1d.kp11 k3b (fun e => F.b1 e.symm)).kp11 k4 (by rintro (e | e); exact F.b1 e.symm; exact F.d2 e)
      have E2 := (D2d.kp11 k3b (fun e => F.b2 e.symm)).kp11 k4 (by rintro (e | e); exact F.b2 e.symm; exact F.d3 e)
      have O4 := own_kp (own_kp (own_kp O kd (fun _ _ e => e)) k3b (fun k e e2 => HFAR.out k (Nat.le_trans HWS.out (O.lt k e).1) (.inl e2))) k4 (fun k e e2 => HFAR.out k (Nat.le_trans HWS.out (O.lt k e).1) (by rcases e2 with e2 | e2; exact .inl e2; exact .inr (.inr (.inr (.inr e2)))))
      go_wp2_with fail
      go_roundw
      case rel => exact ⟨5, by omega, Inv11.s5 K og oc h4 f4 E1 E2 O4, HKV.out.trans (k5) (fun _ _ e => e)⟩
      case measure =>
        rw [HM.out]
        unfold ms11
        rw [f4.cell 1 _ rfl, h4.cell 4 _ rfl]
        decide
    | s5 K og oc hS hF D1 D2 O =>
      have c10 := hS.cell 10 _ rfl
      have c3 := hF.cell 3 _ rfl
      have c2 := hF.cell 2 _ rfl
      have HM : Hid (ms11 b bf wr = 100 - (20 * 3 + 11)) := by
        show _ = _
        unfold ms11
        rw [hF.cell 1 _ rfl, hS.cell 4 _ rfl]
        rfl
      have hSd := hS.kp kd (fun e => e) (fun e => e)
      have hFd := hF.kp kd (fun e => e)
      have e10 := hSd.cell 10 _ rfl
      have D1d := D1.kp11 kd (fun e => e)
      have D2d := D2.kp11 kd (fun e => e)
      have dN : wr.drew.cell? ⟨w1.heap.size, 4, none⟩ = some (fn11 35) := (cell_of_row wr.drew _ 4 _ _ _ HAd).trans rfl
      unfold fn11 at dN
      have C := psw_sym_end (bf := bf) beg_d11 (fun s' hs' => beg_one LOk11 hs' beg_d11) F hSd D1d (by omega)
      rw [pl_cd11.2.2.2] at C
      clear hS hF
      go_wp2_with fail
      go_region
      go_wp2_with fail
      refine C.mono ?_
      rintro e w3 ⟨rfl, h3, k3b⟩
      have f3 := hFd.kp k3b (fun e => F.b3 e.symm)
      have k5 : Kp (Mv b g dl dd bf) wr w3 := (kd.mono (S' := Mv b g dl dd bf) (fun _ _ e => e.elim)).trans k3b (fun _ _ e => .inl e)
      have E1 := D1d.kp11 k3b (fun e => F.b1 e.symm)
      have E2 := D2d.kp11 k3b (fun e => F.b2 e.symm)
      have O4 := own_kp (own_kp O kd (fun _ _ e => e)) k3b (fun k e e2 => HFAR.out k (Nat.le_trans HWS.out (O.lt k e).1) (.inl e2))
      clear C
      go_wp2_with fail
      go_roundw
      case rel => exact ⟨6, by omega, Inv11.s6 K og oc _ h3 f3 E1 E2 O4, HKV.out.trans (k5) (fun _ _ e => e)⟩
      case measure =>
        rw [HM.out]
        unfold ms11
        rw [f3.cell 1 _ rfl, h3.cell 4 _ rfl]
        decide
    | s6 K og oc H hS hF D1 D2 O =>
      have c10 := hS.cell 10 _ rfl
      have hSd := hS.kp kd (fun e => e) (fun e => e)
      have hFd := hF.kp kd (fun e => e)
      have HE : Hid (∃ W, Below w.heap.size w W ∧ Inv11 W wr.drew b g dl dd hd bf pg S win 10 9 6 ∧ Kp (Mv b g dl dd bf) W wr.drew) := ⟨W, HBW.out, Inv11.s6 K og oc H hSd hFd (D1.kp11 kd (fun e => e)) (D2.kp11 kd (fun e => e)) (own_kp O kd (fun _ _ e => e)), HKV.out.trans kd (fun _ _ e => e.elim)⟩
      clear hS hF D1 D2 O hSd hFd
      go_wp2_with fail
      go_region
      go_wp2_with fail
      refine bodyPost_end (results_none rfl _ _ _) rfl ?_
      exact ⟨rfl, HE.out⟩
end
end Go.Proofs.YtmddnmpldmdllaaDoor
