import Derived.Test.YthcmebmohhajaaaDoorPg
import Derived.Test.YthcmebmohhajaaaDoorPc
import Derived.Deep.RegionHeld3
import Derived.Test.YthcmebmohhajaaaDoorPb
import Derived.Test.YthcmebmohhajaaaDoorPd
import Derived.Test.YthcmebmohhajaaaDoorPf
import Derived.Test.YthcmebmohhajaaaDoorProg
import Derived.Test.YthcmebmohhajaaaDoorPa
import Derived.WalkKit
import Derived.WalkSpells
import Derived.Laws.BytesArg
namespace Go.Proofs.YthcmebmohhajaaaDoor
open Go.RowKit
set_option linter.unusedVariables false

/-! The document's Lens: the walk. -/
/-- A number behind a row of the call's own. -/
theorem wpList_appI {P : Program} {ops : Array Oper} {rest : List Oper} {o : Oper} {a : Act} {Q : Exit → Act → World → Prop} (hgd : o.guard = none) (s x : Operand) (t : TypeId)
    (ho : o.op = .call { callee := .builtin .append, args := #[s, x], argTypes := #[t, t] })
    (base : Nat) (e : TypeId) (i : TypeInfo) (z : Value) (bytes : Nat) (ht : P.underlying t = some (.slice e)) (hi : P.info? e = some i) (hz : i.zero = some z)
    (hsize : i.size = 1) (hby : i.bytes = bytes) (hzs : z.cells.size = 1) (w0 : World) (y : Int)
    {ra : Option Addr} {n rc : Nat} {l : List Int} (hown : w0.ownsRow base e 1 (.slice ra n rc) n (l.map (Value.int .i64))) (hs : a.eval s = .slice ra n rc) (hx : a.eval x = .slice (some ⟨w0.heap.size, 0, none⟩) 1 1)
    (h63 : n + 1 ≤ 140737488355328) (hbytes : (n + 1) * bytes ≤ 140737488355328) (hbase : base ≤ w0.heap.size)
    (h : ∀ (g : Nat) (c : Nat) (w' : World), w'.ownsRow base e 1 (.slice (some ⟨g, 0, none⟩) (n + 1) c) (n + 1) ((l ++ [y]).map (Value.int .i64)) → Kp (fun k => (Value.slice ra n rc).ownBlock = some k) w0 w' → ((Value.slice ra n rc).ownBlock = some g ∨ g = w0.heap.size + 1) → wpList P ops Q rest (a.put o.dst (.slice (some ⟨g, 0, none⟩) (n + 1) c)) w') : wpList P ops Q (o :: rest) a (w0.alloc (.cells #[.int .i64 y] e)) := by
  have hnew : ∀ j u, ([.int .i64 y] : List Value)[j]? = some u → (w0.alloc (.cells #[.int .i64 y] e)).cell? ((⟨w0.heap.size, 0, none⟩ : Addr).add j) = some u := by
    intro j u hu
    have hadd : (⟨w0.heap.size, 0, none⟩ : Addr).add j = ⟨w0.heap.size, j, none⟩ := by unfold Addr.add; split <;> simp_all
    rw [hadd]
    have hh := heap_alloc_new w0 (.cells #[.int .i64 y] e)
    simp only [World.cell?, hh]
    simpa using hu
  refine wpList_append_lies _ hgd s x t ho base e i z 1 bytes ht hi hz hsize hby hzs (by decide) _ n (l.map (Value.int .i64)) hs (hown.alloc _) ⟨w0.heap.size, 0, none⟩ 1 1 [.int .i64 y] hx rfl hnew (by intro u hu; simp only [List.mem_cons, List.not_mem_nil, or_false] at hu; subst hu; rfl) (by decide) (by unfold maxLen; omega) hbytes (by simp; omega) (w0.heap.size + 1) (by simp) ?_
  intro g c w' h1 h2 h3 _
  refine h g c w' (by rw [List.map_append]; exact h1) ?_ h3
  exact (Kp.alloc w0 _).trans (Kp.grown (S := fun k => (Value.slice ra n rc).ownBlock = some k) h2 (fun i e => e)) (fun _ _ e => e)
theorem end8_get : ∀ (l : List Int), 0 < l.length → end8 l = l.getD (l.length - 1) 0
  | [], h => by simp at h
  | [x], _ => rfl
  | x :: y :: r, _ => by
    have := end8_get (y :: r) (by simp)
    simpa [end8, List.getD] using this
theorem lng8_at {R : List Rn8} {i : Nat} (h : i < R.length) (out : List Int) : lng8 (R.drop i) out = if bad8 (R.getD i ⟨0, 0⟩) out.length then none else if 320 < (out ++ List.replicate (R.getD i ⟨0, 0⟩).ct.toNat (val8 (R.getD i ⟨0, 0⟩) out)).length then none else lng8 (R.drop (i + 1)) (out ++ List.replicate (R.getD i ⟨0, 0⟩).ct.toNat (val8 (R.getD i ⟨0, 0⟩) out)) := by
  have hd : R.drop i = R.getD i ⟨0, 0⟩ :: R.drop (i + 1) := by rw [List.drop_eq_getElem_cons h]; simp [List.getD, h]
  rw [hd, lng8]
def lzs8 (R : List Rn8) : List Int := (lens8 R).getD []
def ler8 (R : List Rn8) : Int := if (lens8 R).isSome then 0 else 81
theorem lzs8_none {R : List Rn8} (h : lens8 R = none) : lzs8 R = [] ∧ ler8 R = 81 := by unfold lzs8 ler8; rw [h]; exact ⟨rfl, rfl⟩
theorem lzs8_some {R : List Rn8} {l : List Int} (h : lens8 R = some l) : lzs8 R = l ∧ ler8 R = 0 := by unfold lzs8 ler8; rw [h]; exact ⟨rfl, rfl⟩
def LsQ (w : World) (ty : TypeId) (zs : List Int) (er : Int) (e : Ending) (w' : World) : Prop := ∃ oa oc, e = .returned (.tuple #[.slice oa zs.length oc, .int .i64 er]) ∧ w'.ownsRow w.heap.size ty 1 (.slice oa zs.length oc) zs.length (zs.map (Value.int .i64)) ∧ Below w.heap.size w w'
/-- How far Lens has come. -/
def LnI (R : List Rn8) (w wr : World) (ty : TypeId) (n : Nat) (to ti : Value) : Prop := ∃ (i m oc : Nat) (oa : Option Addr) (out : List Int), i ≤ n ∧ m ≤ 320 ∧ ti = .int .i64 (i : Int) ∧ to = .slice oa m oc ∧ out.length = m ∧ (∀ z ∈ out, 0 ≤ z ∧ z ≤ 15) ∧ lens8 R = lng8 (R.drop i) out ∧ wr.ownsRow w.heap.size ty 1 (.slice oa m oc) m (out.map (Value.int .i64)) ∧ Below w.heap.size w wr
/-- How far it has come within a run. -/
def LnK (out : List Int) (v : Int) (w wq : World) (ty : TypeId) (A c m : Nat) (to tk : Value) : Prop := ∃ (k m' oc : Nat) (oa : Option Addr), k ≤ c ∧ tk = .int .i64 (k : Int) ∧ to = .slice oa m' oc ∧ m' = m + k ∧ wq.ownsRow w.heap.size ty 1 (.slice oa m' oc) m' ((out ++ List.replicate k v).map (Value.int .i64)) ∧ Below w.heap.size w wq ∧ wq.cell? ⟨A, 1, none⟩ = some (.int .i64 (c : Int)) ∧ (Value.slice oa m' oc).ownBlock ≠ some A
theorem lst8_ge (s : Int) : 1 ≤ lst8 s := by unfold lst8; split; omega; split <;> omega
theorem grt8_le (s : Int) : grt8 s ≤ 138 := by unfold grt8; split; omega; split; omega; split <;> omega
end Go.Proofs.YthcmebmohhajaaaDoor

namespace Go.Proofs.YthcmebmohhajaaaDoor
open Go.RowKit
set_option linter.unusedVariables false

/-! The document's order, short. -/
def ord8 : List Int := [16, 17, 18, 0, 8, 7, 9, 6, 10, 5, 11, 4, 12, 3, 13, 2, 14, 1, 15]
set_option maxRecDepth 100000 in
theorem rorder8 (w : World) : Calls Tryd.prog 67 #[] w fun e w' => e = .returned (.slice (some ⟨w.heap.size, 0, none⟩) 19 19) ∧ w' = w.alloc (.cells (ord8.map (Value.int .i64)).toArray 3) := by
  go_enter Tryd.func67, Tryd.ntmps67
  go_wp2_with fail
  go_ret
  exact ⟨rfl, rfl⟩
/-- How many are left of the first n, without the noughts at their end. -/
def cut8 (zs : List Int) : Nat → Nat
  | 0 => 0
  | n + 1 => if zs.getD n 0 = 0 then cut8 zs n else n + 1
theorem cut8_le (zs : List Int) : ∀ n, cut8 zs n ≤ n
  | 0 => Nat.le_refl _
  | n + 1 => by
    rw [cut8]
    split
    · have := cut8_le zs n; omega
    · omega
def sht8 (zs : List Int) (k : Nat) : List Int := zs.take (cut8 zs zs.length) ++ List.replicate (k - cut8 zs zs.length) 0
def ShQ (w : World) (ty : TypeId) (l : List Int) (e : Ending) (w' : World) : Prop := ∃ oa oc, e = .returned (.slice oa l.length oc) ∧ w'.ownsRow w.heap.size ty 1 (.slice oa l.length oc) l.length (l.map (Value.int .i64)) ∧ Below w.heap.size w w'
def lenOfS : Value → Nat
  | .slice _ n _ => n
  | _ => 0
end Go.Proofs.YthcmebmohhajaaaDoor

namespace Go.Proofs.YthcmebmohhajaaaDoor
open Go.RowKit
set_option linter.unusedVariables false

/-! The document's Told, over any reckoning of Check (ck: errC of CdC, by rcheck5_any of CdR). -/
def tld8 (ck : List Int → Int) (lit dist : List Int) : Prop := 257 ≤ lit.length ∧ lit.length ≤ 286 ∧ dist.length ≤ 30 ∧ ck lit = 0 ∧ ck dist = 0 ∧ lit.getD 256 0 ≠ 0
instance (ck : List Int → Int) (lit dist : List Int) : Decidable (tld8 ck lit dist) := by unfold tld8; infer_instance
/-- What Check answers at one list. -/
structure Chk8 (w : World) (a : Option Addr) (n ca : Nat) (v : Int) : Prop where
  out : Calls Tryd.prog 68 #[.slice a n ca] w fun e w' => e = .returned (.int .i64 v) ∧ w' = w
set_option maxRecDepth 100000 in
set_option maxHeartbeats 4000000 in
theorem rtold8 (ck : List Int → Int) (HCK : Hid (∀ (a : Option Addr) (zs : List Int) (n cap : Nat) (w : World), zs.length = n → SegZ w a zs → n ≤ 288 → Calls Tryd.prog 68 #[.slice a n cap] w fun e w' => e = .returned (.int .i64 (ck zs)) ∧ w' = w))
    (xs ys : List Int) (a b : Option Addr) (n m ca cb : Nat) (hn : Hid (xs.length = n)) (hm : Hid (ys.length = m)) (w : World) (hx : SegZ w a xs) (hy : SegZ w b ys) :
    Calls Tryd.prog 85 #[.slice a n ca, .slice b m cb] w fun e w' => e = .returned (.bool (decide (tld8 ck xs ys))) ∧ w' = w := by
  have HX : Hid (SegZ w a xs) := hx
  have HY : Hid (SegZ w b ys) := hy
  have HT : Hid (tld8 ck xs ys ↔ 257 ≤ n ∧ n ≤ 286 ∧ m ≤ 30 ∧ ck xs = 0 ∧ ck ys = 0 ∧ xs.getD 256 0 ≠ 0) := by
    unfold tld8
    rw [hn.out, hm.out]
    exact Iff.rfl
  clear hx hy
  by_cases h1 : n ≤ 256
  · have h1i : (n : Int) ≤ 256 := by omega
    have HF : Hid (decide (tld8 ck xs ys) = false) := by
      show _ = _
      simp only [decide_eq_false_iff_not]
      intro h
      have := HT.out.1 h
      omega
    go_enter Tryd.func85, Tryd.ntmps85
    go_wp2_with fail
    go_ret
    exact ⟨by rw [HF.out]; rfl, rfl⟩
  have h1i : ¬ (n : Int) ≤ 256 := by omega
  by_cases h2 : 286 < n
  · have h2i : 286 < (n : Int) := by omega
    have HF : Hid (decide (tld8 ck xs ys) = false) := by
      show _ = _
      simp only [decide_eq_false_iff_not]
      intro h
      have := HT.out.1 h
      omega
    go_enter Tryd.func85, Tryd.ntmps85
    go_wp2_with fail
    go_ret
    exact ⟨by rw [HF.out]; rfl, rfl⟩
  have h2i : ¬ 286 < (n : Int) := by omega
  by_cases h3 : 30 < m
  · have h3i : 30 < (m : Int) := by omega
    have HF : Hid (decide (tld8 ck xs ys) = false) := by
      show _ = _
      simp only [decide_eq_false_iff_not]
      intro h
      have := HT.out.1 h
      omega
    go_enter Tryd.func85, Tryd.ntmps85
    go_wp2_with fail
    go_ret
    exact ⟨by rw [HF.out]; rfl, rfl⟩
  have h3i : ¬ 30 < (m : Int) := by omega
  have HC1 : Chk8 w a n ca (ck xs) := ⟨HCK.out a xs n ca w hn.out HX.out (by omega)⟩
  have HC2 : Chk8 w b m cb (ck ys) := ⟨HCK.out b ys m cb w hm.out HY.out (by omega)⟩
  have HCA : Hid (∀ a n ca v, Chk8 w a n ca v → Calls Tryd.prog 68 #[.slice a n ca] w fun e w' => e = .returned (.int .i64 v) ∧ w' = w) := fun _ _ _ _ h => h.out
  clear HCK
  obtain ⟨bx, ox, rfl, c0⟩ := (show SegZ w a xs from HX.out).at_ 256 (by rw [hn.out]; omega)
  generalize xs.getD 256 0 = z at *
  have HR : Hid (decide (tld8 ck xs ys) = (decide (ck xs = 0) && decide (ck ys = 0) && decide (z ≠ 0))) := by
    show _ = _
    rw [Bool.eq_iff_iff]
    simp only [decide_eq_true_eq, Bool.and_eq_true]
    rw [HT.out]
    constructor
    · rintro ⟨_, _, _, g1, g2, g3⟩; exact ⟨⟨g1, g2⟩, g3⟩
    · rintro ⟨⟨g1, g2⟩, g3⟩; exact ⟨by omega, by omega, by omega, g1, g2, g3⟩
  clear HT
  generalize ck xs = e1 at *
  generalize ck ys = e2 at *
  by_cases g1 : e1 = 0
  · subst g1
    by_cases g2 : e2 = 0
    · subst g2
      by_cases g3 : z = 0
      · subst g3
        go_enter Tryd.func85, Tryd.ntmps85
        go_wp2_with (first | (go_at_call 68; refine (HCA.out _ _ _ _ (by assumption)).mono ?_; rintro e w1 ⟨rfl, hw1⟩; subst w1))
        go_ret
        exact ⟨by rw [HR.out]; rfl, rfl⟩
      · have g3b : (z == 0) = false := by simp [g3]
        go_enter Tryd.func85, Tryd.ntmps85
        go_wp2_with (first | (go_at_call 68; refine (HCA.out _ _ _ _ (by assumption)).mono ?_; rintro e w1 ⟨rfl, hw1⟩; subst w1))
        go_ret
        exact ⟨by rw [HR.out]; simp [g3], rfl⟩
    · have g2b : (e2 == 0) = false := by simp [g2]
      go_enter Tryd.func85, Tryd.ntmps85
      go_wp2_with (first | (go_at_call 68; refine (HCA.out _ _ _ _ (by assumption)).mono ?_; rintro e w1 ⟨rfl, hw1⟩; subst w1))
      go_ret
      exact ⟨by rw [HR.out]; simp [g2], rfl⟩
  · have g1b : (e1 == 0) = false := by simp [g1]
    go_enter Tryd.func85, Tryd.ntmps85
    go_wp2_with (first | (go_at_call 68; refine (HCA.out _ _ _ _ (by assumption)).mono ?_; rintro e w1 ⟨rfl, hw1⟩; subst w1))
    go_ret
    exact ⟨by rw [HR.out]; simp [g1], rfl⟩
end Go.Proofs.YthcmebmohhajaaaDoor

namespace Go.Proofs.YthcmebmohhajaaaDoor
open Go.RowKit
set_option linter.unusedVariables false

/-! The two tables of package head, where the program's text lays them. -/
def snsL : List Int := [0, 1, 0, 1, 1, 0, 2, 1, 0, 3, 1, 0, 4, 1, 0, 5, 1, 0, 6, 1, 0, 7, 1, 0, 8, 1, 0, 9, 1, 0, 10, 1, 0, 11, 1, 0, 12, 1, 0, 13, 1, 0, 14, 1, 0, 15, 1, 0, -1, 3, 2, 0, 3, 3, 0, 11, 7]
def ordL : List Int := [16, 17, 18, 0, 8, 7, 9, 6, 10, 5, 11, 4, 12, 3, 13, 2, 14, 1, 15]
abbrev TabS (w : World) : Prop := SegZ w (some ⟨0, 0, none⟩) snsL
abbrev TabO (w : World) : Prop := SegZ w (some ⟨1, 0, none⟩) ordL
/-- Which length a symbol stands for, as the table has it. -/
def sln8 (s : Int) : Int := if s = 16 then -1 else if 15 < s then 0 else s
theorem sns_get : ∀ k : Fin 19, snsL.getD (k.val * 3) 0 = sln8 k.val ∧ snsL.getD (k.val * 3 + 1) 0 = lst8 k.val ∧ snsL.getD (k.val * 3 + 2) 0 = mor8 k.val := by decide
theorem TabS.at8 {w : World} (h : TabS w) (k : Nat) (hk : k < 19) : w.cell? ⟨0, k * 3, none⟩ = some (.int .i64 (sln8 k)) ∧ w.cell? ⟨0, k * 3 + 1, none⟩ = some (.int .i64 (lst8 k)) ∧ w.cell? ⟨0, k * 3 + 2, none⟩ = some (.int .i64 (mor8 k : Int)) := by
  have hl : snsL.length = 57 := rfl
  obtain ⟨e1, e2, e3⟩ := sns_get ⟨k, hk⟩
  simp only at e1 e2 e3
  refine ⟨?_, ?_, ?_⟩
  · obtain ⟨b, o, e, c⟩ := h.at_ (k * 3) (by omega)
    cases e
    rw [Nat.zero_add, e1] at c
    exact c
  · obtain ⟨b, o, e, c⟩ := h.at_ (k * 3 + 1) (by omega)
    cases e
    rw [Nat.zero_add, e2] at c
    exact c
  · obtain ⟨b, o, e, c⟩ := h.at_ (k * 3 + 2) (by omega)
    cases e
    rw [Nat.zero_add, e3] at c
    exact c
theorem TabO.at8 {w : World} (h : TabO w) (k : Nat) (hk : k < 19) : w.cell? ⟨1, k, none⟩ = some (.int .i64 (ordL.getD k 0)) := by
  obtain ⟨b, o, e, c⟩ := h.at_ k (by show k < 19; exact hk)
  cases e
  rw [Nat.zero_add] at c
  exact c
theorem grt8_lst (s : Int) (h : s ≤ 18) : grt8 s = lst8 s + 2 ^ mor8 s - 1 := by
  unfold grt8 lst8 mor8
  by_cases h1 : s = 16
  · simp [h1]
  · by_cases h2 : s = 17
    · simp [h2]
    · by_cases h3 : s = 18
      · simp [h3]
      · simp [h1, h2, h3]
end Go.Proofs.YthcmebmohhajaaaDoor

namespace Go.Proofs.YthcmebmohhajaaaDoor
open Go.RowKit
set_option linter.unusedVariables false

theorem WrL.below {w w' : World} {b B N : Nat} {v : Value} {L : List Bool} (h : WrL w b B v L) (hk : Kp (WS b v) w w') (h1 : N ≤ b) (h2 : N ≤ B) : Below N w w' :=
  hk.below (fun i e => by
    rcases e with e | e
    · omega
    · have := (h.own_lt i e).1; omega) (by have := h.b_lt; omega)
theorem heap_new (w : World) (o : Obj) : (w.alloc o).heap[w.heap.size]? = some o := heap_alloc_new w o
theorem toB_five : toB (([] : List Bool) ++ bN 5 3 ++ bN 1 2) = [13] := by
  rw [toB_eq (by decide)]
  rw [show (([] : List Bool) ++ bN 5 3 ++ bN 1 2).drop 8 = [] from by decide, toB_nil]
  decide

end Go.Proofs.YthcmebmohhajaaaDoor

namespace Go.Proofs.YthcmebmohhajaaaDoor
open Go.RowKit
set_option linter.unusedVariables false

def lent5 (zs : List Int) : List Int := zs ++ [71, 72, 73]
theorem lent5_bd {zs : List Int} (h : ∀ z ∈ zs, -9223372036854775808 ≤ z ∧ z ≤ 9223372036854775807) : ∀ z ∈ lent5 zs, -9223372036854775808 ≤ z ∧ z ≤ 9223372036854775807 := by
  intro z hz
  unfold lent5 at hz
  rw [List.mem_append] at hz
  rcases hz with hz | hz
  · exact h z hz
  · simp at hz; omega
theorem seg_three (w : World) : SegZ (w.alloc (.cells #[.int .i64 71, .int .i64 72, .int .i64 73] 3)) (some ⟨w.heap.size, 0, none⟩) [71, 72, 73] := by
  refine ⟨fun i hi => ⟨w.heap.size, 0, rfl, ?_⟩, getD_bdz (by intro z hz; simp at hz; omega)⟩
  simp only [List.length_cons, List.length_nil] at hi
  match i, hi with
  | 0, _ => simp
  | 1, _ => simp
  | 2, _ => simp
def LenQ5 (w : World) (zs : List Int) (e : Ending) (w' : World) : Prop := ∃ g c, e = .returned (.tuple #[.slice (some ⟨g, 0, none⟩) (lent5 zs).length c, .slice (some ⟨g, 0, none⟩) zs.length c]) ∧ w'.ownsRow w.heap.size 3 1 (.slice (some ⟨g, 0, none⟩) (lent5 zs).length c) (lent5 zs).length ((lent5 zs).map (Value.int .i64)) ∧ (lent5 zs).length ≤ c ∧ Below w.heap.size w w'
end Go.Proofs.YthcmebmohhajaaaDoor

namespace Go.Proofs.YthcmebmohhajaaaDoor
open Go.RowKit
set_option linter.unusedVariables false

theorem spc_nil : spc [] = 0 := cP_nil 16
theorem tot_nil : tot [] = 0 := cS_nil 16
theorem spc_take {zs : List Int} {k : Nat} (h : zs.length ≤ 288) (hk : LOk (zs.take k)) : spc (zs.take k) ≤ 288 * 16384 := by
  have h1 := spc_tot (zs.take k)
  have h2 := tot_le (zs.take k) hk
  have h3 : (zs.take k).length ≤ 288 := by simp; omega
  have h4 : tot (zs.take k) ≤ 288 := by omega
  exact Nat.le_trans h1 (Nat.mul_le_mul_right _ h4)
theorem LOk.take_of {zs : List Int} {k : Nat} (h : ∀ i, i < k → 0 ≤ zs.getD i 0 ∧ zs.getD i 0 ≤ 15) : LOk (zs.take k) := by
  intro z hz
  obtain ⟨i, hi, rfl⟩ := List.mem_iff_getElem.1 hz
  have hi2 : i < k ∧ i < zs.length := by simp at hi; omega
  have := h i hi2.1
  simpa [List.getD, hi2.2] using this

set_option maxRecDepth 100000 in
set_option maxHeartbeats 1000000 in
theorem r5space_any (a : Option Addr) (zs : List Int) (n cap : Nat) (hn : Hid (zs.length = n)) (w : World) (hs : SegZ w a zs) (hl : n ≤ 9223372036854775807) :
    Calls Tryd.prog 81 #[.slice a n cap] w fun e w' => e = .returned (.tuple #[.int .i64 (spcR zs : Int), .int .i64 (errS zs)]) ∧ w' = w := by
  by_cases h288 : 288 < n
  · have h288i : (288 : Int) < (n : Int) := by omega
    have HE : Hid (errS zs = 50 ∧ spcR zs = 0) := by
      have e := errS_many (show 288 < zs.length by have := hn.out; omega)
      exact ⟨e, by unfold spcR; rw [e, if_neg (by decide)]⟩
    go_enter Tryd.func81, Tryd.ntmps81
    go_wp2_with fail
    go_ret2
    exact ⟨by rw [HE.out.1, HE.out.2]; rfl, rfl⟩
  · have h288i : ¬ (288 : Int) < (n : Int) := by omega
    go_enter Tryd.func81, Tryd.ntmps81
    go_wp2_with fail
    go_loopw [4, 12] (fun tsum tj wr => ∃ j : Nat, j ≤ n ∧ tsum = .int .i64 (spc (zs.take j) : Int) ∧ tj = .int .i64 (j : Int) ∧ wr = w ∧ Hid (∀ i, i < j → 0 ≤ zs.getD i 0 ∧ zs.getD i 0 ≤ 15)) (fun _ tj _ => n - (intOf tj).toNat)
    case atStart => exact ⟨0, by omega, by rw [List.take_zero, spc_nil]; rfl, rfl, rfl, fun i h => by omega⟩
    case round =>
      obtain ⟨j, hj, rfl, rfl, hwr, HOK⟩ := hrel
      subst hwr
      by_cases hjn : j < n
      · have hji : (j : Int) < (n : Int) := by omega
        obtain ⟨b, off, rfl, c0⟩ := hs.at_ j (by have := hn.out; omega)
        have HTK : Hid (zs.take (j + 1) = zs.take j ++ [zs.getD j 0]) := take_snocZ (by have := hn.out; omega)
        have hbd := hs.bd j
        have HZ : Hid (∃ z, z = zs.getD j 0) := ⟨_, rfl⟩
        obtain ⟨z, hz⟩ := HZ.out
        have HZJ : Hid (z = zs.getD j 0) := hz
        rw [← hz] at HTK c0 hbd
        clear HZ hz
        have HER : Hid ((z < 0 ∨ 15 < z) → errS zs = 50 ∧ spcR zs = 0) := by
          intro h
          have e := errS_bad (zs := zs) (i := j) (by have := hn.out; omega) (by rw [← HZJ.out]; omega)
          exact ⟨e, by unfold spcR; rw [e, if_neg (by decide)]⟩
        by_cases hz0 : z < 0
        · go_wp2_with fail
          go_ret2
          exact ⟨by rw [(HER.out (.inl hz0)).1, (HER.out (.inl hz0)).2]; rfl, rfl⟩
        · by_cases hz15 : 15 < z
          · go_wp2_with fail
            go_ret2
            exact ⟨by rw [(HER.out (.inr hz15)).1, (HER.out (.inr hz15)).2]; rfl, rfl⟩
          · have HOK2 : Hid (∀ i, i < j + 1 → 0 ≤ zs.getD i 0 ∧ zs.getD i 0 ≤ 15) := fun i hi => by
              by_cases e : i = j
              · subst e; rw [← HZJ.out]; omega
              · exact HOK.out i (by omega)
            have HSN : Hid (spc (zs.take (j + 1)) = spc (zs.take j) + (if z = 0 then 0 else 2 ^ (15 - z.toNat))) := by
              show _ = _
              rw [HTK.out, spc_snoc _ (by omega)]
            have hsb : spc (zs.take (j + 1)) ≤ 10000000 := Nat.le_trans (spc_take (by have := hn.out; omega) (LOk.take_of HOK2.out)) (by decide)
            have HX : Hid (∃ x, x = spc (zs.take (j + 1))) := ⟨_, rfl⟩
            obtain ⟨x, hx⟩ := HX.out
            have HXX : Hid (x = spc (zs.take (j + 1))) := hx
            rw [← hx] at HSN hsb
            clear hx HX
            generalize spc (zs.take j) = s at *
            by_cases hz00 : z = 0
            · subst hz00
              have e : Hid (x = s) := by show _ = _; have := HSN.out; simpa using this
              go_wp2_with fail
              go_roundw
              case rel => exact ⟨j + 1, by omega, by rw [← HXX.out, e.out], by go_num, trivial, HOK2⟩
              case measure => simp [intOf]; omega
            · obtain ⟨q, hq⟩ : ∃ q : Nat, q = 15 - z.toNat := ⟨_, rfl⟩
              have rq : 15 - z = (q : Int) := by omega
              have HSN2 : Hid (x = s + 2 ^ q) := by have := HSN.out; rw [if_neg hz00, ← hq] at this; exact this
              have hp : 2 ^ q ≤ 2 ^ 15 := Nat.pow_le_pow_right (by decide) (by omega)
              obtain ⟨p, hp2⟩ : ∃ p, p = 2 ^ q := ⟨_, rfl⟩
              have HP : Hid (p = 2 ^ q) := hp2
              rw [← hp2] at hp
              have hw : RowKit.wrap64 ((2 : Int) ^ q) = (p : Int) := by
                have e : ((2 : Int) ^ q) = (p : Int) := by rw [HP.out]; exact (Int.natCast_pow 2 q).symm
                rw [e, ← IntWalk.i64_left]
                exact IntWalk.i64_in _ (by omega)
              have hxe : (s : Int) + (p : Int) = (x : Int) := by have := HSN2.out; rw [← HP.out] at this; omega
              have hq15 : q ≤ 15 := by omega
              have hz1 : (0 : Int) < z := by omega
              clear hq hp2
              go_wp2_with fail
              go_roundw
              case rel => exact ⟨j + 1, by omega, by rw [← HXX.out], by go_num, trivial, HOK2⟩
              case measure => simp [intOf]; omega
      · obtain rfl : j = n := by omega
        have HALL : Hid (zs.take j = zs) := by show _ = _; exact List.take_of_length_le (by have := hn.out; omega)
        have HE : Hid (errS zs = 0 ∧ spcR zs = spc zs) := by
          have hL := LOk.take_of HOK.out
          rw [HALL.out] at hL
          have e := errS_ok (show ¬ 288 < zs.length by have := hn.out; omega) hL
          exact ⟨e, by unfold spcR; rw [if_pos e]⟩
        go_wp2_with fail
        go_ret2
        exact ⟨by rw [HE.out.1, HE.out.2, HALL.out]; rfl, rfl⟩

set_option maxRecDepth 100000 in
set_option maxHeartbeats 1000000 in
theorem rcheck_any (a : Option Addr) (zs : List Int) (n cap : Nat) (hn : Hid (zs.length = n)) (w : World) (hs : SegZ w a zs) (hl : n ≤ 9223372036854775807) :
    Calls Tryd.prog 68 #[.slice a n cap] w fun e w' => e = .returned (.int .i64 (errC zs)) ∧ w' = w := by
  have C := r5space_any a zs n cap hn w hs hl
  rcases errS_two zs with he | he
  · have HE : Hid (errS zs = 0) := he
    have HSP : Hid (spcR zs = spc zs) := by show _ = _; unfold spcR; rw [if_pos he]
    have HL := errS_zero he
    have HLK : Hid (LOk zs) := HL.2
    have hn288 : n ≤ 288 := by have := hn.out; have := HL.1; omega
    rw [he, HSP.out] at C
    have HEC : Hid (errC zs = errR zs) := by show _ = _; unfold errC; rw [if_pos he]
    have hsb : spc zs ≤ 10000000 := by
      have h1 := spc_tot zs
      have h2 := tot_le zs HL.2
      have h3 : tot zs * 16384 ≤ 288 * 16384 := Nat.mul_le_mul_right _ (by omega)
      exact Nat.le_trans h1 (Nat.le_trans h3 (by decide))
    have HRR : Hid (errR zs = if 32768 < spc zs then 51 else if spc zs = 32768 ∨ tot zs = 0 ∨ (tot zs = 1 ∧ spc zs = 16384) then 0 else 52) := by
      show _ = _
      unfold errR
      by_cases c : tot zs = 1
      · have e : (cC zs 1 = 1) = (spc zs = 16384) := propext (one_half c).symm
        simp only [e]
      · have e1 : (tot zs = 1 ∧ cC zs 1 = 1) = False := by simp [c]
        have e2 : (tot zs = 1 ∧ spc zs = 16384) = False := by simp [c]
        simp only [e1, e2]
    clear he HL
    go_enter Tryd.func68, Tryd.ntmps68
    go_wp2_with fail
    refine C.mono ?_
    rintro e w1 ⟨rfl, hw1⟩
    subst w1
    generalize spc zs = s at *
    by_cases h1 : 32768 < s
    · have h1i : (32768 : Int) < (s : Int) := by omega
      go_wp2_with fail
      go_ret
      exact ⟨by rw [HEC.out, HRR.out, if_pos h1]; rfl, rfl⟩
    · have h1i : ¬ (32768 : Int) < (s : Int) := by omega
      go_wp2_with fail
      go_loopw [5, 20] (fun tu tj wr => ∃ j : Nat, j ≤ n ∧ tu = .int .i64 (tot (zs.take j) : Int) ∧ tj = .int .i64 (j : Int) ∧ wr = w) (fun _ tj _ => n - (intOf tj).toNat)
      case atStart => exact ⟨0, by omega, by rw [List.take_zero, tot_nil]; rfl, rfl, rfl⟩
      case round =>
        obtain ⟨j, hj, rfl, rfl, hwr⟩ := hrel
        subst hwr
        by_cases hjn : j < n
        · have hji : (j : Int) < (n : Int) := by omega
          obtain ⟨b, off, rfl, c0⟩ := hs.at_ j (by have := hn.out; omega)
          have HTK : Hid (zs.take (j + 1) = zs.take j ++ [zs.getD j 0]) := take_snocZ (by have := hn.out; omega)
          have HZB : Hid (0 ≤ zs.getD j 0 ∧ zs.getD j 0 ≤ 15) := HLK.out.get j
          have HTS : Hid (tot (zs.take (j + 1)) = tot (zs.take j) + (if zs.getD j 0 = 0 then 0 else 1)) := by
            show _ = _
            rw [HTK.out, tot_snoc _ HZB.out]
          have htb : tot (zs.take j) ≤ 288 := by
            have h1 := tot_le (zs.take j) (LOk.take_of (fun i _ => HLK.out.get i))
            simp at h1
            omega
          have HX : Hid (∃ x, x = tot (zs.take (j + 1))) := ⟨_, rfl⟩
          obtain ⟨x, hx⟩ := HX.out
          have HXX : Hid (x = tot (zs.take (j + 1))) := hx
          rw [← hx] at HTS
          clear hx HX
          generalize tot (zs.take j) = u at *
          generalize zs.getD j 0 = z at *
          by_cases hz0 : z = 0
          · subst hz0
            have e : Hid (x = u) := by show _ = _; have := HTS.out; simpa using this
            go_wp2_with fail
            go_roundw
            case rel => exact ⟨j + 1, by omega, by rw [← HXX.out, e.out], by go_num, trivial⟩
            case measure => simp [intOf]; omega
          · have hz1 : (0 : Int) < z := by have := HZB.out; omega
            have e : Hid (x = u + 1) := by show _ = _; have := HTS.out; rw [if_neg hz0] at this; exact this
            go_wp2_with fail
            go_roundw
            case rel => exact ⟨j + 1, by omega, by rw [← HXX.out, e.out]; go_num, by go_num, trivial⟩
            case measure => simp [intOf]; omega
        · obtain rfl : j = n := by omega
          have HALL : Hid (zs.take j = zs) := by show _ = _; exact List.take_of_length_le (by have := hn.out; omega)
          rw [HALL.out]
          have htb : tot zs ≤ 288 := Nat.le_trans (tot_le zs HLK.out) (by have := hn.out; omega)
          generalize tot zs = u at *
          by_cases c1 : s = 32768
          · subst c1
            have hf : Hid (errC zs = 0) := by show _ = _; rw [HEC.out, HRR.out, if_neg h1, if_pos (.inl rfl)]
            clear HRR
            go_wp2_with fail
            go_ret
            exact ⟨by rw [hf.out]; rfl, rfl⟩
          · have c1i : ¬ (s : Int) = 32768 := by omega
            by_cases c2 : u = 0
            · subst c2
              have hf : Hid (errC zs = 0) := by show _ = _; rw [HEC.out, HRR.out, if_neg h1, if_pos (.inr (.inl rfl))]
              clear HRR
              go_wp2_with fail
              go_ret
              exact ⟨by rw [hf.out]; rfl, rfl⟩
            · have c2i : ¬ (u : Int) = 0 := by omega
              by_cases c3 : u = 1
              · subst c3
                by_cases c4 : s = 16384
                · subst c4
                  have hf : Hid (errC zs = 0) := by show _ = _; rw [HEC.out, HRR.out, if_neg h1, if_pos (.inr (.inr ⟨rfl, rfl⟩))]
                  clear HRR
                  go_wp2_with fail
                  go_ret
                  exact ⟨by rw [hf.out]; rfl, rfl⟩
                · have c4i : ¬ (s : Int) = 16384 := by omega
                  have hf : Hid (errC zs = 52) := by show _ = _; rw [HEC.out, HRR.out, if_neg h1, if_neg (by omega)]
                  have c4b : ((s : Int) == 16384) = false := by simp; omega
                  have c1b : ((s : Int) == 32768) = false := by simp; omega
                  clear HRR
                  go_wp2_with fail
                  go_ret
                  exact ⟨by rw [hf.out]; rfl, rfl⟩
              · have c3i : ¬ (u : Int) = 1 := by omega
                have hf : Hid (errC zs = 52) := by show _ = _; rw [HEC.out, HRR.out, if_neg h1, if_neg (by omega)]
                have c3b : ((u : Int) == 1) = false := by simp; omega
                have c2b : ((u : Int) == 0) = false := by simp; omega
                have c1b : ((s : Int) == 32768) = false := by simp; omega
                clear HRR
                go_wp2_with fail
                go_ret
                exact ⟨by rw [hf.out]; rfl, rfl⟩
  · have HE : Hid (errS zs = 50 ∧ errC zs = 50) := ⟨he, by unfold errC; rw [he, if_neg (by decide)]⟩
    rw [he] at C
    clear he
    go_enter Tryd.func68, Tryd.ntmps68
    go_wp2_with fail
    refine C.mono ?_
    rintro e w1 ⟨rfl, hw1⟩
    subst w1
    go_wp2_with fail
    go_ret
    exact ⟨by rw [HE.out.2]; rfl, rfl⟩
end Go.Proofs.YthcmebmohhajaaaDoor

namespace Go.Proofs.YthcmebmohhajaaaDoor
open Go.RowKit
set_option linter.unusedVariables false

/-- The codes that have been given out when length n has come to symbol s. -/
def cdn (zs : List Int) (N n s : Nat) : List Int := (List.range N).map fun t => if 0 < ln zs t ∧ (ln zs t < n ∨ (ln zs t = n ∧ t < s)) then (cd zs t : Int) else 0
theorem cdn_len (zs : List Int) (N n s : Nat) : (cdn zs N n s).length = N := by simp [cdn]
theorem cdn_zero (zs : List Int) (N : Nat) : cdn zs N 1 0 = List.replicate N 0 := by
  apply List.ext_getElem (by simp [cdn])
  intro i h1 h2
  simp only [cdn, List.getElem_map, List.getElem_range, List.getElem_replicate]
  rw [if_neg (by omega)]
theorem cdn_next (zs : List Int) (n : Nat) : cdn zs zs.length n zs.length = cdn zs zs.length (n + 1) 0 := by
  unfold cdn
  apply List.map_congr_left
  intro t ht
  rw [List.mem_range] at ht
  have e : (0 < ln zs t ∧ (ln zs t < n ∨ ln zs t = n ∧ t < zs.length)) = (0 < ln zs t ∧ (ln zs t < n + 1 ∨ ln zs t = n + 1 ∧ t < 0)) := propext (by omega)
  simp only [e]
theorem cdn_skip {zs : List Int} {N n s : Nat} (h : ln zs s ≠ n) : cdn zs N n (s + 1) = cdn zs N n s := by
  unfold cdn
  apply List.map_congr_left
  intro t _
  have e : (0 < ln zs t ∧ (ln zs t < n ∨ ln zs t = n ∧ t < s + 1)) = (0 < ln zs t ∧ (ln zs t < n ∨ ln zs t = n ∧ t < s)) := by
    apply propext
    by_cases c : t = s
    · subst c; omega
    · omega
  simp only [e]
theorem cdn_put {zs : List Int} {N n s : Nat} (h : ln zs s = n) (h0 : 0 < n) : (cdn zs N n s).set s (cd zs s : Int) = cdn zs N n (s + 1) := by
  apply List.ext_getElem (by simp [cdn])
  intro i h1 h2
  simp only [List.getElem_set, cdn, List.getElem_map, List.getElem_range]
  by_cases e : s = i
  · subst e
    rw [if_pos rfl, if_pos (by omega)]
  · rw [if_neg e]
    have e2 : (0 < ln zs i ∧ (ln zs i < n ∨ ln zs i = n ∧ i < s)) = (0 < ln zs i ∧ (ln zs i < n ∨ ln zs i = n ∧ i < s + 1)) := propext (by omega)
    simp only [e2]
theorem cdn_all {zs : List Int} (h : LOk zs) : cdn zs zs.length 16 0 = cds zs := by
  unfold cdn cds
  apply List.map_congr_left
  intro t ht
  have hl := (h.ln t).2
  by_cases c : 0 < ln zs t
  · rw [if_pos (by omega)]
  · rw [if_neg (by omega)]
    have : zs.getD t 0 = 0 := by have := (h.ln t).1; omega
    rw [cd_none this]
    rfl
/-- What the document's two numbers mean at length n, symbol s. -/
def NL (zs : List Int) (n s nx la : Nat) : Prop := (la = 0 → nx = 0 ∧ cF zs n + cC (zs.take s) n = 0) ∧ (0 < la → la ≤ n ∧ (nx + 1) * 2 ^ (n - la) = cF zs n + cC (zs.take s) n)
theorem NL.start (zs : List Int) : NL zs 1 0 0 0 := by
  refine ⟨fun _ => ⟨rfl, ?_⟩, fun h => by omega⟩
  rw [cF_succ, cC_zero, List.take_zero]
  unfold cC
  simp [cF]
theorem NL.next {zs : List Int} {n nx la : Nat} (h : NL zs n zs.length nx la) : NL zs (n + 1) 0 nx la := by
  have e0 : cC (zs.take 0) (n + 1) = 0 := by rw [List.take_zero]; unfold cC; split <;> simp
  have e1 : zs.take zs.length = zs := List.take_length
  unfold NL at h ⊢
  rw [e1] at h
  rw [e0, cF_succ]
  refine ⟨fun hl => ⟨(h.1 hl).1, by have := (h.1 hl).2; omega⟩, fun hl => ⟨by have := (h.2 hl).1; omega, ?_⟩⟩
  have h2 := h.2 hl
  rw [show n + 1 - la = (n - la) + 1 by omega, Nat.pow_succ, ← Nat.mul_assoc, h2.2]
  omega
theorem NL.skip {zs : List Int} {n s nx la : Nat} {z : Int} (h : NL zs n s nx la) (ht : zs.take (s + 1) = zs.take s ++ [z]) (hz : z ≠ (n : Int)) : NL zs n (s + 1) nx la := by
  unfold NL at h ⊢
  rw [ht, cC_snoc, if_neg (fun e => hz e.2), Nat.add_zero]
  exact h
theorem NL.code {zs : List Int} {n s nx la : Nat} (h : NL zs n s nx la) (hz : zs.getD s 0 = (n : Int)) (h0 : 0 < n) : cd zs s = (if la = 0 then nx else (nx + 1) * 2 ^ (n - la)) := by
  have e := cd_nxt hz h0
  by_cases c : la = 0
  · rw [if_pos c]
    have := h.1 c
    omega
  · rw [if_neg c]
    have := (h.2 (by omega)).2
    omega
theorem NL.put {zs : List Int} {n s : Nat} (ht : zs.take (s + 1) = zs.take s ++ [(n : Int)]) (hz : zs.getD s 0 = (n : Int)) (h0 : 0 < n) : NL zs n (s + 1) (cd zs s) n := by
  have e := cd_nxt hz h0
  refine ⟨fun h => by omega, fun _ => ⟨Nat.le_refl _, ?_⟩⟩
  rw [ht, cC_snoc, if_pos ⟨by omega, rfl⟩, Nat.sub_self, Nat.pow_zero, Nat.mul_one]
  omega

theorem NL.bd {zs : List Int} {n s nx la : Nat} (h : NL zs n s nx la) (hf : cF zs n ≤ 100000000) (hc : cC (zs.take s) n ≤ 288) : nx ≤ 100001000 := by
  by_cases c : la = 0
  · have := (h.1 c).1; omega
  · have h1 := (h.2 (by omega)).2
    have h2 : (nx + 1) * 1 ≤ (nx + 1) * 2 ^ (n - la) := Nat.mul_le_mul_left _ Nat.one_le_two_pow
    omega
def RodQ (w : World) (zs : List Int) (e : Ending) (w' : World) : Prop := ∃ b c, e = .returned (.tuple #[.slice b (cdsR zs).length c, .int .i64 (errC zs)]) ∧ w'.ownsRow w.heap.size 3 1 (.slice b (cdsR zs).length c) (cdsR zs).length ((cdsR zs).map (Value.int .i64)) ∧ Below w.heap.size w w'
set_option maxRecDepth 100000 in
set_option maxHeartbeats 2000000 in
theorem rcodes_any (a : Option Addr) (zs : List Int) (n cap : Nat) (hn : Hid (zs.length = n)) (w : World) (hs : SegZ w a zs) (hl : n ≤ 9223372036854775807) :
    Calls Tryd.prog 95 #[.slice a n cap] w fun e w' => RodQ w zs e w' := by
  have HC := rcheck_any a zs n cap hn w hs hl
  by_cases hok : errC zs = 0
  · have HOK : Hid (errC zs = 0) := hok
    have HL := errS_zero (errC_zero hok).1
    have HLK : Hid (LOk zs) := HL.2
    have hn288 : n ≤ 288 := by have := hn.out; have := HL.1; omega
    rw [hok] at HC
    clear hok HL
    have hb : ∀ l, cC zs l ≤ 288 := cC_288 (errC_zero HOK.out).1
    have HFB : Hid (∀ l, l ≤ 15 → cF zs l ≤ 100000000) := cF_bd hb
    have hmk := run_make_ints n (by omega)
    go_enter Tryd.func95, Tryd.ntmps95
    go_wp2_with fail
    refine HC.mono ?_
    rintro e w1 ⟨rfl, hw1⟩
    subst w1
    go_wp2_with fail
    have hO := own_zeros w n (by omega)
    have B5 : Below w.heap.size w (w.alloc (.cells (Array.replicate n (.int .i64 0)) 3)) := (Below.refl _ _).alloc (Nat.le_refl _) _
    generalize w.alloc (.cells (Array.replicate n (.int .i64 0)) 3) = W5 at *
    obtain ⟨g, eg⟩ : ∃ g, g = w.heap.size := ⟨_, rfl⟩
    have HG : Hid (w.heap.size ≤ g) := Nat.le_of_eq eg.symm
    rw [← eg]
    rw [show (Value.slice (some ⟨w.heap.size, 0, none⟩) n n) = .slice (some ⟨g, 0, none⟩) n n by rw [← eg]] at hO
    rw [← cdn_zero zs n] at hO
    clear eg
    go_loopw [6, 7, 8] (fun tn ta tl wr => ∃ nx la lv : Nat, 1 ≤ lv ∧ lv ≤ 16 ∧ tn = .int .i64 (nx : Int) ∧ ta = .int .i64 (la : Int) ∧ tl = .int .i64 (lv : Int) ∧ wr.ownsRow w.heap.size 3 1 (.slice (some ⟨g, 0, none⟩) n n) n ((cdn zs n lv 0).map (Value.int .i64)) ∧ Below w.heap.size w wr ∧ Hid (NL zs lv 0 nx la)) (fun _ _ tl _ => 16 - (intOf tl).toNat)
    case atStart => exact ⟨0, 0, 1, by omega, by omega, rfl, rfl, rfl, hO, B5, NL.start zs⟩
    case round =>
      obtain ⟨nx, la, lv, hlv1, hlv2, rfl, rfl, rfl, O1, B1, HNL⟩ := hrel
      by_cases hlv : lv ≤ 15
      · have hlvi : (lv : Int) ≤ 15 := by omega
        have hfb := HFB.out lv hlv
        have HFL : Hid (cF zs lv ≤ 100000000) := hfb
        clear hfb
        go_wp2_with fail
        go_loopw [6, 7, 25] (fun tn ta tj wr => ∃ nx la j : Nat, j ≤ n ∧ tn = .int .i64 (nx : Int) ∧ ta = .int .i64 (la : Int) ∧ tj = .int .i64 (j : Int) ∧ wr.ownsRow w.heap.size 3 1 (.slice (some ⟨g, 0, none⟩) n n) n ((cdn zs n lv j).map (Value.int .i64)) ∧ Below w.heap.size w wr ∧ Hid (NL zs lv j nx la)) (fun _ _ tj _ => n - (intOf tj).toNat)
        case atStart => exact ⟨nx, la, 0, by omega, rfl, rfl, rfl, O1, B1, HNL⟩
        case round =>
          obtain ⟨nx, la, j, hj, rfl, rfl, rfl, OJ, Bw, HN⟩ := hrel
          clear O1 B1 HNL
          by_cases hjn : j < n
          · have hji : (j : Int) < (n : Int) := by omega
            obtain ⟨b, off, rfl, c0⟩ := (hs.old Bw).at_ j (by have := hn.out; omega)
            have HTK : Hid (zs.take (j + 1) = zs.take j ++ [zs.getD j 0]) := take_snocZ (by have := hn.out; omega)
            have hzl := HLK.out.ln j
            have HZL : Hid (zs.getD j 0 = (ln zs j : Int)) := hzl.1
            have HZ : Hid (∃ z, z = zs.getD j 0) := ⟨_, rfl⟩
            obtain ⟨z, hz⟩ := HZ.out
            have HZJ : Hid (z = zs.getD j 0) := hz
            have hbz : 0 ≤ z ∧ z ≤ 15 := by rw [hz]; exact HLK.out.get j
            rw [← hz] at HTK c0
            clear HZ hz hzl
            by_cases hzl : z = (lv : Int)
            · have HLJ : Hid (ln zs j = lv) := by have h1 := HZJ.out; have h2 := HZL.out; show _ = _; omega
              have HZV : Hid (zs.getD j 0 = (lv : Int)) := by show _ = _; rw [← HZJ.out]; exact hzl
              have HCD : Hid (cd zs j = if la = 0 then nx else (nx + 1) * 2 ^ (lv - la)) := HN.out.code HZV.out (by omega)
              have hnb : nx ≤ 100001000 := HN.out.bd HFL.out (Nat.le_trans (cC_le _ _) (by have := hn.out; simp; omega))
              have hcdb : cd zs j < 32768 := (cd_small HOK.out (by have := hn.out; omega)).2.2
              have HTK2 : Hid (zs.take (j + 1) = zs.take j ++ [(lv : Int)]) := by have := HTK.out; rw [hzl] at this; exact this
              have HNP : Hid (NL zs lv (j + 1) (cd zs j) lv) := NL.put HTK2.out HZV.out (by omega)
              obtain ⟨a0, fz⟩ := own_cell1 OJ (i := j) (by rw [cdn_len]; omega)
              have f0 := fz j
              obtain ⟨OS, GS⟩ := OJ.stored j (.int .i64 (cd zs j : Int))
              rw [← List.map_set, cdn_put HLJ.out (by omega)] at OS
              have HOS : Hid _ := OS
              have HBS : Hid _ := Bw.grown GS Bw.size (fun k hk => by cases hk; exact HG.out)
              clear OS GS fz
              generalize (cdn zs n lv j).getD j 0 = zz at *
              have HC2 : Hid (∃ c, c = cd zs j) := ⟨_, rfl⟩
              obtain ⟨c, hc⟩ := HC2.out
              have HCJ : Hid (c = cd zs j) := hc
              rw [← hc] at HCD hcdb HNP HOS HBS
              clear hc HC2
              subst hzl
              by_cases hla : la = 0
              · subst hla
                have e : Hid (c = nx) := by show _ = _; have := HCD.out; simpa using this
                have e2 := e.out
                subst e2
                clear HCD
                go_wp2_with fail
                go_roundw
                case rel => exact ⟨c, lv, j + 1, by omega, rfl, rfl, by go_num, HOS.out, HBS.out, HNP⟩
                case measure => simp [intOf]; omega
              · have hlai : (0 : Int) < (la : Int) := by omega
                have hlal : la ≤ lv := (HN.out.2 (by omega)).1
                obtain ⟨q, hq⟩ : ∃ q : Nat, q = lv - la := ⟨_, rfl⟩
                have rq : (lv : Int) - (la : Int) = (q : Int) := by omega
                obtain ⟨y, hy⟩ : ∃ y, y = nx + 1 := ⟨_, rfl⟩
                have ry : (nx : Int) + 1 = (y : Int) := by omega
                have HCE : Hid (c = y * 2 ^ q) := by have := HCD.out; rw [if_neg hla, ← hq, ← hy] at this; exact this
                have hw : RowKit.wrap64 ((y : Int) * 2 ^ q) = (c : Int) := by
                  have e : ((y : Int) * 2 ^ q) = (c : Int) := by rw [HCE.out]; simp
                  rw [e, ← IntWalk.i64_left]
                  exact IntWalk.i64_in _ (by omega)
                have hq15 : q ≤ 15 := by omega
                have hyb : y ≤ 100001001 := by omega
                clear hq hy HCD
                go_wp2_with fail
                go_roundw
                case rel => exact ⟨c, lv, j + 1, by omega, by rw [hw], rfl, by go_num, HOS.out, HBS.out, HNP⟩
                case measure => simp [intOf]; omega
            · have HLJ : Hid (ln zs j ≠ lv) := by have h1 := HZJ.out; have h2 := HZL.out; show _ ≠ _; omega
              have HNS : Hid (NL zs lv (j + 1) nx la) := HN.out.skip HTK.out hzl
              go_wp2_with fail
              go_roundw
              case rel => exact ⟨nx, la, j + 1, by omega, rfl, rfl, by go_num, by rw [cdn_skip HLJ.out]; exact OJ, Bw, HNS⟩
              case measure => simp [intOf]; omega
          · obtain rfl : j = n := by omega
            have HNX : Hid (NL zs (lv + 1) 0 nx la) := by have := HN.out; rw [← hn.out] at this; exact this.next
            have e : cdn zs j lv j = cdn zs j (lv + 1) 0 := by have := cdn_next zs lv; rw [hn.out] at this; exact this
            rw [e] at OJ
            clear e
            go_wp2_with fail
            go_roundw
            case rel => exact ⟨nx, la, lv + 1, by omega, by omega, rfl, rfl, by go_num, OJ, Bw, HNX⟩
            case measure => simp [intOf]; omega
      · obtain rfl : lv = 16 := by omega
        go_wp2_with fail
        go_ret2
        have e1 : cdsR zs = cds zs := by unfold cdsR; rw [if_pos HOK.out]
        have e2 : cdn zs n 16 0 = cds zs := by have := cdn_all HLK.out; rw [hn.out] at this; exact this
        have e3 : (cds zs).length = n := by rw [cds_len]; exact hn.out
        refine ⟨some ⟨g, 0, none⟩, n, ?_, ?_, B1⟩
        · rw [e1, e3, HOK.out]; rfl
        · rw [e1, e3, ← e2]; exact O1
  · have HNK : Hid (¬ errC zs = 0) := hok
    have e1 : Hid (cdsR zs = []) := by show _ = _; unfold cdsR; rw [if_neg hok]
    have key : ∀ E : Int, E = 50 ∨ E = 51 ∨ E = 52 → errC zs = E → Calls Tryd.prog 95 #[.slice a n cap] w fun e w' => RodQ w zs e w' := by
      intro E hE hEE
      have HEE : Hid (errC zs = E) := hEE
      rw [hEE] at HC
      clear hEE hok
      rcases hE with rfl | rfl | rfl
      all_goals
        go_enter Tryd.func95, Tryd.ntmps95
        go_wp2_with fail
        refine HC.mono ?_
        rintro e w1 ⟨rfl, hw1⟩
        subst w1
        go_wp2_with fail
        go_ret2
        refine ⟨none, 0, ?_, ?_, Below.refl _ _⟩
        · rw [e1.out, HEE.out]; rfl
        · rw [e1.out]; exact World.ownsRow_nil _ _ _ _
    rcases errC_cases zs with h | h | h | h
    · exact absurd h hok
    · exact key 50 (.inl rfl) h
    · exact key 51 (.inr (.inl rfl)) h
    · exact key 52 (.inr (.inr rfl)) h
end Go.Proofs.YthcmebmohhajaaaDoor

namespace Go.Proofs.YthcmebmohhajaaaDoor
open Go.RowKit
set_option linter.unusedVariables false

theorem run_conv_seg {P : Program} {w : World} {a : Option Addr} {zs : List Int} (cap : Nat) (h : Seg w a zs) (src e dst : TypeId) (hs : P.underlying src = some (.slice e)) (he : P.underlying e = some (.int .u8)) (hd : P.underlying dst = some .string) :
    (convert src dst (.slice a zs.length cap)).run P w = .ok (.string (strOfNums zs)) w := by
  by_cases hz : 0 < zs.length
  · obtain ⟨b, off, rfl, _⟩ := h.at_ 0 hz
    refine run_convert_bytes_arg w src e hs he b off zs.length cap zs rfl (fun i hi => ?_) dst hd
    obtain ⟨b', off', hb, hc⟩ := h.at_ i hi
    cases hb
    exact hc
  · have : zs = [] := List.eq_nil_of_length_eq_zero (by omega)
    subst this
    cases a with
    | none => exact run_convert_bytes_nil w src e hs he _ _ dst hd
    | some x =>
      rw [run_convert_bytes_string w src dst e _ _ cap hs he hd]
      have hl : (loadCells x 0).run P w = .ok (([] : List Int).map (Value.int .u8)).toArray w := by simp [loadCells, loadCellsFrom]
      have := run_bytesToString (P := P) w x 0 cap [] hl
      exact this

theorem str_inj {xs ys : List Int} (hx : ∀ z ∈ xs, 0 ≤ z ∧ z ≤ 255) (hy : ∀ z ∈ ys, 0 ≤ z ∧ z ≤ 255) : ((strOfNums xs).toList == (strOfNums ys).toList) = (xs == ys) := by
  rw [ByteArray.toList_eq, ByteArray.toList_eq, strOfNums_data, strOfNums_data]
  have key : ∀ (xs ys : List Int), (∀ z ∈ xs, 0 ≤ z ∧ z ≤ 255) → (∀ z ∈ ys, 0 ≤ z ∧ z ≤ 255) → (xs.map fun n => UInt8.ofNat n.toNat) = (ys.map fun n => UInt8.ofNat n.toNat) → xs = ys := by
    intro xs
    induction xs with
    | nil => intro ys _ _ h; cases ys with
      | nil => rfl
      | cons y r => simp at h
    | cons x r ih =>
      intro ys hx hy h
      cases ys with
      | nil => simp at h
      | cons y t =>
        simp only [List.map_cons, List.cons.injEq] at h
        have h1 := hx x (by simp)
        have h2 := hy y (by simp)
        have h3 := congrArg UInt8.toNat h.1
        simp at h3
        have h4 : x = y := by omega
        rw [h4, ih t (fun z hz => hx z (by simp [hz])) (fun z hz => hy z (by simp [hz])) h.2]
  rw [Bool.eq_iff_iff, beq_iff_eq, beq_iff_eq]
  exact ⟨key xs ys hx hy, fun h => by rw [h]⟩

end Go.Proofs.YthcmebmohhajaaaDoor
