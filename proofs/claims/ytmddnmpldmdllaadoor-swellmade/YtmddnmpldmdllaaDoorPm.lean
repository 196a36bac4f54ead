import Derived.WalkKit
import Derived.Test.YtmddnmpldmdllaaDoorPb
import Derived.Test.YtmddnmpldmdllaaDoorProg
import Derived.Deep.AppendLies
import Derived.Deep.QuietTactic
import Derived.BigQuiet
namespace Go.Proofs.YtmddnmpldmdllaaDoor
set_option linter.unusedVariables false

/-! Layer 8 (head), without a program: lengths as runs, and back (P8.1, P8.2, P8.7). -/
structure Rn8 where
  sy : Int
  ct : Int
def lst8 (s : Int) : Int := if s = 16 ∨ s = 17 then 3 else if s = 18 then 11 else 1
def grt8 (s : Int) : Int := if s = 16 then 6 else if s = 17 then 10 else if s = 18 then 138 else 1
def mor8 (s : Int) : Nat := if s = 16 then 2 else if s = 17 then 3 else if s = 18 then 7 else 0
def bad8 (r : Rn8) (n : Nat) : Prop := r.sy < 0 ∨ 18 < r.sy ∨ r.ct < lst8 r.sy ∨ grt8 r.sy < r.ct ∨ (r.sy = 16 ∧ n = 0)
instance (r : Rn8) (n : Nat) : Decidable (bad8 r n) := by unfold bad8; infer_instance
def end8 : List Int → Int
  | [] => 0
  | [x] => x
  | _ :: r => end8 r
theorem end8_app (x : Int) : ∀ l : List Int, end8 (l ++ [x]) = x
  | [] => rfl
  | [y] => rfl
  | y :: z :: r => by
    have := end8_app x (z :: r)
    simpa [end8] using this
theorem end8_rep (v : Int) (l : List Int) : ∀ n, 0 < n → end8 (l ++ List.replicate n v) = v
  | 0, h => by omega
  | n + 1, _ => by rw [List.replicate_succ', ← List.append_assoc, end8_app]
def val8 (r : Rn8) (out : List Int) : Int := if r.sy = 16 then end8 out else if 15 < r.sy then 0 else r.sy
/-- What runs say behind lengths; none: they are no lengths. -/
def lng8 : List Rn8 → List Int → Option (List Int)
  | [], out => some out
  | r :: l, out => if bad8 r out.length then none else if 320 < (out ++ List.replicate r.ct.toNat (val8 r out)).length then none else lng8 l (out ++ List.replicate r.ct.toNat (val8 r out))
def lens8 (l : List Rn8) : Option (List Int) := lng8 l []
def pre8 (v : Int) : List Int → Nat
  | [] => 0
  | x :: r => if x = v then pre8 v r + 1 else 0
theorem pre8_le (v : Int) : ∀ l, pre8 v l ≤ l.length
  | [] => Nat.le_refl _
  | x :: r => by
    rw [pre8]
    split
    · have := pre8_le v r; simp; omega
    · simp
theorem pre8_take (v : Int) : ∀ (l : List Int) (n : Nat), n ≤ pre8 v l → l.take n = List.replicate n v
  | l, 0, _ => by simp
  | [], n + 1, h => by simp [pre8] at h
  | x :: r, n + 1, h => by
    rw [pre8] at h
    split at h
    · rename_i e
      rw [List.take_succ_cons, List.replicate_succ, e, pre8_take v r n (by omega)]
    · omega
def rep8 : Nat → Nat → List Rn8
  | 0, _ => []
  | f + 1, k => if 3 ≤ k then ⟨16, (min k 6 : Nat)⟩ :: rep8 f (k - min k 6) else []
def row8 (v : Int) (k : Nat) : List Rn8 := if v = 0 then (if 11 ≤ k then [⟨18, (min k 138 : Nat)⟩] else if 3 ≤ k then [⟨17, k⟩] else [⟨0, 1⟩]) else ⟨v, 1⟩ :: rep8 (k - 1) (k - 1)
def sum8 : List Rn8 → Nat
  | [] => 0
  | r :: l => r.ct.toNat + sum8 l
theorem rep8_sum : ∀ f k, sum8 (rep8 f k) ≤ k
  | 0, k => by simp [rep8, sum8]
  | f + 1, k => by
    rw [rep8]
    split
    · have := rep8_sum f (k - min k 6)
      simp only [sum8, Int.toNat_natCast]
      omega
    · simp [sum8]
theorem row8_sum {v : Int} {k : Nat} (hk : 1 ≤ k) : 1 ≤ sum8 (row8 v k) ∧ sum8 (row8 v k) ≤ k := by
  unfold row8
  split
  · split
    · simp only [sum8, Int.toNat_natCast]; omega
    · split
      · simp only [sum8, Int.toNat_natCast]; omega
      · simp [sum8]; omega
  · have := rep8_sum (k - 1) (k - 1)
    simp only [sum8]
    have e : (1 : Int).toNat = 1 := rfl
    rw [e]
    omega
def rung8 : Nat → List Int → List Rn8
  | 0, _ => []
  | _ + 1, [] => []
  | f + 1, v :: r => row8 v (pre8 v (v :: r)) ++ rung8 f ((v :: r).drop (sum8 (row8 v (pre8 v (v :: r)))))
def runs8 (l : List Int) : List Rn8 := rung8 l.length l
theorem lng8_one {r : Rn8} {l : List Rn8} {out : List Int} (h : ¬ bad8 r out.length) (hl : out.length + r.ct.toNat ≤ 320) : lng8 (r :: l) out = lng8 l (out ++ List.replicate r.ct.toNat (val8 r out)) := by
  rw [lng8, if_neg h, if_neg (by simp; omega)]
theorem lng8_rep {v : Int} (rest : List Rn8) : ∀ (f k : Nat) (out : List Int), 0 < out.length → end8 out = v → out.length + k ≤ 320 → lng8 (rep8 f k ++ rest) out = lng8 rest (out ++ List.replicate (sum8 (rep8 f k)) v)
  | 0, k, out, _, _, _ => by simp [rep8, sum8]
  | f + 1, k, out, h1, h2, h3 => by
    rw [rep8]
    split
    · rename_i hk
      have hv : val8 ⟨16, (min k 6 : Nat)⟩ out = v := by unfold val8; rw [if_pos rfl]; exact h2
      have hne : ¬ out = [] := by intro e; rw [e] at h1; simp at h1
      rw [List.cons_append, lng8_one (by unfold bad8 lst8 grt8; simp [hne]; omega) (by simp; omega), hv, lng8_rep rest f (k - min k 6) _ (by simp; omega) (end8_rep v out _ (by simp; omega)) (by simp; omega)]
      simp only [sum8, Int.toNat_natCast, List.append_assoc, List.replicate_append_replicate]
    · simp [sum8]
theorem lng8_row {v : Int} {k : Nat} (rest : List Rn8) (out : List Int) (hv : 0 ≤ v ∧ v ≤ 15) (hk : 1 ≤ k) (hl : out.length + k ≤ 320) : lng8 (row8 v k ++ rest) out = lng8 rest (out ++ List.replicate (sum8 (row8 v k)) v) := by
  unfold row8
  by_cases h0 : v = 0
  · rw [if_pos h0]
    subst h0
    split
    · rw [List.singleton_append, lng8_one (by unfold bad8 lst8 grt8; simp; omega) (by simp; omega)]
      simp [sum8, val8]
    · split
      · rw [List.singleton_append, lng8_one (by unfold bad8 lst8 grt8; simp; omega) (by simp; omega)]
        simp [sum8, val8]
      · rw [List.singleton_append, lng8_one (by unfold bad8 lst8 grt8; simp) (by simp; omega)]
        simp [sum8, val8]
  · rw [if_neg h0, List.cons_append]
    have e16 : ¬ v = 16 := by omega
    have e17 : ¬ v = 17 := by omega
    have e18 : ¬ v = 18 := by omega
    have hb : ¬ bad8 ⟨v, 1⟩ out.length := by unfold bad8 lst8 grt8; simp [e16, e17, e18]; omega
    have hvv : val8 ⟨v, 1⟩ out = v := by unfold val8; simp [e16]; omega
    rw [lng8_one hb (by simp; omega), hvv]
    have e1 : (1 : Int).toNat = 1 := rfl
    simp only [sum8, e1]
    rw [lng8_rep rest (k - 1) (k - 1) _ (by simp) (end8_rep v out 1 (by omega)) (by simp; omega), List.append_assoc, List.replicate_append_replicate]
theorem lng8_runs : ∀ (f : Nat) (l out : List Int), (∀ z ∈ l, 0 ≤ z ∧ z ≤ 15) → l.length ≤ f → out.length + l.length ≤ 320 → lng8 (rung8 f l) out = some (out ++ l)
  | 0, l, out, _, h, _ => by
    have : l = [] := List.length_eq_zero_iff.1 (by omega)
    subst this
    simp [rung8, lng8]
  | f + 1, [], out, _, _, _ => by simp [rung8, lng8]
  | f + 1, v :: r, out, hb, hf, hl => by
    have hp : 1 ≤ pre8 v (v :: r) := by rw [pre8, if_pos rfl]; omega
    have hpl := pre8_le v (v :: r)
    have hs := row8_sum (v := v) hp
    rw [rung8, lng8_row _ out (hb v (List.mem_cons_self ..)) hp (by omega)]
    have ht := pre8_take v (v :: r) (sum8 (row8 v (pre8 v (v :: r)))) hs.2
    generalize sum8 (row8 v (pre8 v (v :: r))) = n at *
    rw [lng8_runs f ((v :: r).drop n) _ (fun z hz => hb z (List.mem_of_mem_drop hz)) (by simp only [List.length_drop, List.length_cons] at *; omega) (by simp only [List.length_append, List.length_replicate, List.length_drop, List.length_cons] at *; omega), ← ht, List.append_assoc, List.take_append_drop]
/-- P8.7. -/
theorem lens8_runs8 {l : List Int} (hb : ∀ z ∈ l, 0 ≤ z ∧ z ≤ 15) (hl : l.length ≤ 320) : lens8 (runs8 l) = some l := by
  have := lng8_runs l.length l [] hb (Nat.le_refl _) (by simpa using hl)
  simpa [lens8, runs8] using this
end Go.Proofs.YtmddnmpldmdllaaDoor

namespace Go.Proofs.YtmddnmpldmdllaaDoor
open Go.RowKit
set_option linter.unusedVariables false

/-! The two tables of package head, where the program's text lays them. -/
def snsL : List Int := [0, 1, 0, 1, 1, 0, 2, 1, 0, 3, 1, 0, 4, 1, 0, 5, 1, 0, 6, 1, 0, 7, 1, 0, 8, 1, 0, 9, 1, 0, 10, 1, 0, 11, 1, 0, 12, 1, 0, 13, 1, 0, 14, 1, 0, 15, 1, 0, -1, 3, 2, 0, 3, 3, 0, 11, 7]
def ordL : List Int := [16, 17, 18, 0, 8, 7, 9, 6, 10, 5, 11, 4, 12, 3, 13, 2, 14, 1, 15]
abbrev TabS (w : World) : Prop := SegZ w (some ⟨0, 0, none⟩) snsL
abbrev TabO (w : World) : Prop := SegZ w (some ⟨1, 0, none⟩) ordL
/-- Which length a symbol stands for, as the table has it. -/
def sln8 (s : Int) : Int := if s = 16 then -1 else if 15 < s then 0 else s
theorem sns_get : ∀ k : Fin 19, snsL.getD (k.val * 3) 0 = sln8 k.val ∧ snsL.getD (k.val * 3 + 1) 0 = lst8 k.val ∧ snsL.getD (k.val * 3 + 2) 0 = mor8 k.val := by decide
theorem TabS.at8 {w : World} (h : TabS w) (k : Nat) (hk : k < 19) : w.cell? ⟨0, k * 3, none⟩ = some (.int .i64 (sln8 k)) ∧ w.cell? ⟨0, k * 3 + 1, none⟩ = some (.int .i64 (lst8 k)) ∧ w.cell? ⟨0, k * 3 + 2, none⟩ = some (.int .i64 (mor8 k : Int)) := by
  have hl : snsL.length = 57 := rfl
  obtain ⟨e1, e2, e3⟩ := sns_get ⟨k, hk⟩
  simp only at e1 e2 e3
  refine ⟨?_, ?_, ?_⟩
  · obtain ⟨b, o, e, c⟩ := h.at_ (k * 3) (by omega)
    cases e
    rw [Nat.zero_add, e1] at c
    exact c
  · obtain ⟨b, o, e, c⟩ := h.at_ (k * 3 + 1) (by omega)
    cases e
    rw [Nat.zero_add, e2] at c
    exact c
  · obtain ⟨b, o, e, c⟩ := h.at_ (k * 3 + 2) (by omega)
    cases e
    rw [Nat.zero_add, e3] at c
    exact c
theorem TabO.at8 {w : World} (h : TabO w) (k : Nat) (hk : k < 19) : w.cell? ⟨1, k, none⟩ = some (.int .i64 (ordL.getD k 0)) := by
  obtain ⟨b, o, e, c⟩ := h.at_ k (by show k < 19; exact hk)
  cases e
  rw [Nat.zero_add] at c
  exact c
theorem grt8_lst (s : Int) (h : s ≤ 18) : grt8 s = lst8 s + 2 ^ mor8 s - 1 := by
  unfold grt8 lst8 mor8
  by_cases h1 : s = 16
  · simp [h1]
  · by_cases h2 : s = 17
    · simp [h2]
    · by_cases h3 : s = 18
      · simp [h3]
      · simp [h1, h2, h3]
end Go.Proofs.YtmddnmpldmdllaaDoor

namespace Go.Proofs.YtmddnmpldmdllaaDoor
open Go.RowKit
set_option linter.unusedVariables false

/-! Runs in memory: two cells each. The document's least, greatest, more, row. -/
structure SegN (w : World) (a : Option Addr) (R : List Rn8) : Prop where
  at_ : ∀ i, i < R.length → ∃ b off, a = some ⟨b, off, none⟩ ∧ w.cell? ⟨b, off + i * 2, none⟩ = some (.int .i64 (R.getD i ⟨0, 0⟩).sy) ∧ w.cell? ⟨b, off + i * 2 + 1, none⟩ = some (.int .i64 (R.getD i ⟨0, 0⟩).ct)
theorem SegN.old {w w' : World} {a : Option Addr} {R : List Rn8} (h : SegN w a R) (hb : Below w.heap.size w w') : SegN w' a R :=
  ⟨fun i hi => by
    obtain ⟨b, off, e, c1, c2⟩ := h.at_ i hi
    have hl := World.block_lt_of_cell? w _ c1
    exact ⟨b, off, e, (hb.cell (p := ⟨b, off + i * 2, none⟩) hl).trans c1, (hb.cell (p := ⟨b, off + i * 2 + 1, none⟩) hl).trans c2⟩⟩
def flatN (L : List Rn8) : List Value := L.flatMap fun x => [.int .i64 x.sy, .int .i64 x.ct]
theorem flatN_app (l r : List Rn8) : flatN (l ++ r) = flatN l ++ flatN r := by unfold flatN; rw [List.flatMap_append]
theorem flatN_get : ∀ (l : List Rn8) (k : Nat) (x : Rn8), l[k]? = some x → (flatN l)[k * 2]? = some (.int .i64 x.sy) ∧ (flatN l)[k * 2 + 1]? = some (.int .i64 x.ct)
  | [], k, x, h => by simp at h
  | t :: r, 0, x, h => by
    simp at h
    subst h
    simp [flatN]
  | t :: r, k + 1, x, h => by
    have := flatN_get r k x (by simpa using h)
    have e : flatN (t :: r) = .int .i64 t.sy :: .int .i64 t.ct :: flatN r := rfl
    rw [e, show (k + 1) * 2 = k * 2 + 1 + 1 by omega]
    simpa [List.getElem?_cons_succ, show k * 2 + 1 + 1 + 1 = (k * 2 + 1) + 1 + 1 by omega] using this
theorem own_segN {w : World} {base n cap : Nat} {e : TypeId} {b : Option Addr} {l : List Rn8} (h : w.ownsRow base e 2 (.slice b n cap) n (flatN l)) (hl : l.length = n) : SegN w b l := by
  refine ⟨fun k hk => ?_⟩
  rcases h.2 with ⟨_, h0⟩ | ⟨g, cp, cur, hv, _⟩
  · omega
  simp only [Value.slice.injEq] at hv
  obtain ⟨rfl, _, rfl⟩ := hv
  have hc : ∀ j u, (flatN l)[j]? = some u → w.cell? ⟨g, j, none⟩ = some u := by
    intro j u hu
    have := h.cells (g := g) rfl j u hu
    have hadd : (⟨g, 0, none⟩ : Addr).add j = ⟨g, j, none⟩ := by unfold Addr.add; split <;> simp_all
    rwa [hadd] at this
  have hg : l[k]? = some (l.getD k ⟨0, 0⟩) := by simp [List.getD, show k < l.length by omega]
  obtain ⟨q0, q1⟩ := flatN_get l k _ hg
  exact ⟨g, 0, rfl, by rw [Nat.zero_add]; exact hc _ _ q0, by rw [Nat.zero_add]; exact hc _ _ q1⟩
theorem own_belowN {w w' : World} {base n sz : Nat} {e : TypeId} {v : Value} {xs : List Value} (h : w.ownsRow base e sz v n xs) (hb : Below w.heap.size w w') : w'.ownsRow base e sz v n xs := by
  refine ⟨h.1, ?_⟩
  rcases h.2 with h | ⟨g, cap, cur, h1, h2, h3, h4⟩
  · exact .inl h
  · exact .inr ⟨g, cap, cur, h1, h2, (hb.block g (Array.getElem?_eq_some_iff.1 h3).1).trans h3, h4⟩
theorem own_baseN {w : World} {base base' n sz : Nat} {e : TypeId} {v : Value} {xs : List Value} (h : w.ownsRow base e sz v n xs) (hb : base' ≤ base) : w.ownsRow base' e sz v n xs := by
  refine ⟨h.1, ?_⟩
  rcases h.2 with h | ⟨g, cap, cur, h1, h2, h3⟩
  · exact .inl h
  · exact .inr ⟨g, cap, cur, h1, Nat.le_trans hb h2, h3⟩
/-- A row of one run that was just made. -/
theorem own_oneN (w : World) (e : TypeId) (x : Rn8) : (w.alloc (.cells #[.int .i64 x.sy, .int .i64 x.ct] e)).ownsRow w.heap.size e 2 (.slice (some ⟨w.heap.size, 0, none⟩) 1 1) 1 (flatN [x]) :=
  ⟨rfl, .inr ⟨w.heap.size, 1, _, rfl, Nat.le_refl _, heap_alloc_new w _, Nat.le_refl _, by unfold maxLen; omega, rfl, rfl⟩⟩
/-- A run behind a row of the call's own. -/
theorem wpList_appN {P : Program} {ops : Array Oper} {rest : List Oper} {o : Oper} {a : Act} {Q : Exit → Act → World → Prop} (hgd : o.guard = none) (s x : Operand) (t : TypeId)
    (ho : o.op = .call { callee := .builtin .append, args := #[s, x], argTypes := #[t, t] })
    (base : Nat) (e : TypeId) (i : TypeInfo) (z : Value) (bytes : Nat) (ht : P.underlying t = some (.slice e)) (hi : P.info? e = some i) (hz : i.zero = some z)
    (hsize : i.size = 2) (hby : i.bytes = bytes) (hzs : z.cells.size = 2) (w0 : World) (y : Rn8)
    {ra : Option Addr} {n rc : Nat} {l : List Rn8} (hown : w0.ownsRow base e 2 (.slice ra n rc) n (flatN l)) (hs : a.eval s = .slice ra n rc) (hx : a.eval x = .slice (some ⟨w0.heap.size, 0, none⟩) 1 1)
    (h63 : n + 1 ≤ 140737488355328) (hbytes : (n + 1) * bytes ≤ 140737488355328) (hbase : base ≤ w0.heap.size)
    (h : ∀ (g : Nat) (c : Nat) (w' : World), w'.ownsRow base e 2 (.slice (some ⟨g, 0, none⟩) (n + 1) c) (n + 1) (flatN (l ++ [y])) → Kp (fun k => (Value.slice ra n rc).ownBlock = some k) w0 w' → ((Value.slice ra n rc).ownBlock = some g ∨ g = w0.heap.size + 1) → wpList P ops Q rest (a.put o.dst (.slice (some ⟨g, 0, none⟩) (n + 1) c)) w') : wpList P ops Q (o :: rest) a (w0.alloc (.cells #[.int .i64 y.sy, .int .i64 y.ct] e)) := by
  have hnew : ∀ j u, ([.int .i64 y.sy, .int .i64 y.ct] : List Value)[j]? = some u → (w0.alloc (.cells #[.int .i64 y.sy, .int .i64 y.ct] e)).cell? ((⟨w0.heap.size, 0, none⟩ : Addr).add j) = some u := by
    intro j u hu
    have hadd : (⟨w0.heap.size, 0, none⟩ : Addr).add j = ⟨w0.heap.size, j, none⟩ := by unfold Addr.add; split <;> simp_all
    rw [hadd]
    have hh := heap_alloc_new w0 (.cells #[.int .i64 y.sy, .int .i64 y.ct] e)
    simp only [World.cell?, hh]
    simpa using hu
  refine wpList_append_lies _ hgd s x t ho base e i z 2 bytes ht hi hz hsize hby hzs (by decide) _ n (flatN l) hs (hown.alloc _) ⟨w0.heap.size, 0, none⟩ 1 1 [.int .i64 y.sy, .int .i64 y.ct] hx rfl hnew (by intro u hu; simp only [List.mem_cons, List.not_mem_nil, or_false] at hu; rcases hu with rfl | rfl <;> rfl) (by decide) (by unfold maxLen; omega) hbytes (by simp; omega) (w0.heap.size + 1) (by simp) ?_
  intro g c w' h1 h2 h3 _
  refine h g c w' (by rw [flatN_app]; exact h1) ?_ h3
  exact (Kp.alloc w0 _).trans (Kp.grown (S := fun k => (Value.slice ra n rc).ownBlock = some k) h2 (fun i e => e)) (fun _ _ e => e)
end Go.Proofs.YtmddnmpldmdllaaDoor

namespace Go.Proofs.YtmddnmpldmdllaaDoor
open Go.RowKit
set_option linter.unusedVariables false

/-! The document's row, Runs. -/
theorem rep8_fuel : ∀ (f g k : Nat), k ≤ f → k ≤ g → rep8 f k = rep8 g k
  | 0, 0, k, _, _ => rfl
  | 0, g + 1, k, h, _ => by rw [rep8, rep8, if_neg (by omega)]
  | f + 1, 0, k, _, h => by rw [rep8, rep8, if_neg (by omega)]
  | f + 1, g + 1, k, h1, h2 => by
    rw [rep8, rep8]
    split
    · rw [rep8_fuel f g (k - min k 6) (by omega) (by omega)]
    · rfl
theorem rep8_step {k : Nat} (h : 3 ≤ k) : rep8 k k = ⟨16, (min k 6 : Nat)⟩ :: rep8 (k - min k 6) (k - min k 6) := by
  rw [show k = (k - 1) + 1 by omega, rep8, if_pos (by omega), rep8_fuel (k - 1) (k - 1 + 1 - min (k - 1 + 1) 6) _ (by omega) (by omega)]
theorem rep8_stop {k : Nat} (h : ¬ 3 ≤ k) : rep8 k k = [] := by
  cases k with
  | zero => rfl
  | succ k => rw [rep8, if_neg h]
def NQ (w : World) (ty : TypeId) (R : List Rn8) (e : Ending) (w' : World) : Prop := ∃ oa oc, e = .returned (.slice oa R.length oc) ∧ w'.ownsRow w.heap.size ty 2 (.slice oa R.length oc) R.length (flatN R) ∧ Below w.heap.size w w'
end Go.Proofs.YtmddnmpldmdllaaDoor

namespace Go.Proofs.YtmddnmpldmdllaaDoor
open Go.RowKit
set_option linter.unusedVariables false

/-! The document's Runs. -/
theorem pre8_iff (v : Int) : ∀ (l : List Int) (k : Nat), k ≤ pre8 v l ↔ k ≤ l.length ∧ ∀ j, j < k → l.getD j 0 = v
  | [], k => by
    rw [pre8]
    constructor
    · intro h; exact ⟨h, fun j hj => by omega⟩
    · intro h; exact h.1
  | x :: r, 0 => by simp
  | x :: r, k + 1 => by
    rw [pre8]
    by_cases e : x = v
    · rw [if_pos e]
      have ih := pre8_iff v r k
      constructor
      · intro h
        obtain ⟨h1, h2⟩ := ih.1 (by omega)
        refine ⟨by simp; omega, fun j hj => ?_⟩
        cases j with
        | zero => simpa using e
        | succ j => simpa using h2 j (by omega)
      · rintro ⟨h1, h2⟩
        have := ih.2 ⟨by simp at h1; omega, fun j hj => by simpa using h2 (j + 1) (by omega)⟩
        omega
    · rw [if_neg e]
      constructor
      · intro h; omega
      · rintro ⟨_, h2⟩
        exact absurd (by simpa using h2 0 (by omega)) e
theorem rung8_fuel : ∀ (f g : Nat) (l : List Int), l.length ≤ f → l.length ≤ g → rung8 f l = rung8 g l
  | 0, 0, l, _, _ => rfl
  | 0, g + 1, l, h, _ => by
    have : l = [] := List.length_eq_zero_iff.1 (by omega)
    subst this
    rfl
  | f + 1, 0, l, _, h => by
    have : l = [] := List.length_eq_zero_iff.1 (by omega)
    subst this
    rfl
  | f + 1, g + 1, [], _, _ => rfl
  | f + 1, g + 1, v :: r, h1, h2 => by
    have hp : 1 ≤ pre8 v (v :: r) := by rw [pre8, if_pos rfl]; omega
    have hs := row8_sum (v := v) hp
    rw [rung8, rung8, rung8_fuel f g _ (by simp only [List.length_drop, List.length_cons] at *; omega) (by simp only [List.length_drop, List.length_cons] at *; omega)]
theorem rung8_at {zs : List Int} {i : Nat} (h : i < zs.length) : rung8 (zs.length - i) (zs.drop i) = row8 (zs.getD i 0) (pre8 (zs.getD i 0) (zs.drop i)) ++ rung8 (zs.length - (i + sum8 (row8 (zs.getD i 0) (pre8 (zs.getD i 0) (zs.drop i))))) (zs.drop (i + sum8 (row8 (zs.getD i 0) (pre8 (zs.getD i 0) (zs.drop i))))) := by
  have hd : zs.drop i = zs.getD i 0 :: zs.drop (i + 1) := by rw [List.drop_eq_getElem_cons h]; simp [List.getD, h]
  have hp : 1 ≤ pre8 (zs.getD i 0) (zs.drop i) := by rw [hd, pre8, if_pos rfl]; omega
  have hs := row8_sum (v := zs.getD i 0) hp
  have e : rung8 (zs.length - i) (zs.drop i) = row8 (zs.getD i 0) (pre8 (zs.getD i 0) (zs.drop i)) ++ rung8 (zs.length - i - 1) ((zs.drop i).drop (sum8 (row8 (zs.getD i 0) (pre8 (zs.getD i 0) (zs.drop i))))) := by
    have hf : zs.length - i = (zs.length - i - 1) + 1 := by omega
    rw [hf]
    conv => lhs; rw [hd]
    rw [rung8, ← hd]
    rfl
  rw [e, List.drop_drop, rung8_fuel (zs.length - i - 1) (zs.length - (i + sum8 (row8 (zs.getD i 0) (pre8 (zs.getD i 0) (zs.drop i))))) _ (by simp only [List.length_drop]; omega) (by simp only [List.length_drop]; omega)]
def may8 (zs : List Int) : Prop := zs.length ≤ 320 ∧ ∀ z ∈ zs, 0 ≤ z ∧ z ≤ 15
instance (zs : List Int) : Decidable (may8 zs) := by unfold may8; infer_instance
def rns8 (zs : List Int) : List Rn8 := if may8 zs then runs8 zs else []
def rer8 (zs : List Int) : Int := if may8 zs then 0 else 80
theorem sum8_take : ∀ (R : List Rn8) (x : Nat), x < R.length → sum8 (R.take (x + 1)) = sum8 (R.take x) + (R.getD x ⟨0, 0⟩).ct.toNat
  | [], x, h => by simp at h
  | r :: R, 0, _ => by simp [sum8]
  | r :: R, x + 1, h => by
    have := sum8_take R x (by simpa using h)
    simp only [List.take_succ_cons, sum8] at *
    rw [this]
    simp [List.getD]
    omega
theorem row8_ct (v : Int) (k : Nat) (hk : 1 ≤ k) : ∀ r ∈ row8 v k, 1 ≤ r.ct ∧ r.ct ≤ k := by
  have hrep : ∀ f j, ∀ r ∈ rep8 f j, 1 ≤ r.ct ∧ r.ct ≤ (j : Int) := by
    intro f
    induction f with
    | zero => intro j r h; simp [rep8] at h
    | succ f ih =>
      intro j r h
      rw [rep8] at h
      split at h
      · rcases List.mem_cons.1 h with rfl | h
        · simp only; omega
        · have := ih _ r h; omega
      · simp at h
  intro r h
  unfold row8 at h
  split at h
  · split at h
    · simp at h; subst h; simp only; omega
    · split at h
      · simp at h; subst h; simp only; omega
      · simp at h; subst h; simp only; omega
  · rcases List.mem_cons.1 h with rfl | h
    · simp only; omega
    · have := hrep _ _ r h; omega
theorem sum8_len : ∀ (R : List Rn8), (∀ r ∈ R, 1 ≤ r.ct) → R.length ≤ sum8 R
  | [], _ => by simp
  | r :: R, h => by
    have h1 := h r (by simp)
    have := sum8_len R fun x hx => h x (by simp [hx])
    simp only [sum8, List.length_cons]
    omega
theorem sum8_takele : ∀ (R : List Rn8) (x : Nat), sum8 (R.take x) ≤ sum8 R
  | [], x => by simp
  | r :: R, 0 => by simp [sum8]
  | r :: R, x + 1 => by
    have := sum8_takele R x
    simp only [List.take_succ_cons, sum8]
    omega
theorem take_snocN {R : List Rn8} {x : Nat} (h : x < R.length) : R.take (x + 1) = R.take x ++ [R.getD x ⟨0, 0⟩] := by
  rw [List.take_succ_eq_append_getElem h]; simp [List.getD, h]
theorem may8_at {zs : List Int} {i : Nat} (hi : i < zs.length) (h : may8 zs) : 0 ≤ zs.getD i 0 ∧ zs.getD i 0 ≤ 15 := h.2 _ (by simp [List.getD, hi])
theorem may8_all {zs : List Int} (hl : zs.length ≤ 320) (h : ∀ j, j < zs.length → 0 ≤ zs.getD j 0 ∧ zs.getD j 0 ≤ 15) : may8 zs := ⟨hl, fun z hz => by
  obtain ⟨i, hi, rfl⟩ := List.mem_iff_getElem.1 hz
  have := h i hi
  simpa [List.getD, hi] using this⟩
end Go.Proofs.YtmddnmpldmdllaaDoor

namespace Go.Proofs.YtmddnmpldmdllaaDoor
set_option linter.unusedVariables false

/-! Layer 8: what the runs of lengths are like. -/
def ok8 (r : Rn8) : Prop := 0 ≤ r.sy ∧ r.sy ≤ 18 ∧ lst8 r.sy ≤ r.ct ∧ r.ct ≤ grt8 r.sy
theorem rep8_ok : ∀ (f k : Nat), ∀ r ∈ rep8 f k, ok8 r
  | 0, k, r, h => by simp [rep8] at h
  | f + 1, k, r, h => by
    rw [rep8] at h
    split at h
    · rcases List.mem_cons.1 h with rfl | h
      · unfold ok8 lst8 grt8
        simp
        omega
      · exact rep8_ok f _ r h
    · simp at h
theorem row8_ok {v : Int} {k : Nat} (hv : 0 ≤ v ∧ v ≤ 15) (hk : 1 ≤ k) : ∀ r ∈ row8 v k, ok8 r := by
  intro r h
  unfold row8 at h
  split at h
  · split at h
    · simp at h; subst h; unfold ok8 lst8 grt8; simp; omega
    · split at h
      · simp at h; subst h; unfold ok8 lst8 grt8; simp; omega
      · simp at h; subst h; unfold ok8 lst8 grt8; simp
  · rcases List.mem_cons.1 h with rfl | h
    · have e16 : ¬ v = 16 := by omega
      have e17 : ¬ v = 17 := by omega
      have e18 : ¬ v = 18 := by omega
      unfold ok8 lst8 grt8
      simp [e16, e17, e18]
      omega
    · exact rep8_ok _ _ r h
theorem row8_len {v : Int} {k : Nat} (hk : 1 ≤ k) : (row8 v k).length ≤ sum8 (row8 v k) := sum8_len _ fun r hr => (row8_ct v k hk r hr).1
theorem rung8_ok : ∀ (f : Nat) (l : List Int), (∀ z ∈ l, 0 ≤ z ∧ z ≤ 15) → (∀ r ∈ rung8 f l, ok8 r) ∧ (rung8 f l).length ≤ l.length
  | 0, l, _ => by simp [rung8]
  | f + 1, [], _ => by simp [rung8]
  | f + 1, v :: t, h => by
    have hp : 1 ≤ pre8 v (v :: t) := by rw [pre8, if_pos rfl]; omega
    have hs := row8_sum (v := v) hp
    have hl := row8_len (v := v) hp
    have hpl := pre8_le v (v :: t)
    obtain ⟨i1, i2⟩ := rung8_ok f ((v :: t).drop (sum8 (row8 v (pre8 v (v :: t))))) fun z hz => h z (List.mem_of_mem_drop hz)
    rw [List.length_drop] at i2
    rw [rung8]
    refine ⟨fun r hr => ?_, ?_⟩
    · rcases List.mem_append.1 hr with hr | hr
      · exact row8_ok (h v (by simp)) hp r hr
      · exact i1 r hr
    · rw [List.length_append]
      omega
/-- The runs of lengths that may be: symbols 0 to 18, each count within its bounds; no more runs than lengths. -/
theorem runs8_ok {zs : List Int} (h : may8 zs) : (∀ r ∈ runs8 zs, ok8 r) ∧ (runs8 zs).length ≤ zs.length := rung8_ok zs.length zs h.2
theorem rns8_ok (zs : List Int) : (∀ r ∈ rns8 zs, ok8 r) ∧ (rns8 zs).length ≤ 320 := by
  unfold rns8
  split
  · rename_i h
    have h1 := runs8_ok h
    have h2 := h.1
    exact ⟨h1.1, by omega⟩
  · exact ⟨by simp, by simp⟩
theorem end8_mem : ∀ (l : List Int), 0 < l.length → end8 l ∈ l
  | [], h => by simp at h
  | [x], _ => by simp [end8]
  | x :: y :: r, _ => by
    have := end8_mem (y :: r) (by simp)
    rw [end8]
    · exact List.mem_cons_of_mem _ this
    · intro h; cases h
/-- Lengths that runs say: within 0 to 15, no more than 320. -/
theorem lng8_bd : ∀ (R : List Rn8) (out l : List Int), lng8 R out = some l → (∀ z ∈ out, 0 ≤ z ∧ z ≤ 15) → out.length ≤ 320 → (∀ z ∈ l, 0 ≤ z ∧ z ≤ 15) ∧ l.length ≤ 320
  | [], out, l, h, hb, hl => by
    rw [lng8] at h
    cases h
    exact ⟨hb, hl⟩
  | r :: R, out, l, h, hb, hl => by
    rw [lng8] at h
    split at h
    · cases h
    · rename_i hbad
      split at h
      · cases h
      · rename_i hlen
        refine lng8_bd R _ l h (fun z hz => ?_) (by omega)
        rcases List.mem_append.1 hz with hz | hz
        · exact hb z hz
        · rw [List.eq_of_mem_replicate hz]
          unfold val8
          unfold bad8 at hbad
          split
          · rename_i h16
            have hne : 0 < out.length := by
              by_cases e : out.length = 0
              · exact absurd (.inr (.inr (.inr (.inr ⟨h16, e⟩)))) hbad
              · omega
            exact hb _ (end8_mem out hne)
          · split <;> omega
theorem lens8_bd {R : List Rn8} {l : List Int} (h : lens8 R = some l) : (∀ z ∈ l, 0 ≤ z ∧ z ≤ 15) ∧ l.length ≤ 320 := lng8_bd R [] l h (by simp) (by simp)
end Go.Proofs.YtmddnmpldmdllaaDoor
