
import Derived.Test.YtoeabfcnfofbiaaDoorHdL2
import Derived.Test.YtoeabfcnfofbiaaDoorHdRunsW
import Derived.Laws.AppendOwnNone
import Derived.Laws.AppendOwn
import Derived.Deep.RegionLaw
namespace Go.Proofs.YtoeabfcnfofbiaaDoor
open Go.RowKit
set_option linter.unusedVariables false

/-! For HeadLens: runs copied to a row of the call's own. -/
theorem segN_cells {w : World} {x : Addr} {R : List Rn8} (h : SegN w (some x) R) : ∀ j u, (flatN R)[j]? = some u → w.cell? (x.add j) = some u := by
  intro j u hu
  have hj : j < R.length * 2 := by
    rw [← flatN_len]
    rcases Nat.lt_or_ge j (flatN R).length with h | h
    · exact h
    · simp [List.getElem?_eq_none h] at hu
  obtain ⟨k, d, hd, rfl⟩ : ∃ k d, d < 2 ∧ j = k * 2 + d := ⟨j / 2, j % 2, by omega, by omega⟩
  obtain ⟨b, off, hx, c1, c2⟩ := h.at_ k (by omega)
  cases hx
  have hadd : (⟨b, off, none⟩ : Addr).add (k * 2 + d) = ⟨b, off + (k * 2 + d), none⟩ := by unfold Addr.add; split <;> simp_all
  have hg : R[k]? = some (R.getD k ⟨0, 0⟩) := by simp [List.getD, show k < R.length by omega]
  obtain ⟨q0, q1⟩ := flatN_get R k _ hg
  rw [hadd]
  rcases (by omega : d = 0 ∨ d = 1) with rfl | rfl
  · rw [Nat.add_zero] at hu
    rw [q0] at hu
    cases hu
    rw [Nat.add_zero]
    exact c1
  · rw [q1] at hu
    cases hu
    rw [← Nat.add_assoc]
    exact c2
/-- append([]Run(nil), runs...). -/
theorem wpList_appSN {P : Program} {ops : Array Oper} {rest : List Oper} {o : Oper} {a : Act} {Q : Exit → Act → World → Prop} (hgd : o.guard = none) (s x : Operand) (t : TypeId)
    (ho : o.op = .call { callee := .builtin .append, args := #[s, x], argTypes := #[t, t] })
    (e : TypeId) (i : TypeInfo) (z : Value) (bytes : Nat) (ht : P.underlying t = some (.slice e)) (hi : P.info? e = some i) (hz : i.zero = some z)
    (hsize : i.size = 2) (hby : i.bytes = bytes) (hzs : z.cells.size = 2) (w : World) {ao : Option Addr} {R : List Rn8} {n cap : Nat} (hn : R.length = n) (hseg : SegN w ao R) (hnil : ao = none → cap = 0)
    (hs : a.eval s = .slice none 0 0) (hx : a.eval x = .slice ao n cap)
    (h63 : n ≤ 140737488355328) (hbytes : n * bytes ≤ 140737488355328)
    (h : ∀ (b : Option Addr) (c : Nat) (w' : World), w'.ownsRow w.heap.size e 2 (.slice b n c) n (flatN R) → Below w.heap.size w w' → wpList P ops Q rest (a.put o.dst (.slice b n c)) w') : wpList P ops Q (o :: rest) a w := by
  have hown : w.ownsRow w.heap.size e 2 (.slice none 0 0) 0 [] := World.ownsRow_nil _ _ _ _
  cases ao with
  | none =>
    have hR : R = [] := by
      cases R with
      | nil => rfl
      | cons z r => obtain ⟨b, off, hx, _⟩ := hseg.at_ 0 (by simp); cases hx
    subst hR
    simp at hn
    subst hn
    rw [hnil rfl] at hx
    refine wpList_append_own_none hgd s x t ho w.heap.size e i 2 ht hi _ 0 [] hs hown hx ?_
    exact h none 0 w hown (Below.refl _ _)
  | some ad =>
    refine wpList_append_own _ hgd s x t ho w.heap.size e i z 2 bytes ht hi hz hsize hby hzs (by decide) _ 0 [] hs hown ad n cap (flatN R) hx (by rw [flatN_len, hn]) (segN_cells hseg) (flatN_one R) (by unfold maxLen; omega) (by simpa using hbytes) (Nat.le_refl _) ?_
    intro v' w' h1 h2 h3
    rw [Nat.zero_add, List.nil_append] at h1
    obtain ⟨b, c, rfl⟩ : ∃ b c, v' = .slice b n c := by
      rcases h1.2 with ⟨rfl, h0⟩ | ⟨g, cp, cur, rfl, _⟩
      · exact ⟨none, 0, by rw [h0]⟩
      · exact ⟨_, _, rfl⟩
    exact h b c w' h1 ((Below.refl _ _).grown h2 (Nat.le_refl _) (fun k hk => by simp [Value.ownBlock] at hk))
/-- Two runs behind a row of the call's own. -/
theorem wpList_appN2 {P : Program} {ops : Array Oper} {rest : List Oper} {o : Oper} {a : Act} {Q : Exit → Act → World → Prop} (hgd : o.guard = none) (s x : Operand) (t : TypeId)
    (ho : o.op = .call { callee := .builtin .append, args := #[s, x], argTypes := #[t, t] })
    (base : Nat) (e : TypeId) (i : TypeInfo) (z : Value) (bytes : Nat) (ht : P.underlying t = some (.slice e)) (hi : P.info? e = some i) (hz : i.zero = some z)
    (hsize : i.size = 2) (hby : i.bytes = bytes) (hzs : z.cells.size = 2) (w0 : World) (y y' : Rn8)
    {ra : Option Addr} {n rc : Nat} {l : List Rn8} (hown : w0.ownsRow base e 2 (.slice ra n rc) n (flatN l)) (hs : a.eval s = .slice ra n rc) (hx : a.eval x = .slice (some ⟨w0.heap.size, 0, none⟩) 2 2)
    (h63 : n + 2 ≤ 140737488355328) (hbytes : (n + 2) * bytes ≤ 140737488355328) (hbase : base ≤ w0.heap.size)
    (h : ∀ (g : Nat) (c : Nat) (w' : World), w'.ownsRow base e 2 (.slice (some ⟨g, 0, none⟩) (n + 2) c) (n + 2) (flatN (l ++ [y, y'])) → Below base w0 w' → wpList P ops Q rest (a.put o.dst (.slice (some ⟨g, 0, none⟩) (n + 2) c)) w') : wpList P ops Q (o :: rest) a (w0.alloc (.cells #[.int .i64 y.sy, .int .i64 y.ct, .int .i64 y'.sy, .int .i64 y'.ct] e)) := by
  have hnew : ∀ j u, ([.int .i64 y.sy, .int .i64 y.ct, .int .i64 y'.sy, .int .i64 y'.ct] : List Value)[j]? = some u → (w0.alloc (.cells #[.int .i64 y.sy, .int .i64 y.ct, .int .i64 y'.sy, .int .i64 y'.ct] e)).cell? ((⟨w0.heap.size, 0, none⟩ : Addr).add j) = some u := by
    intro j u hu
    have hadd : (⟨w0.heap.size, 0, none⟩ : Addr).add j = ⟨w0.heap.size, j, none⟩ := by unfold Addr.add; split <;> simp_all
    rw [hadd]
    have hh := heap_alloc_new w0 (.cells #[.int .i64 y.sy, .int .i64 y.ct, .int .i64 y'.sy, .int .i64 y'.ct] e)
    simp only [World.cell?, hh]
    simpa using hu
  refine wpList_append_lies _ hgd s x t ho base e i z 2 bytes ht hi hz hsize hby hzs (by decide) _ n (flatN l) hs (hown.alloc _) ⟨w0.heap.size, 0, none⟩ 2 2 [.int .i64 y.sy, .int .i64 y.ct, .int .i64 y'.sy, .int .i64 y'.ct] hx rfl hnew (by intro u hu; simp only [List.mem_cons, List.not_mem_nil, or_false] at hu; rcases hu with rfl | rfl | rfl | rfl <;> rfl) (by decide) (by unfold maxLen; omega) hbytes (by simp; omega) (w0.heap.size + 1) (by simp) ?_
  intro g c w' h1 h2 h3 _
  refine h g c w' (by rw [flatN_app]; exact h1) ?_
  have hk : Kp (fun k => (Value.slice ra n rc).ownBlock = some k) w0 w' := (Kp.alloc w0 _).trans (Kp.grown (S := fun k => (Value.slice ra n rc).ownBlock = some k) h2 (fun i e => e)) (fun _ _ e => e)
  exact hk.below (fun q e => (hown.lt q e).1) hbase
end Go.Proofs.YtoeabfcnfofbiaaDoor
