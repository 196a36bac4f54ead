import Derived.Test.YtmjlpfmacblcpaaDoorPb
import Derived.Deep.AppendLies
namespace Go.Proofs.YtmjlpfmacblcpaaDoor
open Go.RowKit Go.Shelf
set_option linter.unusedVariables false
set_option linter.unusedSimpArgs false
def lgc21 (L : List (Int × Int × Int)) : List Value := L.flatMap fun o => [.int .i64 o.1, .int .i64 o.2.1, .int .i64 o.2.2]
theorem lgc21_app (L : List (Int × Int × Int)) (o : Int × Int × Int) : lgc21 (L ++ [o]) = lgc21 L ++ [.int .i64 o.1, .int .i64 o.2.1, .int .i64 o.2.2] := by simp [lgc21]
def Sl21 (w : World) (V : Nat → Prop) (a : Option Addr) (zs : List Int) (cap : Nat) : Prop := Seg w a zs ∧ (a = none ∨ ∃ k, a = some ⟨k, 0, none⟩ ∧ V k) ∧ (a = none → cap = 0) ∧ zs.length ≤ cap
def Sv21 (w : World) (V : Nat → Prop) (v : Value) (s : Sh21) : Prop := ∃ a cap, v = .agg #[.slice a s.b.length cap, .bool s.er, .int .i64 s.wr] ∧ Sl21 w V a s.b cap
def sh21 (S : Fs21) (x y : Int) : Sh21 := (S.pa x y).getD ⟨[], x == 2, 0⟩
structure Fi21 (w : World) (b m c : Nat) (f : Int → Int → Option Value) (ta : Option Addr) (tc : Nat) (la : Option Addr) (lc : Nat) (V : Nat → Prop) (S : Fs21) : Prop where
  hp : w.heap[b]? = some (.cells #[.int .i64 (S.pg : Int), .int .i64 (S.ps : Int), .int .i64 S.ac, .bool S.on, .int .i64 S.lm, .map (some m), .int .i64 S.lf, .slice ta S.tn.length tc, .slice la S.lg.length lc] 96 (0, 0))
  hm : Mv21 w m c f
  hf : ∀ x y, (S.pa x y = none ∧ f x y = none) ∨ (∃ s v, S.pa x y = some s ∧ f x y = some v ∧ Sv21 w V v s)
  ht : Sl21 w V ta S.tn tc
  hl : w.ownsRow 0 180 3 (.slice la S.lg.length lc) S.lg.length (lgc21 S.lg)
  hc : c ≤ 8200 + S.lg.length
  vb : ¬ V b
  vm : ¬ V m
  vl : ∀ k, (Value.slice la S.lg.length lc).ownBlock = some k → ¬ V k
  vs : ∀ k, V k → k < w.heap.size
structure Ok21 (S : Fs21) : Prop where
  pg : 64 ≤ S.pg ∧ S.pg ≤ 4096
  ps : 1 ≤ S.ps ∧ S.ps ≤ 4096
  ac : S.ac = 0 ∨ S.ac = 1
  lm : 0 ≤ S.lm ∧ S.lm ≤ 1099511627776
  lf : 0 ≤ S.lf ∧ S.lf ≤ 9223372036854775807
  tn : S.tn.length ≤ S.pg
  sh : ∀ x y s, S.pa x y = some s → s.b.length ≤ S.pg ∧ 0 ≤ s.wr ∧ s.wr ≤ 1099511627776 ∧ (s.er = true → s.b = [])
theorem sh21_ok {S : Fs21} (h : Ok21 S) (x y : Int) : (sh21 S x y).b.length ≤ S.pg ∧ 0 ≤ (sh21 S x y).wr ∧ (sh21 S x y).wr ≤ 1099511627776 := by
  unfold sh21
  cases e : S.pa x y with
  | none => simp
  | some s => have := h.sh x y s e; exact ⟨this.1, this.2.1, this.2.2.1⟩
section
variable {w w' : World} {b m c tc lc : Nat} {f : Int → Int → Option Value} {ta la : Option Addr} {V V' : Nat → Prop} {S : Fs21}
theorem Sl21.kp {a : Option Addr} {zs : List Int} {cap : Nat} (h : Sl21 w V a zs cap) (hk : ∀ k, V k → w'.heap[k]? = w.heap[k]?) (hv : ∀ k, V k → V' k) : Sl21 w' V' a zs cap := by
  obtain ⟨h1, h2, h3, h4⟩ := h
  refine ⟨?_, ?_, h3, h4⟩
  · refine h1.of_cells fun g off i v hi ha hcl => ?_
    rcases h2 with h2 | ⟨k, h2, h5⟩
    · rw [h2] at ha; cases ha
    · rw [h2] at ha; cases ha
      rw [World.cell?_of_block (a := ⟨g, 0 + i, none⟩) (hk g h5)]
      exact hcl
  · rcases h2 with h2 | ⟨k, h2, h5⟩
    · exact .inl h2
    · exact .inr ⟨k, h2, hv k h5⟩
theorem Sv21.kp {v : Value} {s : Sh21} (h : Sv21 w V v s) (hk : ∀ k, V k → w'.heap[k]? = w.heap[k]?) (hv : ∀ k, V k → V' k) : Sv21 w' V' v s := by
  obtain ⟨a, cap, h1, h2⟩ := h
  exact ⟨a, cap, h1, h2.kp hk hv⟩
theorem Fi21.bl (h : Fi21 w b m c f ta tc la lc V S) : b < w.heap.size := (Array.getElem?_eq_some_iff.1 h.hp).1
theorem Fi21.bm (h : Fi21 w b m c f ta tc la lc V S) : b ≠ m := fun e => h.hm.no (e ▸ h.hp)
theorem Fi21.lo (h : Fi21 w b m c f ta tc la lc V S) {k : Nat} (hk : (Value.slice la S.lg.length lc).ownBlock = some k) : k < w.heap.size ∧ k ≠ b ∧ k ≠ m := by
  rcases h.hl.2 with ⟨h1, h2⟩ | ⟨g, cap, cur, h1, h2, h3, h4⟩
  · rw [h1] at hk; cases hk
  · rw [h1] at hk
    simp [Value.ownBlock] at hk
    subst hk
    refine ⟨(Array.getElem?_eq_some_iff.1 h3).1, fun e => ?_, fun e => h.hm.no (e ▸ h3)⟩
    have := h.hp
    rw [← e, h3] at this
    simp at this
theorem Fi21.kp (h : Fi21 w b m c f ta tc la lc V S) (h1 : w'.heap[b]? = w.heap[b]?) (h2 : w'.heap[m]? = w.heap[m]?) (h3 : ∀ k, (Value.slice la S.lg.length lc).ownBlock = some k → w'.heap[k]? = w.heap[k]?) (h4 : ∀ k, V k → w'.heap[k]? = w.heap[k]?) (h5 : w.heap.size ≤ w'.heap.size) : Fi21 w' b m c f ta tc la lc V S := by
  refine ⟨h1.trans h.hp, h.hm.block h2, fun x y => ?_, h.ht.kp h4 (fun _ e => e), ?_, h.hc, h.vb, h.vm, h.vl, fun k e => Nat.lt_of_lt_of_le (h.vs k e) h5⟩
  · rcases h.hf x y with h | ⟨s, v, e1, e2, e3⟩
    · exact .inl h
    · exact .inr ⟨s, v, e1, e2, e3.kp h4 (fun _ e => e)⟩
  · refine ⟨h.hl.1, ?_⟩
    rcases h.hl.2 with q | ⟨g, cap, cur, q1, q2, q3, q4⟩
    · exact .inl q
    · exact .inr ⟨g, cap, cur, q1, q2, (h3 g (by rw [q1]; rfl)).trans q3, q4⟩
theorem Fi21.old (h : Fi21 w b m c f ta tc la lc V S) (hb : Below w.heap.size w w') : Fi21 w' b m c f ta tc la lc V S :=
  h.kp (hb.block b h.bl) (hb.block m h.hm.lt) (fun k e => hb.block k (h.lo e).1) (fun k e => hb.block k (h.vs k e)) hb.size
theorem Fi21.cel (h : Fi21 w b m c f ta tc la lc V S) {i : Nat} {v : Value} (hi : (#[.int .i64 (S.pg : Int), .int .i64 (S.ps : Int), .int .i64 S.ac, .bool S.on, .int .i64 S.lm, .map (some m), .int .i64 S.lf, .slice ta S.tn.length tc, .slice la S.lg.length lc] : Array Value)[i]? = some v) : w.cell? ⟨b, i, none⟩ = some v := by
  simp only [World.cell?, h.hp]; exact hi
theorem Fi21.fr (h : Fi21 w b m c f ta tc la lc V S) (i : Nat) : w.frozen? ⟨b, i, none⟩ = false := by simp [World.frozen?, h.hp]
theorem Fi21.sv (h : Fi21 w b m c f ta tc la lc V S) (x y : Int) : ∀ v, f x y = some v → ∃ a n cap er wr, v = .agg #[.slice a n cap, .bool er, .int .i64 wr] := fun v hv => by
  rcases h.hf x y with ⟨_, e⟩ | ⟨s, v', _, e2, a, cap, e3, _⟩
  · rw [e] at hv; cases hv
  · rw [e2] at hv; cases hv; exact ⟨_, _, _, _, _, e3⟩
theorem Fi21.shv (h : Fi21 w b m c f ta tc la lc V S) (x y : Int) : Sv21 w V (shv21 (f x y) x) (sh21 S x y) := by
  unfold sh21 shv21
  rcases h.hf x y with ⟨e1, e2⟩ | ⟨s, v, e1, e2, e3⟩
  · rw [e1, e2]
    exact ⟨none, 0, rfl, SegK.nil (by decide) _ _, .inl rfl, fun _ => rfl, by simp⟩
  · rw [e1, e2]; exact e3
end
theorem info_op21 : (Tryd.prog.info? 180).map (fun i => (i.zero, i.size, i.bytes)) = some (some (.agg #[.int .i64 0, .int .i64 0, .int .i64 0]), 3, 24) := by kernel_rfl
/-- An operation behind the log. -/
theorem run_log21 (w0 : World) (la : Option Addr) (n lc : Nat) (L : List (Int × Int × Int)) (hn : L.length = n) (k x y : Int) (hl : w0.ownsRow 0 180 3 (.slice la n lc) n (lgc21 L)) (hb : n ≤ 5500000002000) (ty : TypeId) :
    ∃ g cap w', (Builtin.append_ #[94, 94] ty #[.slice la n lc, .slice (some ⟨w0.heap.size, 0, none⟩) 1 1]).run Tryd.prog (w0.alloc (.cells #[.int .i64 k, .int .i64 x, .int .i64 y] 180)) = .ok (.slice (some ⟨g, 0, none⟩) (n + 1) cap) w' ∧
      w'.ownsRow 0 180 3 (.slice (some ⟨g, 0, none⟩) (n + 1) cap) (n + 1) (lgc21 (L ++ [(k, x, y)])) ∧ Kp (fun j => (Value.slice la n lc).ownBlock = some j) w0 w' ∧ ((Value.slice la n lc).ownBlock = some g ∨ w0.heap.size ≤ g) := by
  obtain ⟨i0, hi, hz0, hz1, hz2⟩ := info_parts info_op21
  have hnew : ∀ j u, ([.int .i64 k, .int .i64 x, .int .i64 y] : List Value)[j]? = some u → (w0.alloc (.cells #[.int .i64 k, .int .i64 x, .int .i64 y] 180)).cell? ((⟨w0.heap.size, 0, none⟩ : Addr).add j) = some u := by
    intro j u hu
    have hadd : (⟨w0.heap.size, 0, none⟩ : Addr).add j = ⟨w0.heap.size, j, none⟩ := by unfold Addr.add; split <;> simp_all
    rw [hadd]
    have hh := heap_alloc_new w0 (.cells #[.int .i64 k, .int .i64 x, .int .i64 y] 180)
    simp only [World.cell?, hh]
    simpa using hu
  obtain ⟨g, cap, w', h1, h2, h3, h4, h5⟩ := run_append_lies (P := Tryd.prog) (w := w0.alloc (.cells #[.int .i64 k, .int .i64 x, .int .i64 y] 180)) 94 ty 0 180 i0 _ 3 24 Tryd.underlying94 hi hz0 hz1 hz2 rfl (by decide) _ n _ (hl.alloc _) ⟨w0.heap.size, 0, none⟩ 1 1 [.int .i64 k, .int .i64 x, .int .i64 y] rfl hnew (by intro u hu; simp only [List.mem_cons, List.not_mem_nil, or_false] at hu; rcases hu with rfl | rfl | rfl <;> rfl) (by decide) (by unfold maxLen; omega) (by omega) (by omega) (w0.heap.size + 1) (by simp)
  refine ⟨g, cap, w', h1, by rw [lgc21_app]; exact h2, (Kp.alloc w0 _).trans (Kp.grown (S := fun j => (Value.slice la n lc).ownBlock = some j) h3 (fun i e => e)) (fun _ _ e => e), ?_⟩
  rcases h4 with h4 | h4
  · exact .inl h4
  · exact .inr (by omega)
end Go.Proofs.YtmjlpfmacblcpaaDoor
