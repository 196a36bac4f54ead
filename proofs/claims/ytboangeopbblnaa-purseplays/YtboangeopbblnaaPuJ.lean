
import Derived.Test.YtboangeopbblnaaPuI
import Derived.Test.YtboangeopbblnaaEdK
namespace Go.Proofs.Ytboangeopbblnaa
open Go.RowKit Go.Maps Go.WideMaps Go.MuLone Go.Shelf
set_option linter.unusedVariables false
set_option linter.unusedSimpArgs false
set_option maxRecDepth 100000

/-! PurseTrue: what its first loop keeps. -/
section
variable {P : Program} {ops : Array Oper} {Q : Exit → Act → World → Prop} {md : Region.Mode} {S : World → Prop} {fin : Nat}
theorem wpAnyK_two23 {i j : Nat} {fuel : Nat} {listed : Array Bool} {a : Act} {w : World} {o p : Oper} (hr : Region.ready md ops listed = [i, j]) (ho : ops[i]? = some o) (hp : ops[j]? = some p)
    (h : ∀ K' : Act → World → Prop, Shut (∀ a w, (i ≠ fin → S w) → ((i ≠ fin → S w) → wpAnyK P md ops Q S fin fuel (listed.setIfInBounds i true) a w) → K' a w) → if Region.wanted o (yielded ops a.tmps) = true then Oper.wp P o a w K' Q else K' (a.put o.dst undef) w)
    (h2 : ∀ K' : Act → World → Prop, Shut (∀ a w, (j ≠ fin → S w) → ((j ≠ fin → S w) → wpAnyK P md ops Q S fin fuel (listed.setIfInBounds j true) a w) → K' a w) → if Region.wanted p (yielded ops a.tmps) = true then Oper.wp P p a w K' Q else K' (a.put p.dst undef) w) :
    wpAnyK P md ops Q S fin (fuel + 1) listed a w :=
  ⟨fun h0 => (by rw [hr] at h0; cases h0), fun k hk => by
    rw [hr] at hk
    have : k = i ∨ k = j := by simpa using hk
    rcases this with rfl | rfl
    · exact wpOp_step ho (fun K' hK => h K' (fun a w hS hW => hK a w ⟨hS, hW hS⟩))
    · exact wpOp_step hp (fun K' hK => h2 K' (fun a w hS hW => hK a w ⟨hS, hW hS⟩))⟩
end
theorem operwp_app23 {P : Program} {o : Oper} {a : Act} {K : Act → World → Prop} {Q : Exit → Act → World → Prop} {w : World} (s x : Operand) (t : TypeId)
    (ho : o.op = Op.call { callee := Callee.builtin Builtin.append, args := #[s, x], argTypes := #[t, t] }) {u v v' : Value} {w' : World} (hs : a.eval s = u) (hx : a.eval x = v) (hr : (Builtin.append_ #[t, t] o.type #[u, v]).run P w = .ok v' w')
    (h : K (a.put o.dst v') w') : Oper.wp P o a w K Q := by
  unfold Oper.wp execOp
  simp only [ho, resolve, invoke, builtin, Sem.run_bind, Sem.run_pure, Result.andThen_ok, List.map_toArray, List.map_cons, List.map_nil, hs, hx, hr]
  exact h
theorem info_i23 : (Try.prog.info? 3).map (fun i => (i.zero, i.size, i.bytes)) = some (some (.int .i64 0), 1, 8) := by kernel_rfl
theorem own_ap23 {w : World} {B n n' : Nat} {t t' : TypeId} {v v' : Value} {xs ys : List Value} (h : w.ownsRow B t 1 v n xs) (h' : w.ownsRow B t' 1 v' n' ys) (hne : t ≠ t') {k : Nat} (e : v.ownBlock = some k) : v'.ownBlock ≠ some k := by
  intro e'
  rcases h.2 with ⟨rfl, _⟩ | ⟨g, cp, cur, rfl, _, h3, _⟩
  · cases e
  · rcases h'.2 with ⟨rfl, _⟩ | ⟨g', cp', cur', rfl, _, h3', _⟩
    · cases e'
    · simp only [Value.ownBlock, Option.some.injEq] at e e'
      subst e; subst e'
      rw [h3] at h3'
      injection h3' with h3'
      injection h3' with _ h3' _
      exact hne h3'
theorem own_no23 {w : World} {B n : Nat} {t t' : TypeId} {v : Value} {xs : List Value} {g : Nat} {cs : Array Value} (h : w.ownsRow B t 1 v n xs) (hg : w.heap[g]? = some (.cells cs t' (0, 0))) (hne : t ≠ t') : v.ownBlock ≠ some g := by
  intro e
  rcases h.2 with ⟨rfl, _⟩ | ⟨g', cp, cur, rfl, _, h3, _⟩
  · cases e
  · simp only [Value.ownBlock, Option.some.injEq] at e
    subst e
    rw [hg] at h3
    injection h3 with h3
    injection h3 with _ h3 _
    exact hne h3.symm
theorem Pr23.rows {w0 w w' : World} {p l m q r n B : Nat} {S T : Pu23} (h : Pr23 w0 w p l m q r n S T) {F : Nat → Prop} (hk : Kp F w w') (hF : ∀ k, F k → B ≤ k) (hb : p < B ∧ l < B ∧ m < B ∧ q < B ∧ r < B ∧ n < B) (hw : w0.heap.size ≤ B) : Pr23 w0 w' p l m q r n S T := by
  have hh : ∀ k, k < B → ¬ F k := fun k hk hf => by have := hF k hf; omega
  exact ⟨h.a.kp hk (hh _ hb.1) (hh _ hb.2.1) (hh _ hb.2.2.1), h.b.kp hk (hh _ hb.2.2.2.1) (hh _ hb.2.2.2.2.1) (hh _ hb.2.2.2.2.2), h.d, h.g, h.k.trans (hk.below (B := w0.heap.size) (fun i hi => by have := hF i hi; omega) h.k.size)⟩
/-- Names and what they may hold, as two rows; the purses; the call's own copy of what came in. -/
structure Lo23 (w0 : World) (B p l m q r n gu : Nat) (o : Oq23) (S T : Pu23) (W : World) (va vb : Value) (A : List ByteArray) (Z : List Int) : Prop where
  pr : Pr23 w0 W p l m q r n S T
  a : W.ownsRow B 9 1 va A.length (A.map Value.string)
  b : W.ownsRow B 3 1 vb Z.length (Z.map (Value.int .i64))
  c : W.heap[gu]? = some (.cells #[.bool o.h, .string o.s, .int .i64 o.n] 30 (0, 0))
  lt : p < B ∧ l < B ∧ m < B ∧ q < B ∧ r < B ∧ n < B
  ge : w0.heap.size ≤ B ∧ B ≤ W.heap.size
section
variable {w0 W : World} {B p l m q r n gu : Nat} {o : Oq23} {S T : Pu23} {va vb : Value} {A : List ByteArray} {Z : List Int}
theorem Lo23.alloc (h : Lo23 w0 B p l m q r n gu o S T W va vb A Z) (x : Obj) : Lo23 w0 B p l m q r n gu o S T (W.alloc x) va vb A Z := by
  have hk : Kp (fun _ => False) W (W.alloc x) := Kp.alloc _ _
  exact ⟨h.pr.rows hk (fun _ f => f.elim) h.lt h.ge.1, own_kp h.a hk (fun _ _ f => f), own_kp h.b hk (fun _ _ f => f), hk.heap h.c (fun f => f), h.lt, h.ge.1, Nat.le_trans h.ge.2 hk.size⟩
theorem Lo23.drew (h : Lo23 w0 B p l m q r n gu o S T W va vb A Z) : Lo23 w0 B p l m q r n gu o S T W.drew va vb A Z := by
  have hk : Kp (fun _ => False) W W.drew := (Kp.refl _ _).drew
  exact ⟨h.pr.rows hk (fun _ f => f.elim) h.lt h.ge.1, own_kp h.a hk (fun _ _ f => f), own_kp h.b hk (fun _ _ f => f), hk.heap h.c (fun f => f), h.lt, h.ge.1, Nat.le_trans h.ge.2 hk.size⟩
theorem Lo23.cells (h : Lo23 w0 B p l m q r n gu o S T W va vb A Z) : W.cell? ⟨gu, 1, none⟩ = some (.string o.s) ∧ W.cell? ⟨gu, 2, none⟩ = some (.int .i64 o.n) := ⟨three_cell1 h.c, three_cell2 h.c⟩
theorem Lo23.app_a (h : Lo23 w0 B p l m q r n gu o S T W va vb A Z) {g : Nat} {s : ByteArray} (hc : W.cell? ⟨g, 0, none⟩ = some (.string s)) (hA : A.length ≤ 1024) (ty : TypeId) :
    ∃ va' W', (Builtin.append_ #[35, 35] ty #[va, .slice (some ⟨g, 0, none⟩) 1 1]).run Try.prog W = .ok va' W' ∧ Lo23 w0 B p l m q r n gu o S T W' va' vb (A ++ [s]) Z ∧ (∀ k, va.ownBlock ≠ some k → k < W.heap.size → W'.heap[k]? = W.heap[k]?) := by
  obtain ⟨i0, hi, hz0, hz1, hz2⟩ := info_parts info_s23
  obtain ⟨v', W', hr, ho, hg, _, _⟩ := run_app_st (P := Try.prog) 35 ty B 9 i0 (.string ByteArray.empty) 16 Try.underlying35 hi hz0 hz1 hz2 rfl W h.a ⟨g, 0, none⟩ 1 1 [.string s] rfl
    (fun j u hu => by cases j with | zero => (simp at hu; subst hu; exact hc) | succ j => simp at hu) (by intro u hu; simp at hu; subst hu; rfl) (by omega) (by omega) h.ge.2
  have hk : Kp (fun k => va.ownBlock = some k) W W' := Kp.grown hg (fun i e => e)
  refine ⟨v', W', hr, ⟨h.pr.rows hk (fun k e => (h.a.lt k e).1) h.lt h.ge.1, by simpa using ho, own_kp h.b hk (fun k e e' => own_ap23 h.a h.b (by decide) e' e), hk.heap h.c (fun e => own_no23 h.a h.c (by decide) e), h.lt, h.ge.1, Nat.le_trans h.ge.2 hk.size⟩, fun k hn hl => hk.block k hl hn⟩
theorem Lo23.app_b (h : Lo23 w0 B p l m q r n gu o S T W va vb A Z) {g : Nat} {x : Int} (hc : W.cell? ⟨g, 0, none⟩ = some (.int .i64 x)) (hZ : Z.length ≤ 1024) (ty : TypeId) :
    ∃ vb' W', (Builtin.append_ #[36, 36] ty #[vb, .slice (some ⟨g, 0, none⟩) 1 1]).run Try.prog W = .ok vb' W' ∧ Lo23 w0 B p l m q r n gu o S T W' va vb' A (Z ++ [x]) := by
  obtain ⟨i0, hi, hz0, hz1, hz2⟩ := info_parts info_i23
  obtain ⟨v', W', hr, ho, hg, _, _⟩ := run_app_st (P := Try.prog) 36 ty B 3 i0 (.int .i64 0) 8 Try.underlying36 hi hz0 hz1 hz2 rfl W h.b ⟨g, 0, none⟩ 1 1 [.int .i64 x] rfl
    (fun j u hu => by cases j with | zero => (simp at hu; subst hu; exact hc) | succ j => simp at hu) (by intro u hu; simp at hu; subst hu; rfl) (by omega) (by omega) h.ge.2
  have hk : Kp (fun k => vb.ownBlock = some k) W W' := Kp.grown hg (fun i e => e)
  exact ⟨v', W', hr, ⟨h.pr.rows hk (fun k e => (h.b.lt k e).1) h.lt h.ge.1, own_kp h.a hk (fun k e e' => own_ap23 h.a h.b (by decide) e e'), by simpa using ho, hk.heap h.c (fun e => own_no23 h.b h.c (by decide) e), h.lt, h.ge.1, Nat.le_trans h.ge.2 hk.size⟩⟩
end
theorem new_cell23 (W : World) (v : Value) (t : TypeId) : (W.alloc (.cells #[v] t)).cell? ⟨W.heap.size, 0, none⟩ = some v := one_c23 (new_blk23 W _)
theorem old_cell23 {W : World} {g : Nat} {v : Value} (h : W.cell? ⟨g, 0, none⟩ = some v) (o : Obj) : (W.alloc o).cell? ⟨g, 0, none⟩ = some v :=
  (((Below.refl W.heap.size W).alloc (Nat.le_refl _) o).cell (p := ⟨g, 0, none⟩) (World.block_lt_of_cell? W _ h)).trans h
end Go.Proofs.Ytboangeopbblnaa
