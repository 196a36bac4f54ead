
import Derived.Test.YtjoghmdjnkdokaaDoorFlS
namespace Go.Proofs.YtjoghmdjnkdokaaDoor
open Go.RowKit Go.Shelf
set_option linter.unusedVariables false
set_option linter.unusedSimpArgs false

/-! The landed flash: Log. -/
theorem wpList_apr21 {P : Program} {ops : Array Oper} {rest : List Oper} {o : Oper} {a : Act} {Q : Exit → Act → World → Prop} {w : World} (hgd : o.guard = none) (s x : Operand) (t : TypeId)
    (ho : o.op = Op.call { callee := Callee.builtin Builtin.append, args := #[s, x], argTypes := #[t, t] }) {u v v' : Value} {w' : World} (hs : a.eval s = u) (hx : a.eval x = v) (hr : (Builtin.append_ #[t, t] o.type #[u, v]).run P w = .ok v' w')
    (h : wpList P ops Q rest (a.put o.dst v') w') : wpList P ops Q (o :: rest) a w :=
  wpList_plain hgd fun K hK => operwp_app21 s x t ho hs hx hr (hK _ _ h)
theorem lgc21_len (L : List (Int × Int × Int)) : (lgc21 L).length = L.length * 3 := by
  induction L with
  | nil => rfl
  | cons o r ih => simp only [lgc21, List.flatMap_cons, List.length_append, List.length_cons, List.length_nil] at ih ⊢; omega
theorem lgc21_one (L : List (Int × Int × Int)) : ∀ u ∈ lgc21 L, u.oneCell' = true := by
  intro u hu
  simp only [lgc21, List.mem_flatMap] at hu
  obtain ⟨o, _, h⟩ := hu
  simp only [List.mem_cons, List.not_mem_nil, or_false] at h
  rcases h with rfl | rfl | rfl <;> rfl
theorem lgc21_get : ∀ (L : List (Int × Int × Int)) (i : Nat) (o : Int × Int × Int), L[i]? = some o → (lgc21 L)[i * 3]? = some (.int .i64 o.1) ∧ (lgc21 L)[i * 3 + 1]? = some (.int .i64 o.2.1) ∧ (lgc21 L)[i * 3 + 2]? = some (.int .i64 o.2.2)
  | [], i, o, h => by simp at h
  | p :: r, 0, o, h => by simp at h; subst h; simp [lgc21]
  | p :: r, i + 1, o, h => by
    have := lgc21_get r i o (by simpa using h)
    have e : lgc21 (p :: r) = .int .i64 p.1 :: .int .i64 p.2.1 :: .int .i64 p.2.2 :: lgc21 r := by simp [lgc21]
    rw [e, show (i + 1) * 3 = i * 3 + 1 + 1 + 1 by omega]
    simpa using this
set_option maxRecDepth 100000 in
set_option maxHeartbeats 2000000 in
theorem pclop21 (la : Option Addr) (n lc : Nat) (L : List (Int × Int × Int)) (hn : Hid (L.length = n)) (w : World) (hl : w.ownsRow 0 128 3 (.slice la n lc) n (lgc21 L)) (hb : n ≤ 4398046511104) :
    Calls Tryd.prog 79 #[.slice la n lc] w fun e w' => (∃ ra rc, e = .returned (.slice ra n rc) ∧ w'.ownsRow w.heap.size 128 3 (.slice ra n rc) n (lgc21 L)) ∧ Below w.heap.size w w' := by
  obtain ⟨i0, hi, hz0, hz1, hz2⟩ := info_parts info_op21
  cases la with
  | none =>
    have h0 : n = 0 ∧ lc = 0 := by
      rcases hl.2 with ⟨h1, h2⟩ | ⟨g, cp, cur, h1, _⟩
      · simp at h1; exact h1
      · simp at h1
    obtain ⟨rfl, rfl⟩ := h0
    have hL : L = [] := List.eq_nil_of_length_eq_zero hn.out
    subst hL
    have HE := Go.Lib.run_eql_slice_nil (P := Tryd.prog) w 63 128 none 0 0 0 0 Tryd.underlying63
    clear hl hn
    go_enter Tryd.func79, Tryd.ntmps79
    go_wp2_with fail
    go_ret
    exact ⟨⟨none, 0, rfl, World.ownsRow_nil _ _ _ _⟩, Below.refl _ _⟩
  | some ad =>
    obtain ⟨g, hg⟩ : ∃ g, ad = ⟨g, 0, none⟩ := by
      rcases hl.2 with ⟨h1, h2⟩ | ⟨g, cp, cur, h1, _⟩
      · simp at h1
      · simp at h1; exact ⟨g, h1.1⟩
    subst hg
    have hm0 : (w.alloc (.cells #[] 128)).ownsRow w.heap.size 128 3 (.slice (some ⟨w.heap.size, 0, none⟩) 0 0) 0 [] := World.ownsRow_made w #[] 0 (Nat.le_refl _) (by decide) rfl
    have hb0 : Below w.heap.size w (w.alloc (.cells #[] 128)) := (Below.refl _ _).alloc (Nat.le_refl _) _
    have hcells : ∀ j u, (lgc21 L)[j]? = some u → (w.alloc (.cells #[] 128)).cell? ((⟨g, 0, none⟩ : Addr).add j) = some u := fun j u hu => by
      have h1 := hl.cells (g := g) rfl j u hu
      have hadd : (⟨g, 0, none⟩ : Addr).add j = ⟨g, j, none⟩ := by unfold Addr.add; split <;> simp_all
      rw [hadd] at h1 ⊢
      rw [hb0.cell (p := ⟨g, j, none⟩) (World.block_lt_of_cell? w _ h1)]
      exact h1
    obtain ⟨v', w', hr, h2, h3, _⟩ := run_append_own (P := Tryd.prog) (w.alloc (.cells #[] 128)) w.heap.size 63 63 128 i0 _ 3 24 Tryd.underlying63 hi hz0 hz1 hz2 rfl (by decide) _ 0 [] hm0 ⟨g, 0, none⟩ n lc (lgc21 L) (by rw [lgc21_len, hn.out]) hcells (lgc21_one L) (by unfold maxLen; omega) (by omega) (by simp)
    rw [Nat.zero_add, List.nil_append] at h2
    obtain ⟨ra, rc, rfl⟩ : ∃ ra rc, v' = .slice ra n rc := by
      rcases h2.2 with ⟨rfl, h0⟩ | ⟨g', cp, cur, rfl, _⟩
      · exact ⟨none, 0, by rw [h0]⟩
      · exact ⟨_, _, rfl⟩
    have hb1 : Below w.heap.size w w' := hb0.trans ((Kp.grown (S := fun k => w.heap.size ≤ k) h3 (fun i e => by simp [Value.ownBlock] at e; omega)).below (fun i e => e) (by simp))
    have HR : Hid ((Builtin.append_ #[63, 63] 63 #[.slice (some ⟨w.heap.size, 0, none⟩) 0 0, .slice (some ⟨g, 0, none⟩) n lc]).run Tryd.prog (w.alloc (.cells #[] 128)) = .ok (.slice ra n rc) w') := hr
    have HE := fun c => Go.Lib.run_eql_slice_nil (P := Tryd.prog) w 63 128 (some ⟨g, 0, none⟩) n c 0 0 Tryd.underlying63
    clear hr hcells hm0 hl hn
    go_enter Tryd.func79, Tryd.ntmps79
    go_wp2_with (first
      | (at_builtin; refine wpList_apr21 rfl (.tmp 5) (.tmp 6) 63 rfl rfl rfl HR.out ?_))
    go_ret
    exact ⟨⟨ra, rc, rfl, h2⟩, hb1⟩
set_option maxRecDepth 100000 in
set_option maxHeartbeats 2000000 in
theorem plog21 {w : World} {b : Nat} {F : Nat → Prop} {S : Fs21} (hF : Fl21 w b F S) (hO : Ok21 S) (hlg : S.lg.length ≤ 4398046511104) :
    Calls Tryd.prog 65 #[.pointer (some ⟨b, 0, none⟩)] w fun e w' => (∃ ra rc, e = .returned (.slice ra S.lg.length rc) ∧ w'.ownsRow w.heap.size 128 3 (.slice ra S.lg.length rc) S.lg.length (lgc21 S.lg)) ∧ Below w.heap.size w w' := by
  obtain ⟨c0, c1, c2, c3, c4, cf⟩ := hF.cells
  have HM := pmade21 b S.pg w c0 hO.pg.1
  obtain ⟨m, c, f, ta, tc, la, lc, V, h1, _⟩ := hF
  have c8 := h1.cel (i := 8) rfl
  have HC := pclop21 la S.lg.length lc S.lg rfl w h1.hl hlg
  clear h1 cf c0 c1 c2 c4 c3
  go_enter Tryd.func65, Tryd.ntmps65
  go_wp2_with fail
  refine HM.mono ?_
  rintro e w1 ⟨rfl, hw⟩
  subst w1
  go_wp2_with fail
  refine HC.mono ?_
  rintro e w2 ⟨⟨ra, rc, rfl, h2⟩, b2⟩
  go_wp2_with fail
  go_ret
  exact ⟨⟨ra, rc, rfl, h2⟩, b2⟩
end Go.Proofs.YtjoghmdjnkdokaaDoor
