import Derived.Test.YtiocdhkompekpaaPi
import Derived.Test.YtiocdhkompekpaaPj
import Derived.Test.YtiocdhkompekpaaPk
import Derived.Lib.SlBytesConst
namespace Go.Proofs.Ytiocdhkompekpaa
open Go.RowKit Go.Shelf
set_option linter.unusedVariables false
set_option linter.unusedSimpArgs false

/-! The landed flash: Program. -/
def pgE21 (S : Fs21) (x y : Int) (n : Nat) : Int := if rf21 S.on S.ps x y ≠ 0 then rf21 S.on S.ps x y else if S.pg < n then 1 else if (sh21 S x y).er = false then 212 else rc21 S
def pgS21 (S : Fs21) (x y : Int) (L : List Int) : Fs21 := if rf21 S.on S.ps x y ≠ 0 then S else if S.pg < L.length then S else if (sh21 S x y).er = false then S else rn21 S 2 x y ⟨L, false, (sh21 S x y).wr⟩
theorem fldb21 (a : Option Addr) (n c : Nat) (er : Bool) (wr : Int) (W : World) : (Instr.field 99 (.agg #[.slice a n c, .bool er, .int .i64 wr]) 1).run Try.prog W = .ok (.bool er) W := by kernel_rfl
set_option maxRecDepth 100000 in
set_option maxHeartbeats 8000000 in
theorem pprog21 {w : World} {b : Nat} {F : Nat → Prop} {S : Fs21} (hF : Fl21 w b F S) (hO : Ok21 S) (x y : Int) (hx : In21 x) (hy : In21 y) (hlg : S.lg.length ≤ 4398046511000) (a : Option Addr) (L : List Int) (n cap : Nat) (hs : Seg w a L) (hn : Hid (L.length = n)) (hnil : a = none → cap = 0) :
    Calls Try.prog 61 #[.pointer (some ⟨b, 0, none⟩), .int .i64 x, .int .i64 y, .slice a n cap] w fun e w' => e = .returned (.int .i64 (pgE21 S x y n)) ∧ Fn21 w w' b F (pgS21 S x y L) := by
  have HFl : Hid (Fl21 w b F S) := hF
  obtain ⟨m, c, f, ta, tc, la, lc, V, hI, hFb, hFm, hFl, hFV, hFs⟩ := hF
  have hlt := hI.bl
  obtain ⟨w1, hw1⟩ : ∃ w1, w1 = w.alloc (.cells #[.int .i64 x, .int .i64 y] 102) := ⟨_, rfl⟩
  have HW : Hid (w.alloc (.cells #[.int .i64 x, .int .i64 y] 102) = w1) := hw1.symm
  have b1 : Below w.heap.size w w1 := by rw [hw1]; exact (Below.refl _ _).alloc (Nat.le_refl _) _
  have q1 : w1.heap[w.heap.size]? = some (.cells #[.int .i64 x, .int .i64 y] 102 (0, 0)) := by rw [hw1]; exact heap_alloc_new _ _
  have HB1 : Hid (Below w.heap.size w w1) := b1
  have HR : Hid (∀ W : World, Below w.heap.size w W → Calls Try.prog 66 #[.pointer (some ⟨b, 0, none⟩), .agg #[.int .i64 x, .int .i64 y]] W fun e w' => e = .returned (.int .i64 (rf21 S.on S.ps x y)) ∧ Below W.heap.size W w') := fun W hW => pref21 b S.pg S.ps S.on x y W ((hI.old hW).cel (i := 0) rfl) hO.pg.1 ((hI.old hW).cel (i := 1) rfl) ((hI.old hW).cel (i := 3) rfl)
  have HS : Hid (∀ W : World, Below w.heap.size w W → Calls Try.prog 51 #[.pointer (some ⟨b, 0, none⟩), .agg #[.int .i64 x, .int .i64 y]] W fun e w' => e = .returned (shv21 (f x y) x) ∧ Below W.heap.size W w') := fun W hW => psht21 b m c f x y hx hy W ((hI.old hW).cel (i := 5) rfl) (hI.old hW).hm (hI.sv x y)
  obtain ⟨wa, wcap, hsv, hsl⟩ := hI.shv x y
  rw [hsv] at HS
  have HRUN : Hid (L.length ≤ S.pg → ∀ W : World, Below w.heap.size w W → Calls Try.prog 67 #[.pointer (some ⟨b, 0, none⟩), .iface 128 (.agg #[.int .i64 x, .int .i64 y, .slice a n cap])] W fun e w' => e = .returned (.int .i64 (rc21 S)) ∧ Fn21 W w' b F (rn21 S 2 x y ⟨L, false, (sh21 S x y).wr⟩)) := fun hle W hW => prun21 (hI.old hW) hO x y hx hy _ _ 2 ⟨L, false, (sh21 S x y).wr⟩ hlg (mtp21 x y a n cap) (fun Y a' n' k er hY => (pafp21 er (sh21 S x y).wr a' a n' k n cap x y L Y ((hs.old hW).old hY) hn hnil (by have := hO.pg.2; have := hn.out; omega)).mono (by
    rintro e w' ⟨⟨ra, rc, rfl, hc⟩, hb⟩
    exact ⟨⟨ra, rc, by rw [hn.out], hc⟩, hb⟩)) F hFb hFm hFl hFV (fun k e => Nat.lt_of_lt_of_le (hFs k e) hW.size)
  have c0 : ∀ W : World, Below w.heap.size w W → W.cell? ⟨b, 0, none⟩ = some (.int .i64 (S.pg : Int)) := fun W hW => (hI.old hW).cel (i := 0) rfl
  have HC0 : Hid (∀ W : World, Below w.heap.size w W → W.cell? ⟨b, 0, none⟩ = some (.int .i64 (S.pg : Int))) := c0
  have HE : Hid (pgE21 S x y n = if rf21 S.on S.ps x y ≠ 0 then rf21 S.on S.ps x y else if S.pg < n then 1 else if (sh21 S x y).er = false then 212 else rc21 S) := rfl
  have HS' : Hid (pgS21 S x y L = if rf21 S.on S.ps x y ≠ 0 then S else if S.pg < n then S else if (sh21 S x y).er = false then S else rn21 S 2 x y ⟨L, false, (sh21 S x y).wr⟩) := by show pgS21 S x y L = _; rw [← hn.out]; rfl
  rw [HE.out, HS'.out]
  generalize rf21 S.on S.ps x y = rf at *
  by_cases hrf : rf = 0
  · subst hrf
    rw [if_neg (show ¬ ((0 : Int) ≠ 0) by simp), if_neg (show ¬ ((0 : Int) ≠ 0) by simp)]
    by_cases h1 : S.pg < n
    · rw [if_pos h1, if_pos h1]
      have h1' : (S.pg : Int) < (n : Int) := by omega
      clear HRUN
      clear c0 hI hsv hsl HE HS' hw1 b1
      go_enter Try.func61, Try.ntmps61
      go_wp2_with fail
      rw [HW.out]
      refine (HR.out _ HB1.out).mono ?_
      rintro e w2 ⟨rfl, b2⟩
      have b2' : Below w.heap.size w w2 := HB1.out.trans (b2.mono HB1.out.size)
      have q2 := (b2.block _ (Array.getElem?_eq_some_iff.1 q1).1).trans q1
      have q20 := two_cell0 q2
      have q21 := two_cell1 q2
      have d0 := HC0.out w2 b2'
      go_wp2_with fail
      go_ret
      exact ⟨rfl, HFl.out.stay b2'⟩
    · rw [if_neg h1, if_neg h1]
      have h1' : ¬ (S.pg : Int) < (n : Int) := by omega
      have HRUN' := HRUN.out (by have := hn.out; omega)
      have HRU : Hid (∀ W : World, Below w.heap.size w W → Calls Try.prog 67 #[.pointer (some ⟨b, 0, none⟩), .iface 128 (.agg #[.int .i64 x, .int .i64 y, .slice a n cap])] W fun e w' => e = .returned (.int .i64 (rc21 S)) ∧ Fn21 W w' b F (rn21 S 2 x y ⟨L, false, (sh21 S x y).wr⟩)) := HRUN'
      clear HRUN HRUN'
      generalize rn21 S 2 x y ⟨L, false, (sh21 S x y).wr⟩ = S' at *
      generalize rc21 S = E' at *
      obtain ⟨WR, hWR⟩ : ∃ WR, WR = (sh21 S x y).wr := ⟨_, rfl⟩
      obtain ⟨WL, hWL⟩ : ∃ WL, WL = (sh21 S x y).b.length := ⟨_, rfl⟩
      rw [← hWR, ← hWL] at HS
      cases hWE : (sh21 S x y).er
      · rw [if_pos rfl, if_pos rfl]
        rw [hWE] at HS
        have hfd := fldb21 wa WL wcap false WR
        clear hWR hWL hWE
        clear c0 hI hsv hsl HE HS' hw1 b1
        go_enter Try.func61, Try.ntmps61
        go_wp2_with fail
        rw [HW.out]
        refine (HR.out _ HB1.out).mono ?_
        rintro e w2 ⟨rfl, b2⟩
        have b2' : Below w.heap.size w w2 := HB1.out.trans (b2.mono HB1.out.size)
        have q2 := (b2.block _ (Array.getElem?_eq_some_iff.1 q1).1).trans q1
        have q20 := two_cell0 q2
        have q21 := two_cell1 q2
        have d0 := HC0.out w2 b2'
        go_wp2_with fail
        refine (HS.out _ b2').mono ?_
        rintro e w3 ⟨rfl, b3⟩
        have b3' : Below w.heap.size w w3 := b2'.trans (b3.mono b2'.size)
        have q3 := (b3.block _ (Array.getElem?_eq_some_iff.1 q2).1).trans q2
        have q30 := two_cell0 q3
        have q31 := two_cell1 q3
        go_wp2_with fail
        go_ret
        exact ⟨rfl, HFl.out.stay b3'⟩
      · rw [if_neg (by simp), if_neg (by simp)]
        rw [hWE] at HS
        have hfd := fldb21 wa WL wcap true WR
        clear hWR hWL hWE
        clear c0 hI hsv hsl HE HS' hw1 b1
        go_enter Try.func61, Try.ntmps61
        go_wp2_with fail
        rw [HW.out]
        refine (HR.out _ HB1.out).mono ?_
        rintro e w2 ⟨rfl, b2⟩
        have b2' : Below w.heap.size w w2 := HB1.out.trans (b2.mono HB1.out.size)
        have q2 := (b2.block _ (Array.getElem?_eq_some_iff.1 q1).1).trans q1
        have q20 := two_cell0 q2
        have q21 := two_cell1 q2
        have d0 := HC0.out w2 b2'
        go_wp2_with fail
        refine (HS.out _ b2').mono ?_
        rintro e w3 ⟨rfl, b3⟩
        have b3' : Below w.heap.size w w3 := b2'.trans (b3.mono b2'.size)
        have q3 := (b3.block _ (Array.getElem?_eq_some_iff.1 q2).1).trans q2
        have q30 := two_cell0 q3
        have q31 := two_cell1 q3
        go_wp2_with fail
        refine (HRU.out _ b3').mono ?_
        rintro e w4 ⟨rfl, hn4⟩
        go_wp2_with fail
        go_ret
        exact ⟨rfl, hn4.from b3'⟩
  · rw [if_pos (show rf ≠ 0 from hrf), if_pos (show rf ≠ 0 from hrf)]
    have hrf' : (rf == 0) = false := by simp [hrf]
    clear HRUN
    clear c0 hI hsv hsl HE HS' hw1 b1
    go_enter Try.func61, Try.ntmps61
    go_wp2_with fail
    rw [HW.out]
    refine (HR.out _ HB1.out).mono ?_
    rintro e w2 ⟨rfl, b2⟩
    have b2' : Below w.heap.size w w2 := HB1.out.trans (b2.mono HB1.out.size)
    have q2 := (b2.block _ (Array.getElem?_eq_some_iff.1 q1).1).trans q1
    have q20 := two_cell0 q2
    have q21 := two_cell1 q2
    have d0 := HC0.out w2 b2'
    go_wp2_with fail
    go_ret
    exact ⟨rfl, HFl.out.stay b2'⟩
end Go.Proofs.Ytiocdhkompekpaa

namespace Go.Proofs.Ytiocdhkompekpaa
open Go.RowKit Go.Shelf
set_option linter.unusedVariables false
set_option linter.unusedSimpArgs false

/-! The law's lives. -/
theorem seg_lit21 (w : World) (zs : List Int) (t : TypeId) (fr : Nat × Nat) (h : ∀ z ∈ zs, 0 ≤ z ∧ z ≤ 255) : Seg (w.alloc (.cells (zs.map (Value.int .u8)).toArray t fr)) (some ⟨w.heap.size, 0, none⟩) zs := by
  refine ⟨fun i hi => ⟨w.heap.size, 0, rfl, ?_⟩, by decide, getD_bd (by decide) h⟩
  have e : zs.getD i 0 = zs[i] := by simp [List.getD, hi]
  rw [e, Nat.zero_add, World.cell?_alloc_mark]
  simp [hi]
def s1_21 : Fs21 := nw21 64 2 0 [111, 108, 100] []
def s2_21 : Fs21 := pgS21 s1_21 1 0 []
def s3_21 : Fs21 := erS21 s2_21 1 0
def s4_21 : Fs21 := pgS21 s3_21 1 0 [120]
theorem ok21_new (p q : Nat) (ac : Int) (L0 L1 : List Int) (hp : 64 ≤ p ∧ p ≤ 4096) (hq : 1 ≤ q ∧ q ≤ 4096) (ha : ac = 0 ∨ ac = 1) : Ok21 (nw21 p q ac L0 L1) := by
  refine ⟨hp, hq, ha, by simp [nw21], by simp [nw21], by simp [nw21], fun x y s h => ?_⟩
  simp only [nw21, pj21] at h
  split at h
  · unfold ck21 at h
    split at h
    · simp only [Option.some.injEq] at h
      subst h
      refine ⟨?_, by simp, by simp, by simp⟩
      show (List.take _ _).length ≤ p
      simp
      omega
    · cases h
  · cases h
theorem ok21_up {S : Fs21} (h : Ok21 S) (x y : Int) (s : Sh21) (hs : s.b.length ≤ S.pg ∧ 0 ≤ s.wr ∧ s.wr ≤ 1099511627776 ∧ (s.er = true → s.b = [])) : ∀ x' y' s', up21 S.pa x y s x' y' = some s' → s'.b.length ≤ S.pg ∧ 0 ≤ s'.wr ∧ s'.wr ≤ 1099511627776 ∧ (s'.er = true → s'.b = []) := by
  intro x' y' s' e
  unfold up21 at e
  split at e
  · cases e; exact hs
  · exact h.sh x' y' s' e
theorem ok21_rn {S : Fs21} (h : Ok21 S) (kd x y : Int) (s : Sh21) (hs : s.b.length ≤ S.pg ∧ 0 ≤ s.wr ∧ s.wr ≤ 1099511627776 ∧ (s.er = true → s.b = [])) : Ok21 (rn21 S kd x y s) := by
  unfold rn21
  split
  · refine ⟨h.pg, h.ps, h.ac, h.lm, by simp [cu21], by simp [cu21], ok21_up h x y _ ⟨?_, hs.2.1, hs.2.2.1, by simp⟩⟩
    show (la21 _ _ _).length ≤ _
    rw [la21_len _ _ _ h.tn (sh21_ok h x y).1]
    exact Nat.le_refl _
  · refine ⟨h.pg, h.ps, h.ac, h.lm, ?_, h.tn, ok21_up h x y s hs⟩
    have := h.lf
    show 0 ≤ max 0 (S.lf - 1) ∧ max 0 (S.lf - 1) ≤ _
    omega
theorem ok21_er {S : Fs21} (h : Ok21 S) (x y : Int) : Ok21 (erS21 S x y) := by
  unfold erS21
  split
  · exact h
  · split
    · exact h
    · rename_i h1 h2
      have h3 := sh21_ok h x y
      have h4 : ¬ 1099511627776 ≤ (sh21 S x y).wr := by
        intro e
        exact h2 (by simp [wo21, e])
      exact ok21_rn h 1 x y _ ⟨by simp, by show 0 ≤ (sh21 S x y).wr + 1; omega, by show (sh21 S x y).wr + 1 ≤ _; omega, fun _ => rfl⟩
theorem ok21_pg {S : Fs21} (h : Ok21 S) (x y : Int) (L : List Int) : Ok21 (pgS21 S x y L) := by
  unfold pgS21
  split
  · exact h
  · split
    · exact h
    · split
      · exact h
      · rename_i h1 h2 h3
        have h4 := sh21_ok h x y
        exact ok21_rn h 2 x y _ ⟨by show L.length ≤ _; omega, h4.2.1, h4.2.2, by simp⟩
theorem Fn21.kpw {w w' : World} {b N : Nat} {F : Nat → Prop} {S : Fs21} (h : Fn21 w w' b F S) (hF : ∀ k, F k → N ≤ k) (hN : N ≤ w.heap.size) : ∃ F', Fl21 w' b F' S ∧ (∀ k, F' k → N ≤ k) ∧ Below N w w' := by
  obtain ⟨F', h1, h2, h3⟩ := h
  exact ⟨F', h1, fun k e => by rcases h2 k e with h | h; (exact hF k h); omega, h3.below hF hN⟩
end Go.Proofs.Ytiocdhkompekpaa

namespace Go.Proofs.Ytiocdhkompekpaa
open Go.RowKit Go.Shelf
set_option linter.unusedVariables false
set_option linter.unusedSimpArgs false

/-! The landed flash: Log. -/
theorem wpList_apr21 {P : Program} {ops : Array Oper} {rest : List Oper} {o : Oper} {a : Act} {Q : Exit → Act → World → Prop} {w : World} (hgd : o.guard = none) (s x : Operand) (t : TypeId)
    (ho : o.op = Op.call { callee := Callee.builtin Builtin.append, args := #[s, x], argTypes := #[t, t] }) {u v v' : Value} {w' : World} (hs : a.eval s = u) (hx : a.eval x = v) (hr : (Builtin.append_ #[t, t] o.type #[u, v]).run P w = .ok v' w')
    (h : wpList P ops Q rest (a.put o.dst v') w') : wpList P ops Q (o :: rest) a w :=
  wpList_plain hgd fun K hK => operwp_app21 s x t ho hs hx hr (hK _ _ h)
theorem lgc21_len (L : List (Int × Int × Int)) : (lgc21 L).length = L.length * 3 := by
  induction L with
  | nil => rfl
  | cons o r ih => simp only [lgc21, List.flatMap_cons, List.length_append, List.length_cons, List.length_nil] at ih ⊢; omega
theorem lgc21_one (L : List (Int × Int × Int)) : ∀ u ∈ lgc21 L, u.oneCell' = true := by
  intro u hu
  simp only [lgc21, List.mem_flatMap] at hu
  obtain ⟨o, _, h⟩ := hu
  simp only [List.mem_cons, List.not_mem_nil, or_false] at h
  rcases h with rfl | rfl | rfl <;> rfl
theorem lgc21_get : ∀ (L : List (Int × Int × Int)) (i : Nat) (o : Int × Int × Int), L[i]? = some o → (lgc21 L)[i * 3]? = some (.int .i64 o.1) ∧ (lgc21 L)[i * 3 + 1]? = some (.int .i64 o.2.1) ∧ (lgc21 L)[i * 3 + 2]? = some (.int .i64 o.2.2)
  | [], i, o, h => by simp at h
  | p :: r, 0, o, h => by simp at h; subst h; simp [lgc21]
  | p :: r, i + 1, o, h => by
    have := lgc21_get r i o (by simpa using h)
    have e : lgc21 (p :: r) = .int .i64 p.1 :: .int .i64 p.2.1 :: .int .i64 p.2.2 :: lgc21 r := by simp [lgc21]
    rw [e, show (i + 1) * 3 = i * 3 + 1 + 1 + 1 by omega]
    simpa using this
set_option maxRecDepth 100000 in
set_option maxHeartbeats 2000000 in
theorem pclop21 (la : Option Addr) (n lc : Nat) (L : List (Int × Int × Int)) (hn : Hid (L.length = n)) (w : World) (hl : w.ownsRow 0 91 3 (.slice la n lc) n (lgc21 L)) (hb : n ≤ 4398046511104) :
    Calls Try.prog 57 #[.slice la n lc] w fun e w' => (∃ ra rc, e = .returned (.slice ra n rc) ∧ w'.ownsRow w.heap.size 91 3 (.slice ra n rc) n (lgc21 L)) ∧ Below w.heap.size w w' := by
  obtain ⟨i0, hi, hz0, hz1, hz2⟩ := info_parts info_op21
  cases la with
  | none =>
    have h0 : n = 0 ∧ lc = 0 := by
      rcases hl.2 with ⟨h1, h2⟩ | ⟨g, cp, cur, h1, _⟩
      · simp at h1; exact h1
      · simp at h1
    obtain ⟨rfl, rfl⟩ := h0
    have hL : L = [] := List.eq_nil_of_length_eq_zero hn.out
    subst hL
    have HE := Go.Lib.run_eql_slice_nil (P := Try.prog) w 66 91 none 0 0 0 0 Try.underlying66
    clear hl hn
    go_enter Try.func57, Try.ntmps57
    go_wp2_with fail
    go_ret
    exact ⟨⟨none, 0, rfl, World.ownsRow_nil _ _ _ _⟩, Below.refl _ _⟩
  | some ad =>
    obtain ⟨g, hg⟩ : ∃ g, ad = ⟨g, 0, none⟩ := by
      rcases hl.2 with ⟨h1, h2⟩ | ⟨g, cp, cur, h1, _⟩
      · simp at h1
      · simp at h1; exact ⟨g, h1.1⟩
    subst hg
    have hm0 : (w.alloc (.cells #[] 91)).ownsRow w.heap.size 91 3 (.slice (some ⟨w.heap.size, 0, none⟩) 0 0) 0 [] := World.ownsRow_made w #[] 0 (Nat.le_refl _) (by decide) rfl
    have hb0 : Below w.heap.size w (w.alloc (.cells #[] 91)) := (Below.refl _ _).alloc (Nat.le_refl _) _
    have hcells : ∀ j u, (lgc21 L)[j]? = some u → (w.alloc (.cells #[] 91)).cell? ((⟨g, 0, none⟩ : Addr).add j) = some u := fun j u hu => by
      have h1 := hl.cells (g := g) rfl j u hu
      have hadd : (⟨g, 0, none⟩ : Addr).add j = ⟨g, j, none⟩ := by unfold Addr.add; split <;> simp_all
      rw [hadd] at h1 ⊢
      rw [hb0.cell (p := ⟨g, j, none⟩) (World.block_lt_of_cell? w _ h1)]
      exact h1
    obtain ⟨v', w', hr, h2, h3, _⟩ := run_append_own (P := Try.prog) (w.alloc (.cells #[] 91)) w.heap.size 66 66 91 i0 _ 3 24 Try.underlying66 hi hz0 hz1 hz2 rfl (by decide) _ 0 [] hm0 ⟨g, 0, none⟩ n lc (lgc21 L) (by rw [lgc21_len, hn.out]) hcells (lgc21_one L) (by unfold maxLen; omega) (by omega) (by simp)
    rw [Nat.zero_add, List.nil_append] at h2
    obtain ⟨ra, rc, rfl⟩ : ∃ ra rc, v' = .slice ra n rc := by
      rcases h2.2 with ⟨rfl, h0⟩ | ⟨g', cp, cur, rfl, _⟩
      · exact ⟨none, 0, by rw [h0]⟩
      · exact ⟨_, _, rfl⟩
    have hb1 : Below w.heap.size w w' := hb0.trans ((Kp.grown (S := fun k => w.heap.size ≤ k) h3 (fun i e => by simp [Value.ownBlock] at e; omega)).below (fun i e => e) (by simp))
    have HR : Hid ((Builtin.append_ #[66, 66] 66 #[.slice (some ⟨w.heap.size, 0, none⟩) 0 0, .slice (some ⟨g, 0, none⟩) n lc]).run Try.prog (w.alloc (.cells #[] 91)) = .ok (.slice ra n rc) w') := hr
    have HE := fun c => Go.Lib.run_eql_slice_nil (P := Try.prog) w 66 91 (some ⟨g, 0, none⟩) n c 0 0 Try.underlying66
    clear hr hcells hm0 hl hn
    go_enter Try.func57, Try.ntmps57
    go_wp2_with (first
      | (at_builtin; refine wpList_apr21 rfl (.tmp 5) (.tmp 6) 66 rfl rfl rfl HR.out ?_))
    go_ret
    exact ⟨⟨ra, rc, rfl, h2⟩, hb1⟩
set_option maxRecDepth 100000 in
set_option maxHeartbeats 2000000 in
theorem plog21 {w : World} {b : Nat} {F : Nat → Prop} {S : Fs21} (hF : Fl21 w b F S) (hO : Ok21 S) (hlg : S.lg.length ≤ 4398046511104) :
    Calls Try.prog 47 #[.pointer (some ⟨b, 0, none⟩)] w fun e w' => (∃ ra rc, e = .returned (.slice ra S.lg.length rc) ∧ w'.ownsRow w.heap.size 91 3 (.slice ra S.lg.length rc) S.lg.length (lgc21 S.lg)) ∧ Below w.heap.size w w' := by
  obtain ⟨c0, c1, c2, c3, c4, cf⟩ := hF.cells
  have HM := pmade21 b S.pg w c0 hO.pg.1
  obtain ⟨m, c, f, ta, tc, la, lc, V, h1, _⟩ := hF
  have c8 := h1.cel (i := 8) rfl
  have HC := pclop21 la S.lg.length lc S.lg rfl w h1.hl hlg
  clear h1 cf c0 c1 c2 c4 c3
  go_enter Try.func47, Try.ntmps47
  go_wp2_with fail
  refine HM.mono ?_
  rintro e w1 ⟨rfl, hw⟩
  subst w1
  go_wp2_with fail
  refine HC.mono ?_
  rintro e w2 ⟨⟨ra, rc, rfl, h2⟩, b2⟩
  go_wp2_with fail
  go_ret
  exact ⟨⟨ra, rc, rfl, h2⟩, b2⟩
end Go.Proofs.Ytiocdhkompekpaa
