
import Derived.Test.YtboangeopbblnaaPuRb
import Derived.Maps.AppendAt
namespace Go.Proofs.Ytboangeopbblnaa
open Go.RowKit Go.Maps Go.WideMaps Go.MuLone Go.Shelf
set_option linter.unusedVariables false
set_option linter.unusedSimpArgs false
set_option maxRecDepth 100000

/-! The document's Open. -/
theorem info_h23 : (Try.prog.info? 67).map (fun i => (i.zero, i.size, i.bytes)) = some (some (.agg #[.string ByteArray.empty, .int .i64 0, .int .i64 0]), 3, 32) := by kernel_rfl
theorem slice_nhi23 (W : World) : (Instr.slice 26 (.slice none 0 0) none (some (.int .i64 0)) none).run Try.prog W = .ok (.slice none 0 0) W := by kernel_rfl
theorem slice_nlo23 (W : World) : (Instr.slice 26 (.slice none 0 0) (some (.int .i64 0)) none none).run Try.prog W = .ok (.slice none 0 0) W := by kernel_rfl
theorem slice_hi23 (a : Option Addr) (n k m : Nat) (hnk : n ≤ k) (hm : m ≤ n) (hn : a = none → k = 0) (W : World) : (Instr.slice 26 (.slice a n k) none (some (.int .i64 (m : Int))) none).run Try.prog W = .ok (.slice a m k) W := by
  have h1 : (m : Int) ≤ (k : Int) := by omega
  have h0 : (0 : Int) ≤ (m : Int) := by omega
  cases a with
  | none =>
    have := hn rfl
    subst this
    obtain rfl : n = 0 := by omega
    obtain rfl : m = 0 := by omega
    exact slice_nhi23 W
  | some x => go_simp
theorem slice_lo23 (g n k m : Nat) (hnk : n ≤ k) (hm : m ≤ n) (W : World) : (Instr.slice 26 (.slice (some ⟨g, 0, none⟩) n k) (some (.int .i64 (m : Int))) none none).run Try.prog W = .ok (.slice (some (if k = m then ⟨g, 0, none⟩ else ⟨g, m * 3, none⟩)) (n - m) (k - m)) W := by
  have h1 : (m : Int) ≤ (k : Int) := by omega
  have h2 : (m : Int) ≤ (n : Int) := by omega
  have h3 : (n : Int) ≤ (k : Int) := by omega
  have h0 : (0 : Int) ≤ (m : Int) := by omega
  by_cases h : k = m
  · subst h
    go_simp
  · go_simp
/-- Holders that lie somewhere. -/
def Sh23 (W : World) (ad : Option Addr) (M : List Ho23) : Prop := ∀ a, ad = some a → ∀ j u, (fl23 M)[j]? = some u → W.cell? (a.add j) = some u
theorem app_h23 {W : World} {v : Value} {L : List Ho23} (h : W.ownsRow 0 67 3 v L.length (fl23 L)) (ad : Option Addr) (c : Nat) (M : List Ho23) (hn : ad = none → M = [] ∧ c = 0) (hc : Sh23 W ad M) (hb : L.length + M.length ≤ 1048576) (ty : TypeId) :
    ∃ v' W', (Builtin.append_ #[26, 26] ty #[v, .slice ad M.length c]).run Try.prog W = .ok v' W' ∧ W'.ownsRow 0 67 3 v' (L ++ M).length (fl23 (L ++ M)) ∧ Kp (fun k => v.ownBlock = some k) W W' ∧ (∀ k, v'.ownBlock = some k → v.ownBlock = some k ∨ W.heap.size ≤ k) := by
  obtain ⟨i0, hi, hz0, hz1, hz2⟩ := info_parts info_h23
  cases ad with
  | none =>
    obtain ⟨rfl, rfl⟩ := hn rfl
    refine ⟨v, W, run_append_owned_none (P := Try.prog) (w := W) 0 26 ty 67 i0 3 Try.underlying26 hi v L.length (fl23 L) h, by simpa using h, Kp.refl _ _, fun k e => .inl e⟩
  | some a =>
    obtain ⟨v', W', hr, h2, h3, _, h5⟩ := run_append_own_at (P := Try.prog) W 0 26 ty 67 i0 _ 3 32 Try.underlying26 hi hz0 hz1 hz2 rfl (by decide) v L.length (fl23 L) h a M.length c (fl23 M) (fl23_len M) (hc a rfl) (fl23_one M) (by unfold maxLen; omega) (by omega) (Nat.zero_le _)
    refine ⟨v', W', hr, by rw [List.length_append, fl23_app]; exact h2, Kp.grown h3 (fun i e => e), fun k e => ?_⟩
    rcases h5 with h5 | h5
    · left; rw [← h5]; exact e
    · right; rw [h5] at e; injection e with e; omega
theorem Sh23.of_row {w : World} {g : Nat} {n rc : Nat} {L : List Ho23} (h : w.ownsRow 0 67 3 (.slice (some ⟨g, 0, none⟩) n rc) n (fl23 L)) (i : Nat) : Sh23 w (some ⟨g, 0, none⟩) (L.take i) ∧ Sh23 w (some ⟨g, i * 3, none⟩) (L.drop i) := by
  have hadd : ∀ o j, (⟨g, o, none⟩ : Addr).add j = ⟨g, o + j, none⟩ := by intro o j; unfold Addr.add; split <;> simp_all
  refine ⟨fun a ea j u hu => ?_, fun a ea j u hu => ?_⟩
  · cases ea
    rw [fl23_take, List.getElem?_take] at hu
    split at hu
    · exact h.cells (g := g) rfl j u hu
    · cases hu
  · cases ea
    rw [fl23_drop, List.getElem?_drop] at hu
    have := h.cells (g := g) rfl _ u hu
    rw [hadd] at this ⊢
    rw [Nat.zero_add] at this
    exact this
theorem Sh23.kp {w w' : World} {g o : Nat} {M : List Ho23} (h : Sh23 w (some ⟨g, o, none⟩) M) {F : Nat → Prop} (hk : Kp F w w') (hg : ¬ F g) : Sh23 w' (some ⟨g, o, none⟩) M := by
  intro a ea j u hu
  cases ea
  have hadd : ∀ o j, (⟨g, o, none⟩ : Addr).add j = ⟨g, o + j, none⟩ := by intro o j; unfold Addr.add; split <;> simp_all
  have := h _ rfl j u hu
  rw [hadd] at this ⊢
  exact (World.cell?_of_block (a := ⟨g, o + j, none⟩) (hk.block g (World.block_lt_of_cell? _ _ this) hg)).trans this
theorem own_cap23 {w : World} {t : TypeId} {ra : Option Addr} {n rc : Nat} {xs : List Value} (h : w.ownsRow 0 t 3 (.slice ra n rc) n xs) : n ≤ rc := by
  rcases h.2 with ⟨h1, h0⟩ | ⟨g, cp, cur, h1, h2, h3, h4, _⟩
  · omega
  · simp only [Value.slice.injEq] at h1; omega
/-- What Open leaves. -/
def OpQ23 (w : World) (x g : Nat) (S : Pu23) (s : ByteArray) (n : Int) (e : Ending) (w' : World) : Prop := e = .returned (.int .i64 (oE23 S s n)) ∧ ∃ g', Rr23 w' x g' (oS23 S s n) ∧ (g' = g ∨ w.heap.size ≤ g') ∧ Kp (fun k => k = x ∨ k = g) w w'
/-- The row is laid anew, a holder put in: what its three appends make. -/
theorem row_new23 {w : World} {x g : Nat} {ra : Option Addr} {rc : Nat} {S : Pu23} (h : Rw23 w x g ra rc S) (ok : Ok23 S) (s : ByteArray) (n : Int) (hz : oE23 S s n = 0) (hs : s.size ≤ 9223372036854775807) :
    Hid (∃ (ad : Option Addr) (c1 c2 : Nat) (v1 : Value) (W1 : World) (v2 : Value) (W2 : World) (a3 : Option Addr) (n3 c3 : Nat) (W3 : World),
      (∀ W, (Instr.slice 26 (.slice ra S.L.length rc) none (some (.int .i64 (ix23 S.L s : Nat))) none).run Try.prog W = .ok (.slice ra (ix23 S.L s) rc) W) ∧
      (∀ W, (Instr.slice 26 (.slice ra S.L.length rc) (some (.int .i64 (ix23 S.L s : Nat))) none none).run Try.prog W = .ok (.slice ad c1 c2) W) ∧
      ((Builtin.append_ #[26, 26] 26 #[.slice (some ⟨w.heap.size, 0, none⟩) 0 0, .slice ra (ix23 S.L s) rc]).run Try.prog (w.alloc (.cells #[] 67)) = .ok v1 W1) ∧
      ((Builtin.append_ #[26, 26] 26 #[v1, .slice (some ⟨W1.heap.size, 0, none⟩) 1 1]).run Try.prog (W1.alloc (.cells #[.string s, .int .i64 n, .int .i64 0] 67)) = .ok v2 W2) ∧
      ((Builtin.append_ #[26, 26] 26 #[v2, .slice ad c1 c2]).run Try.prog W2 = .ok (.slice a3 n3 c3) W3) ∧
      W1.cell? ⟨x, 0, none⟩ = some (.slice ra S.L.length rc) ∧ W2.cell? ⟨x, 0, none⟩ = some (.slice ra S.L.length rc) ∧ W3.cell? ⟨x, 0, none⟩ = some (.slice ra S.L.length rc) ∧ W3.frozen? ⟨x, 0, none⟩ = false ∧
      ∃ g', Rr23 (W3.setCell ⟨x, 0, none⟩ (.slice a3 n3 c3)) x g' (oS23 S s n) ∧ w.heap.size ≤ g' ∧ Kp (fun k => k = x ∨ k = g) w (W3.setCell ⟨x, 0, none⟩ (.slice a3 n3 c3))) := by
  obtain ⟨I, hI⟩ : ∃ I, I = ix23 S.L s := ⟨_, rfl⟩
  have hIl : I ≤ S.L.length := by rw [hI]; exact ix23_le _ _
  have hcap := own_cap23 h.b
  have hln := ok.ln
  rw [← hI]
  have hz' := oE23_zero hz
  -- the first append
  have hm0 : (w.alloc (.cells #[] 67)).ownsRow 0 67 3 (.slice (some ⟨w.heap.size, 0, none⟩) 0 0) ([] : List Ho23).length (fl23 []) := World.ownsRow_made w #[] 0 (Nat.zero_le _) (by decide) rfl
  have k0 : Kp (fun _ => False) w (w.alloc (.cells #[] 67)) := Kp.alloc _ _
  have z0 : (w.alloc (.cells #[] 67)).heap.size = w.heap.size + 1 := by simp
  have hsh : ∀ W : World, Kp (fun k => w.heap.size ≤ k) w W → Sh23 W ra (S.L.take I) := fun W hk => by
    cases ra with
    | none => intro a ea; cases ea
    | some a0 =>
      rcases h.b.2 with ⟨e, _⟩ | ⟨g2, cp, cur, e1, e2, e3, e4⟩
      · simp at e
      · simp only [Value.slice.injEq, Option.some.injEq] at e1
        obtain ⟨rfl, -⟩ := e1
        exact (Sh23.of_row h.b I).1.kp hk (by have := (Array.getElem?_eq_some_iff.1 e3).1; omega)
  have hnone : ra = none → S.L = [] ∧ rc = 0 := fun e => ⟨List.eq_nil_of_length_eq_zero (h.c e).1, (h.c e).2⟩
  have kk0 : Kp (fun k => w.heap.size ≤ k) w (w.alloc (.cells #[] 67)) := k0.mono (fun _ _ f => f.elim)
  have hl1 : (S.L.take I).length = I := by rw [List.length_take]; omega
  have A1 := app_h23 hm0 ra rc (S.L.take I) (fun e => ⟨by rw [(hnone e).1]; simp, (hnone e).2⟩) (hsh _ kk0) (by rw [hl1]; simp; omega) 26
  rw [hl1] at A1
  obtain ⟨v1, W1, r1, o1, q1, f1⟩ := A1
  have kk1 : Kp (fun k => w.heap.size ≤ k) w W1 := kk0.trans (q1.mono (fun k _ e => by simp only [Value.ownBlock, Option.some.injEq] at e; show w.heap.size ≤ k; omega)) (fun _ _ h => h)
  have g1 : ∀ k, v1.ownBlock = some k → w.heap.size ≤ k := fun k e => by
    rcases f1 k e with e | e
    · simp only [Value.ownBlock, Option.some.injEq] at e; omega
    · omega
  -- the second
  have o1' : (W1.alloc (.cells #[.string s, .int .i64 n, .int .i64 0] 67)).ownsRow 0 67 3 v1 (S.L.take I).length (fl23 (S.L.take I)) := by have := o1.alloc (.cells #[.string s, .int .i64 n, .int .i64 0] 67); simpa using this
  have hnew : Sh23 (W1.alloc (.cells #[.string s, .int .i64 n, .int .i64 0] 67)) (some ⟨W1.heap.size, 0, none⟩) [⟨s, n, 0⟩] := fun a ea j u hu => by
    cases ea
    have hadd : (⟨W1.heap.size, 0, none⟩ : Addr).add j = ⟨W1.heap.size, j, none⟩ := by unfold Addr.add; split <;> simp_all
    rw [hadd]
    have hh := new_blk23 W1 (.cells #[.string s, .int .i64 n, .int .i64 0] 67)
    simp only [World.cell?, hh]
    simpa [fl23, hc23] using hu
  obtain ⟨v2, W2, r2, o2, q2, f2⟩ := app_h23 o1' (some ⟨W1.heap.size, 0, none⟩) 1 [⟨s, n, 0⟩] (by intro e; cases e) hnew (by rw [hl1]; simp; omega) 26
  have kk2a : Kp (fun k => w.heap.size ≤ k) w (W1.alloc (.cells #[.string s, .int .i64 n, .int .i64 0] 67)) := kk1.trans (Kp.alloc (S := fun k => w.heap.size ≤ k) _ _) (fun _ _ h => h)
  have kk2 : Kp (fun k => w.heap.size ≤ k) w W2 := kk2a.trans (q2.mono (fun k _ e => g1 k e)) (fun _ _ h => h)
  have g2 : ∀ k, v2.ownBlock = some k → w.heap.size ≤ k := fun k e => by
    rcases f2 k e with e | e
    · exact g1 k e
    · have := kk2a.size; omega
  -- the third
  have hthird : ∃ (ad : Option Addr) (c2 : Nat), (∀ W, (Instr.slice 26 (.slice ra S.L.length rc) (some (.int .i64 (I : Nat))) none none).run Try.prog W = .ok (.slice ad (S.L.drop I).length c2) W) ∧ Sh23 W2 ad (S.L.drop I) ∧ (ad = none → S.L.drop I = [] ∧ c2 = 0) := by
    cases ra with
    | none =>
      obtain ⟨e1, e2⟩ := hnone rfl
      have e3 : I = 0 := by rw [e1] at hIl; simpa using hIl
      subst e3
      refine ⟨none, 0, fun W => ?_, (by intro a ea; cases ea), fun _ => ⟨by rw [e1]; simp, rfl⟩⟩
      rw [e1, e2]
      exact slice_nlo23 W
    | some a0 =>
      rcases h.b.2 with ⟨e, _⟩ | ⟨g3, cp, cur, e1, e2, e3, e4⟩
      · simp at e
      · simp only [Value.slice.injEq, Option.some.injEq] at e1
        obtain ⟨rfl, -⟩ := e1
        refine ⟨some (if rc = I then ⟨g3, 0, none⟩ else ⟨g3, I * 3, none⟩), rc - I, fun W => by rw [List.length_drop]; exact slice_lo23 g3 S.L.length rc I hcap hIl W, ?_, by intro e; cases e⟩
        by_cases hc : rc = I
        · rw [if_pos hc]
          have : S.L.drop I = [] := List.drop_eq_nil_of_le (by omega)
          rw [this]
          intro a ea j u hu
          simp [fl23] at hu
        · rw [if_neg hc]
          exact (Sh23.of_row h.b I).2.kp kk2 (by have := (Array.getElem?_eq_some_iff.1 e3).1; omega)
  obtain ⟨ad, c2, hsl, hS2, hn2⟩ := hthird
  obtain ⟨v3, W3, r3, o3, q3, f3⟩ := app_h23 o2 ad c2 (S.L.drop I) hn2 hS2 (by rw [List.length_append, hl1, List.length_drop]; simp; omega) 26
  have kk3 : Kp (fun k => w.heap.size ≤ k) w W3 := kk2.trans (q3.mono (fun k _ e => g2 k e)) (fun _ _ h => h)
  have g3 : ∀ k, v3.ownBlock = some k → w.heap.size ≤ k := fun k e => by
    rcases f3 k e with e | e
    · exact g2 k e
    · have := kk2.size; omega
  have hx : ∀ W : World, Kp (fun k => w.heap.size ≤ k) w W → W.heap[x]? = some (.cells #[.slice ra S.L.length rc, .int .i64 S.pk] 28 (0, 0)) := fun W hk => hk.heap h.a (by have := h.lt.1; omega)
  have hoS : oS23 S s n = ⟨in23 ⟨s, n, 0⟩ S.L, S.pk⟩ := by unfold oS23; rw [if_pos hz]
  have hin : S.L.take I ++ [⟨s, n, 0⟩] ++ S.L.drop I = in23 ⟨s, n, 0⟩ S.L := by rw [hI]; simp [in23]
  rw [hin] at o3
  have hok : Ok23 (oS23 S s n) := ok.open_ hs n
  rw [hoS] at hok ⊢
  -- the form of the last row
  obtain ⟨g4, cap4, cur4, e41, e42, e43, e44, e45, e46, e47⟩ : ∃ g cap cur, v3 = .slice (some ⟨g, 0, none⟩) (in23 ⟨s, n, 0⟩ S.L).length cap ∧ 0 ≤ g ∧ W3.heap[g]? = some (.cells cur 67 (0, 0)) ∧ (in23 ⟨s, n, 0⟩ S.L).length ≤ cap ∧ cap ≤ maxLen ∧ cur.size = cap * 3 ∧ cur.toList.take ((in23 ⟨s, n, 0⟩ S.L).length * 3) = fl23 (in23 ⟨s, n, 0⟩ S.L) := by
    rcases o3.2 with ⟨_, e⟩ | e
    · rw [in23_len] at e; omega
    · exact e
  subst e41
  have hgx : g4 ≠ x := fun e => by have := g3 g4 rfl; have := h.lt.1; omega
  have kset : Kp (fun k => k = x) W3 (W3.setCell ⟨x, 0, none⟩ (.slice (some ⟨g4, 0, none⟩) (in23 ⟨s, n, 0⟩ S.L).length cap4)) := Kp.set (S := fun k => k = x) rfl _
  have hx3 := hx W3 kk3
  refine ⟨ad, (S.L.drop I).length, c2, v1, W1, v2, W2, some ⟨g4, 0, none⟩, (in23 ⟨s, n, 0⟩ S.L).length, cap4, W3, fun W => slice_hi23 ra S.L.length rc I hcap hIl (fun e => (hnone e).2) W, hsl, r1, r2, r3, (two_c23 (hx W1 kk1)).1, (two_c23 (hx W2 kk2)).1, (two_c23 hx3).1, by simp [World.frozen?, hx3], g4, ⟨⟨some ⟨g4, 0, none⟩, cap4, ?_, ?_, (by intro e; cases e), fun k e => ?_⟩, hok, ?_, ?_⟩, ?_, ?_⟩
  · simp [World.setCell, hx3, Array.getElem?_modify]
  · exact ⟨o3.1, .inr ⟨g4, cap4, cur4, rfl, e42, kset.heap e43 hgx, e44, e45, e46, e47⟩⟩
  · simp only [Value.ownBlock, Option.some.injEq] at e; exact e.symm
  · have := kset.size; have := kk3.size; have := h.lt.1; omega
  · have h1 := (Array.getElem?_eq_some_iff.1 e43).1; have := kset.size; omega
  · exact g3 g4 rfl
  · exact (kk3.mono (S' := fun k => k = x ∨ k = g) (fun k hk e => by omega)).trans (kset.mono (fun k _ e => .inl e)) (fun _ _ h => h)
end Go.Proofs.Ytboangeopbblnaa
