
import Derived.Test.YthebboppbebffaaRgDo4
namespace Go.Proofs.Ythebboppbebffaa
open Go.RowKit
set_option linter.unusedVariables false

/-- Any call of a script. -/
theorem do_any {b bx S M : Nat} {F G : Nat → Prop} {L : List Int} (o : CallD) (w : World) (h : RP w b F S L) (hw : WR w bx G S L) (hd : Dj F G) (hl : L.length + o.p.length ≤ 70368744177000) (hS : S ≤ 32768)
    (hs : Seg w o.ba o.p) (hcap : o.p.length ≤ o.bc) (hnil : o.ba = none → o.bc = 0) (hfar : ∀ g off, o.ba = some ⟨g, off, none⟩ → 0 < o.p.length → ¬ F g ∧ ¬ G g) (hM : o.p.length + 258 ≤ M) :
    Calls Try.prog 14 #[.pointer (some ⟨b, 0, none⟩), .pointer (some ⟨bx, 0, none⟩), .agg #[.int .i64 o.K, .slice o.ba o.p.length o.bc, .int .i64 o.D, .int .i64 o.N]] w fun e w' => DoQ w b bx S M F G L e w' := by
  obtain ⟨K, ba, p, bc, D, N⟩ := o
  by_cases h0 : K = 0
  · subst h0
    exact do_put p D N ba p.length bc w h hw hd (by simp only at hl; omega) hS rfl hs hcap hnil hfar (by simp only at hM; omega) hl
  by_cases h1 : K = 1
  · subst h1
    exact do_at D N ba p.length bc w h hw hd (by omega) hS
  by_cases h2 : K = 2
  · subst h2
    exact do_copy D N ba p.length bc w h hw hd (by omega) hS (by omega)
  by_cases h3 : K = 3
  · subst h3
    exact do_last D N ba p.length bc w h hw hd (by omega) hS
  by_cases h4 : K = 4
  · subst h4
    exact do_reset D N ba p.length bc w h hw hd (by omega) hS
  exact do_none K D N ba p.length bc w h hw hd (by omega) hS ⟨h0, h1, h2, h3, h4⟩
/-- What stands at the head of a round: both rings, the one beside them, and what came in. -/
structure RuI (w wr : World) (b bx b3 S : Nat) (F G H : Nat → Prop) (L : List Int) : Prop where
  r : RP wr b F S L
  x : WR wr bx G S L
  z : RP wr b3 H S []
  dj : Dj F G
  dz : Dj (fun k => F k ∨ G k) H
  bel : Below w.heap.size w wr
  new : ∀ k, F k ∨ G k ∨ H k → w.heap.size ≤ k
theorem RuI.step {w wr w' : World} {b bx b3 S M : Nat} {F G H : Nat → Prop} {L : List Int} {e : Ending} (h : RuI w wr b bx b3 S F G H L) (q : DoQ wr b bx S M F G L e w') : e = .returned (.bool true) ∧ ∃ F' G' L', RuI w w' b bx b3 S F' G' H L' ∧ L'.length ≤ L.length + M := by
  obtain ⟨he, F', G', L', R, X, J, K, P, hl⟩ := q
  refine ⟨he, F', G', L', ⟨R, X, h.z.kp K h.dz.symm, J, h.dz.fresh P (fun k e => h.z.lt k e), h.bel.trans (K.below (fun k e => h.new k (e.elim .inl (fun e => .inr (.inl e)))) h.bel.size), ?_⟩, hl⟩
  have hz := h.bel.size
  have hh := fun k e => h.new k (.inr (.inr e))
  rintro k (e | e | e)
  · rcases P k (.inl e) with e | e
    · exact h.new k (e.elim .inl (fun e => .inr (.inl e)))
    · omega
  · rcases P k (.inr e) with e | e
    · exact h.new k (e.elim .inl (fun e => .inr (.inl e)))
    · omega
  · exact hh k e
theorem RuI.old {w wr w' : World} {b bx b3 S : Nat} {F G H : Nat → Prop} {L : List Int} (h : RuI w wr b bx b3 S F G H L) (hb : Below wr.heap.size wr w') : RuI w w' b bx b3 S F G H L :=
  ⟨h.r.old hb, h.x.old hb, h.z.old hb, h.dj, h.dz, h.bel.trans (hb.mono h.bel.size), h.new⟩
theorem RuI.ne {w wr : World} {b bx b3 S : Nat} {F G H : Nat → Prop} {L : List Int} (h : RuI w wr b bx b3 S F G H L) : b ≠ b3 := fun e => h.dz b (.inl h.r.has) (e ▸ h.z.has)
end Go.Proofs.Ythebboppbebffaa
