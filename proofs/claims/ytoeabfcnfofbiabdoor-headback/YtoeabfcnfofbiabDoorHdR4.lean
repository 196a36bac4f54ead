
import Derived.Test.YtoeabfcnfofbiabDoorHdR3
namespace Go.Proofs.YtoeabfcnfofbiabDoor
open Go.RowKit
set_option linter.unusedVariables false

/-! The document's Runs: the walk. -/
def RsQ (w : World) (ty : TypeId) (R : List Rn8) (er : Int) (e : Ending) (w' : World) : Prop := ∃ oa oc, e = .returned (.tuple #[.slice oa R.length oc, .int .i64 er]) ∧ w'.ownsRow w.heap.size ty 2 (.slice oa R.length oc) R.length (flatN R) ∧ Below w.heap.size w w'
/-- How far Runs has come. -/
def RnI (zs : List Int) (w wr : World) (ty : TypeId) (to ti : Value) : Prop := ∃ (i m oc : Nat) (oa : Option Addr) (R : List Rn8), i ≤ zs.length ∧ m ≤ i ∧ ti = .int .i64 (i : Int) ∧ to = .slice oa m oc ∧ R.length = m ∧ runs8 zs = R ++ rung8 (zs.length - i) (zs.drop i) ∧ wr.ownsRow w.heap.size ty 2 (.slice oa m oc) m (flatN R) ∧ Below w.heap.size w wr
theorem Kp.cellN {S : Nat → Prop} {a b : World} {k o : Nat} {v : Value} (h : Kp S a b) (hc : a.cell? ⟨k, o, none⟩ = some v) (hn : ¬ S k) : b.cell? ⟨k, o, none⟩ = some v := by
  have hl := World.block_lt_of_cell? a _ hc
  have := h.block k hl hn
  simp only [World.cell?] at hc ⊢
  rw [this]
  exact hc
theorem SegN.kp {S : Nat → Prop} {a b : World} {la : Option Addr} {L : List Rn8} (h : SegN a la L) (hk : Kp S a b) (hn : ∀ g o, la = some ⟨g, o, none⟩ → ¬ S g) : SegN b la L :=
  ⟨fun i hi => by
    obtain ⟨g, o, e, c1, c2⟩ := h.at_ i hi
    exact ⟨g, o, e, hk.cellN c1 (hn _ _ e), hk.cellN c2 (hn _ _ e)⟩⟩
theorem own_apartN {w w1 : World} {base n m oc c : Nat} {e e' : TypeId} {oa la : Option Addr} {xs ys : List Value} (h : w.ownsRow base e 2 (.slice oa m oc) m xs) (l : w1.ownsRow w.heap.size e' 2 (.slice la n c) n ys) : ∀ g o, la = some ⟨g, o, none⟩ → (Value.slice oa m oc).ownBlock ≠ some g := by
  intro g o ea hg
  have h1 := (h.lt g hg).2
  rcases l.2 with ⟨h0, _⟩ | ⟨g', cp, cur, hv, hb, _⟩
  · rw [ea] at h0
    simp at h0
  · rw [ea] at hv
    simp only [Value.slice.injEq, Option.some.injEq, Addr.mk.injEq] at hv
    omega
/-- How far Runs has come within a row. -/
def RnX (L R : List Rn8) (w wq : World) (ty : TypeId) (la : Option Addr) (N p m : Nat) (to ti tx : Value) : Prop := ∃ (x p' m' oc : Nat) (oa : Option Addr), x ≤ N ∧ tx = .int .i64 (x : Int) ∧ ti = .int .i64 (p' : Int) ∧ to = .slice oa m' oc ∧ m' = m + x ∧ p' = p + sum8 (L.take x) ∧ wq.ownsRow w.heap.size ty 2 (.slice oa m' oc) m' (flatN (R ++ L.take x)) ∧ Below w.heap.size w wq ∧ SegN wq la L ∧ ∀ g o, la = some ⟨g, o, none⟩ → (Value.slice oa m' oc).ownBlock ≠ some g
end Go.Proofs.YtoeabfcnfofbiabDoor
