
import Derived.Test.YteboaolflecibaaDoorOwn
import Derived.Test.YteboaolflecibaaDoorOwnSeg
namespace Go.Proofs.YteboaolflecibaaDoor
open Go.RowKit
set_option linter.unusedVariables false

def two {α : Type} (x y : α) : Nat → α := fun i => if i = 0 then x else y
def three {α : Type} (x y z : α) : Nat → α := fun i => if i = 0 then x else if i = 1 then y else z

theorem row_below {eT : TypeId} {w w' : World} {base : Nat} {v : Value} {ys : List Int} (h : Row eT w base v ys) (hb : Below w.heap.size w w') : Row eT w' base v ys := own_below h hb
theorem row_base {eT : TypeId} {w : World} {base base' : Nat} {v : Value} {ys : List Int} (h : Row eT w base v ys) (hb : base' ≤ base) : Row eT w base' v ys := own_base h hb
theorem row_seg {eT : TypeId} {w : World} {base : Nat} {a : Option Addr} {n cap : Nat} {ys : List Int} (h : Row eT w base (.slice a n cap) ys) (hb : ∀ z ∈ ys, 0 ≤ z ∧ z ≤ 255) : Seg w a ys ∧ ys.length ≤ cap ∧ (a = none → cap = 0) := by
  obtain ⟨_, a', c', hv, hs, hx, hc, _⟩ := own_seg h (M := 255) (by decide) hb
  cases hv
  refine ⟨hs, hc, fun e => ?_⟩
  subst e
  rcases h.2 with ⟨h0, _⟩ | ⟨g, cp, cur, h0, _⟩
  · simp at h0; exact h0.2
  · simp at h0
theorem ap_of {eT : TypeId} {w : World} {base base' m : Nat} {v u : Value} {xs ys : List Int} {w0 : World} (h : Row eT w0 base v xs) (h0 : w0.heap.size ≤ m) (k : Row eT w base' u ys) (hm : m ≤ base') : Ap v.ownBlock u.ownBlock := by
  intro j h1 h2
  have := (h.lt j h1).2
  have := (k.lt j h2).1
  omega

/-- 'Own' of two lists that lie apart. -/
theorem own_two (base : Nat) (x z : Value) (xs zs : List Int) (w : World) (hx : Row 5 w base x xs) (hz : Row 5 w base z zs) (hap : Ap x.ownBlock z.ownBlock) (lx : xs.length ≤ 70368744177664) (lz : zs.length ≤ 70368744177664) (hb : base ≤ w.heap.size) :
    Calls Tryd.prog 16 #[.slice (some ⟨w.heap.size, 0, none⟩) 2 2] (w.alloc (.cells #[x, z] 28)) fun e w' => e = .returned (.bool true) ∧ Below base w w' := by
  have hb0 : Below base w (w.alloc (.cells #[x, z] 28)) := (Below.refl _ _).alloc hb _
  have hbs : Below w.heap.size w (w.alloc (.cells #[x, z] 28)) := (Below.refl _ _).alloc (Nat.le_refl _) _
  refine (own_any base w.heap.size 2 2 (two x z) (two xs zs) (w.alloc (.cells #[x, z] 28)) (by decide) (by decide) ?_ ?_ ?_ ?_ ?_ (by simp; omega)).mono ?_
  · intro i hi
    match i, hi with
    | 0, _ => exact row_below hx hbs
    | 1, _ => exact row_below hz hbs
  · intro i j hi hj hne
    match i, j, hi, hj with
    | 0, 0, _, _ => exact absurd rfl hne
    | 0, 1, _, _ => exact hap
    | 1, 0, _, _ => exact hap.symm
    | 1, 1, _, _ => exact absurd rfl hne
  · refine ⟨#[x, z], heap_alloc_new w _, rfl, fun i hi => ?_⟩
    match i, hi with
    | 0, _ => rfl
    | 1, _ => rfl
  · intro i k hi hk
    match i, hi with
    | 0, _ => have := (hx.lt k hk).2; omega
    | 1, _ => have := (hz.lt k hk).2; omega
  · intro i hi
    match i, hi with
    | 0, _ => exact lx
    | 1, _ => exact lz
  · rintro e w' ⟨rfl, hb1⟩
    exact ⟨rfl, hb0.trans hb1⟩

/-- 'Own' of three lists that lie apart. -/
theorem own_three (base : Nat) (x y z : Value) (xs ys zs : List Int) (w : World) (hx : Row 5 w base x xs) (hy : Row 5 w base y ys) (hz : Row 5 w base z zs) (hxy : Ap x.ownBlock y.ownBlock) (hxz : Ap x.ownBlock z.ownBlock) (hyz : Ap y.ownBlock z.ownBlock)
    (lx : xs.length ≤ 70368744177664) (ly : ys.length ≤ 70368744177664) (lz : zs.length ≤ 70368744177664) (hb : base ≤ w.heap.size) :
    Calls Tryd.prog 16 #[.slice (some ⟨w.heap.size, 0, none⟩) 3 3] (w.alloc (.cells #[x, y, z] 28)) fun e w' => e = .returned (.bool true) ∧ Below base w w' := by
  have hb0 : Below base w (w.alloc (.cells #[x, y, z] 28)) := (Below.refl _ _).alloc hb _
  have hbs : Below w.heap.size w (w.alloc (.cells #[x, y, z] 28)) := (Below.refl _ _).alloc (Nat.le_refl _) _
  refine (own_any base w.heap.size 3 3 (three x y z) (three xs ys zs) (w.alloc (.cells #[x, y, z] 28)) (by decide) (by decide) ?_ ?_ ?_ ?_ ?_ (by simp; omega)).mono ?_
  · intro i hi
    match i, hi with
    | 0, _ => exact row_below hx hbs
    | 1, _ => exact row_below hy hbs
    | 2, _ => exact row_below hz hbs
  · intro i j hi hj hne
    match i, j, hi, hj with
    | 0, 0, _, _ => exact absurd rfl hne
    | 0, 1, _, _ => exact hxy
    | 0, 2, _, _ => exact hxz
    | 1, 0, _, _ => exact hxy.symm
    | 1, 1, _, _ => exact absurd rfl hne
    | 1, 2, _, _ => exact hyz
    | 2, 0, _, _ => exact hxz.symm
    | 2, 1, _, _ => exact hyz.symm
    | 2, 2, _, _ => exact absurd rfl hne
  · refine ⟨#[x, y, z], heap_alloc_new w _, rfl, fun i hi => ?_⟩
    match i, hi with
    | 0, _ => rfl
    | 1, _ => rfl
    | 2, _ => rfl
  · intro i k hi hk
    match i, hi with
    | 0, _ => have := (hx.lt k hk).2; omega
    | 1, _ => have := (hy.lt k hk).2; omega
    | 2, _ => have := (hz.lt k hk).2; omega
  · intro i hi
    match i, hi with
    | 0, _ => exact lx
    | 1, _ => exact ly
    | 2, _ => exact lz
  · rintro e w' ⟨rfl, hb1⟩
    exact ⟨rfl, hb0.trans hb1⟩
end Go.Proofs.YteboaolflecibaaDoor
