import Derived.Below
namespace Go.Proofs.YtmfpdchfofffeaaGreatDoor
set_option linter.unusedVariables false
structure Tok7 where
  lit : Int
  len : Int
  dist : Int
def may7 (t : Tok7) : Prop := if t.len = 0 then t.dist = 0 else 3 ≤ t.len ∧ t.len ≤ 258 ∧ 1 ≤ t.dist ∧ t.dist ≤ 32768 ∧ t.lit = 0
instance (t : Tok7) : Decidable (may7 t) := by unfold may7; infer_instance
def wid7 (t : Tok7) : Nat := if may7 t then (if t.len = 0 then 1 else t.len.toNat) else 0
def siz7 : List Tok7 → Nat
  | [] => 0
  | t :: r => wid7 t + siz7 r
def far7 (win : Int) (tot : Nat) (t : Tok7) : Prop := 0 < t.len ∧ (win < t.dist ∨ (tot : Int) < t.dist)
instance (win : Int) (tot : Nat) (t : Tok7) : Decidable (far7 win tot t) := by unfold far7; infer_instance
/-- The tokens are in order, where tot bytes stand ahead. -/
def ok7 (win : Int) : List Tok7 → Nat → Prop
  | [], _ => True
  | t :: r, tot => may7 t ∧ ¬ far7 win tot t ∧ ok7 win r (tot + wid7 t)
/-- n bytes, each the one that stands d ahead. -/
def cp7 (b : List Int) (d : Nat) : Nat → List Int
  | 0 => b
  | n + 1 => cp7 b d n ++ [(cp7 b d n).getD ((cp7 b d n).length - d) 0]
def tok7 (b : List Int) (t : Tok7) : List Int := if t.len = 0 then b ++ [t.lit] else cp7 b t.dist.toNat t.len.toNat
def exp7 (b : List Int) : List Tok7 → List Int
  | [] => b
  | t :: r => exp7 (tok7 b t) r
end Go.Proofs.YtmfpdchfofffeaaGreatDoor
