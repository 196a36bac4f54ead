
import Derived.Test.YtjoghmdjnkdokaaDoorPgE
namespace Go.Proofs.YtjoghmdjnkdokaaDoor
open Go.RowKit Go.Shelf
set_option linter.unusedVariables false
set_option linter.unusedSimpArgs false

/-! The landed page: Write, End. -/
def enE22 (S : Fs21) (P : Pw22) : Int := if 0 < P.bf.length then lyE22 S P else 0
def enS22 (S : Fs21) (P : Pw22) : Fs21 := if 0 < P.bf.length then lyS22 S P else S
def enP22 (S : Fs21) (P : Pw22) : Pw22 := if 0 < P.bf.length then (if lyE22 S P ≠ 0 then lyP22 S P else { lyP22 S P with cl := 221 }) else { P with cl := 221 }
def edE22 (S : Fs21) (P : Pw22) : Int := if P.cl ≠ 0 then P.cl else enE22 S P
def edS22 (S : Fs21) (P : Pw22) : Fs21 := if P.cl ≠ 0 then S else enS22 S P
def edP22 (S : Fs21) (P : Pw22) : Pw22 := if P.cl ≠ 0 then P else enP22 S P
def fu22 (S : Fs21) (P : Pw22) (n : Nat) : Prop := (mx22 S : Int) - (P.wn : Int) < (n : Int)
instance (S : Fs21) (P : Pw22) (n : Nat) : Decidable (fu22 S P n) := inferInstanceAs (Decidable ((mx22 S : Int) - (P.wn : Int) < (n : Int)))
def wrE22 (S : Fs21) (P : Pw22) (L : List Int) : Int := if P.cl ≠ 0 then P.cl else if fu22 S P L.length then 220 else tkE22 S P L
def wrS22 (S : Fs21) (P : Pw22) (L : List Int) : Fs21 := if P.cl ≠ 0 then S else if fu22 S P L.length then S else tkS22 S P L
def wrP22 (S : Fs21) (P : Pw22) (L : List Int) : Pw22 := if P.cl ≠ 0 then P else if fu22 S P L.length then P else tkP22 S P L
section
variable {w w' : World} {v s g b : Nat} {F : Nat → Prop} {S : Fs21} {P : Pw22}
end
end Go.Proofs.YtjoghmdjnkdokaaDoor
