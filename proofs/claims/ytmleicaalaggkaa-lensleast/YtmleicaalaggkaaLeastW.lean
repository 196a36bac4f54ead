import Derived.Test.YtmleicaalaggkaaLnRl
import Derived.Test.YtmleicaalaggkaaLnNum
import Derived.Deep.RegionHeld3
namespace Go.Proofs.Ytmleicaalaggkaa
open Go.RowKit
set_option linter.unusedVariables false

set_option maxHeartbeats 1000000 in
theorem lensLeast_walk (w : World) (a : Option Addr) (xs : List Int) (ca : Nat) (hx : SegZ w a xs) (hc : xs.length ≤ ca) (hn : a = none → ca = 0) (hl : xs.length * 8 ≤ 140737488351232) :
    Calls Try.prog 6 #[.slice a xs.length ca] w fun e w' => e = .returned (.bool true) ∧ Below w.heap.size w w' := by
  have HX : Hid (xs.length ≤ (lentZ xs).length ∧ (lentZ xs).length ≤ 9223372036854775807) := by constructor <;> (simp [lentZ] <;> omega)
  go_enter Try.func6, Try.ntmps6
  go_wp2_with fail
  refine (lend_any a xs ca _ hx hn hl).mono ?_
  rintro e w1 ⟨g1, c1, rfl, o1, hc1, b1⟩
  have s1 := own_segZ o1 (lentZ_bd hx.mem)
  have t1 : SegZ w1 (some ⟨g1, 0, none⟩) xs := s1.left
  have k1 : (xs.length : Int) ≤ (c1 : Int) := by have := HX.out.1; omega
  have HC : Hid (∀ W, Below w1.heap.size w1 W → Calls Try.prog 10 #[.slice (some ⟨g1, 0, none⟩) xs.length c1] W fun e w' => e = .returned (.tuple #[.int .i64 (leastOf xs), .int .i64 (errOf xs)]) ∧ Below w1.heap.size w1 w') := fun W hW =>
    (least_fn (some ⟨g1, 0, none⟩) xs xs.length c1 rfl W (t1.old hW) (by omega)).mono fun e w' ⟨h1, h2⟩ => ⟨h1, hW.trans (h2.mono hW.size)⟩
  have d2 : Below w1.heap.size w1 w1.drew := (Below.refl _ _).drew
  have d3 : Below w1.heap.size w1 w1 := Below.refl _ _
  go_wp2_with fail
  first
    | refine (HC.out _ d3).mono ?_
      rintro e w3 ⟨rfl, b3⟩
    | go_region_held3 (fun _ => True) (trivial) (first | (go_at_call 10; refine (HC.out _ (by assumption)).mono ?_; rintro e w3 ⟨rfl, b3⟩))
  have hx3 : SegZ w3 a xs := hx.old (b1.trans (b3.mono b1.size))
  go_wp2_with fail
  refine (rleast_any a xs xs.length ca rfl _ hx3 (by omega)).mono ?_
  rintro e w4 ⟨rfl, b4⟩
  have B4 : Below w1.heap.size w1 w4 := b3.trans (b4.mono b3.size)
  have BB : Below w.heap.size w w4 := b1.trans (B4.mono b1.size)
  have hx4 : SegZ w4 a xs := hx.old BB
  have u1 : SegZ w4 (some ⟨g1, 0, none⟩) (lentZ xs) := s1.old B4
  clear HC d2 d3 o1 s1 t1 k1 hx3
  generalize leastOf xs = C at *
  generalize errOf xs = E at *
  go_wp2_with fail
  refine (num_any _ _).mono ?_
  rintro e w' ⟨rfl, hw'⟩
  subst w'
  go_wp2_with fail
  refine (lend_any a xs ca _ hx4 hn hl).mono ?_
  rintro e w5 ⟨g5, c5, rfl, o5, _, b5⟩
  have s5 := own_segZ o5 (lentZ_bd hx.mem)
  have u5 := u1.old b5
  go_wp2_with fail
  refine (same_any (some ⟨g1, 0, none⟩) (some ⟨g5, 0, none⟩) (lentZ xs) (lentZ xs) c1 c5 _ u5 s5 HX.out.2 HX.out.2).mono ?_
  rintro e w6 ⟨rfl, b6⟩
  go_wp2
  go_ret
  exact ⟨by simp, BB.trans ((b5.trans (b6.mono b5.size)).mono BB.size)⟩
end Go.Proofs.Ytmleicaalaggkaa
