import Derived.Test.YtmleicaalaggkaaLnCost
import Derived.Test.YtmleicaalaggkaaLnLend
import Derived.Deep.RegionHeld3
namespace Go.Proofs.Ytmleicaalaggkaa
open Go.RowKit
set_option linter.unusedVariables false

theorem num_any (e : Int) (w : World) : Calls Try.prog 11 #[.int .i64 e] w fun r w' => r = .returned (.int .i64 e) ∧ w' = w := by
  go_enter Try.func11, Try.ntmps11
  go_wp2
  go_ret
  exact ⟨rfl, rfl⟩

set_option maxHeartbeats 1000000 in
theorem lensCosts_walk (w : World) (a : Option Addr) (xs : List Int) (ca : Nat) (hx : SegZ w a xs) (hc : xs.length ≤ ca) (hn : a = none → ca = 0) (hl : xs.length * 8 ≤ 140737488351232)
    (b : Option Addr) (ys : List Int) (cb : Nat) (hy : SegZ w b ys) (hc2 : ys.length ≤ cb) (hn2 : b = none → cb = 0) (hl2 : ys.length * 8 ≤ 140737488351232) :
    Calls Try.prog 5 #[.slice a xs.length ca, .slice b ys.length cb] w fun e w' => e = .returned (.bool true) ∧ Below w.heap.size w w' := by
  have HX : Hid (xs.length ≤ (lentZ xs).length ∧ (lentZ xs).length ≤ 9223372036854775807) := by constructor <;> (simp [lentZ] <;> omega)
  have HY : Hid (ys.length ≤ (lentZ ys).length ∧ (lentZ ys).length ≤ 9223372036854775807) := by constructor <;> (simp [lentZ] <;> omega)
  go_enter Try.func5, Try.ntmps5
  go_wp2_with fail
  refine (lend_any a xs ca _ hx hn hl).mono ?_
  rintro e w1 ⟨g1, c1, rfl, o1, hc1, b1⟩
  have hy1 := hy.old b1
  go_wp2_with fail
  refine (lend_any b ys cb _ hy1 hn2 hl2).mono ?_
  rintro e w2 ⟨g2, c2, rfl, o2, hc2', b2⟩
  have B2 : Below w.heap.size w w2 := b1.trans (b2.mono b1.size)
  have s1 := (own_segZ o1 (lentZ_bd hx.mem)).old b2
  have s2 := own_segZ o2 (lentZ_bd hy.mem)
  have t1 : SegZ w2 (some ⟨g1, 0, none⟩) xs := s1.left
  have t2 : SegZ w2 (some ⟨g2, 0, none⟩) ys := s2.left
  have k1 : (xs.length : Int) ≤ (c1 : Int) := by have := HX.out.1; omega
  have k2 : (ys.length : Int) ≤ (c2 : Int) := by have := HY.out.1; omega
  have HC : Hid (∀ W, Below w2.heap.size w2 W → Calls Try.prog 16 #[.slice (some ⟨g1, 0, none⟩) xs.length c1, .slice (some ⟨g2, 0, none⟩) ys.length c2] W fun e w' => e = .returned (.tuple #[.int .i64 (costOf xs ys), .int .i64 (errC xs ys)]) ∧ Below w2.heap.size w2 w') := fun W hW =>
    (cost_any (some ⟨g1, 0, none⟩) (some ⟨g2, 0, none⟩) xs ys c1 c2 W (t1.old hW) (t2.old hW) (by omega) (by omega)).mono fun e w' ⟨h1, h2⟩ => ⟨h1, hW.trans (h2.mono hW.size)⟩
  have d2 : Below w2.heap.size w2 w2.drew := (Below.refl _ _).drew
  go_wp2_with fail
  go_region_held3 (fun _ => True) (trivial) (first | (go_at_call 16; refine (HC.out _ (by assumption)).mono ?_; rintro e w3 ⟨rfl, b3⟩))
  have hx3 : SegZ w3 a xs := hx.old (B2.trans (b3.mono B2.size))
  have hy3 : SegZ w3 b ys := hy.old (B2.trans (b3.mono B2.size))
  go_wp2_with fail
  refine (rcost_any a b xs ys ca cb _ hx3 hy3 (by omega) (by omega)).mono ?_
  rintro e w4 ⟨rfl, b4⟩
  have B4 : Below w2.heap.size w2 w4 := b3.trans (b4.mono b3.size)
  have BB : Below w.heap.size w w4 := B2.trans (B4.mono B2.size)
  have hx4 : SegZ w4 a xs := hx.old BB
  have hy4 : SegZ w4 b ys := hy.old BB
  have u1 : SegZ w4 (some ⟨g1, 0, none⟩) (lentZ xs) := s1.old B4
  have u2 : SegZ w4 (some ⟨g2, 0, none⟩) (lentZ ys) := s2.old B4
  have HL1 : Hid (∀ W, Below w4.heap.size w4 W → Calls Try.prog 15 #[.slice a xs.length ca] W fun e w' => ∃ g c, e = .returned (.slice (some ⟨g, 0, none⟩) (lentZ xs).length c) ∧ SegZ w' (some ⟨g, 0, none⟩) (lentZ xs) ∧ Below w4.heap.size w4 w') := fun W hW =>
    (lend_any a xs ca W (hx4.old hW) hn hl).mono fun e w' ⟨g, c, h1, h2, _, h3⟩ => ⟨g, c, h1, own_segZ h2 (lentZ_bd hx.mem), hW.trans (h3.mono hW.size)⟩
  have HL2 : Hid (∀ W, Below w4.heap.size w4 W → Calls Try.prog 15 #[.slice b ys.length cb] W fun e w' => ∃ g c, e = .returned (.slice (some ⟨g, 0, none⟩) (lentZ ys).length c) ∧ SegZ w' (some ⟨g, 0, none⟩) (lentZ ys) ∧ Below w4.heap.size w4 w') := fun W hW =>
    (lend_any b ys cb W (hy4.old hW) hn2 hl2).mono fun e w' ⟨g, c, h1, h2, _, h3⟩ => ⟨g, c, h1, own_segZ h2 (lentZ_bd hy.mem), hW.trans (h3.mono hW.size)⟩
  have HS1 : Hid (∀ W g c, Below w4.heap.size w4 W → SegZ W (some ⟨g, 0, none⟩) (lentZ xs) → Calls Try.prog 13 #[.slice (some ⟨g1, 0, none⟩) (lentZ xs).length c1, .slice (some ⟨g, 0, none⟩) (lentZ xs).length c] W fun e w' => e = .returned (.bool true) ∧ Below w4.heap.size w4 w') := fun W g c hW hS =>
    (same_any (some ⟨g1, 0, none⟩) (some ⟨g, 0, none⟩) (lentZ xs) (lentZ xs) c1 c W (u1.old hW) hS HX.out.2 HX.out.2).mono fun e w' ⟨h1, h2⟩ => ⟨by rw [h1]; simp, hW.trans (h2.mono hW.size)⟩
  have HS2 : Hid (∀ W g c, Below w4.heap.size w4 W → SegZ W (some ⟨g, 0, none⟩) (lentZ ys) → Calls Try.prog 13 #[.slice (some ⟨g2, 0, none⟩) (lentZ ys).length c2, .slice (some ⟨g, 0, none⟩) (lentZ ys).length c] W fun e w' => e = .returned (.bool true) ∧ Below w4.heap.size w4 w') := fun W g c hW hS =>
    (same_any (some ⟨g2, 0, none⟩) (some ⟨g, 0, none⟩) (lentZ ys) (lentZ ys) c2 c W (u2.old hW) hS HY.out.2 HY.out.2).mono fun e w' ⟨h1, h2⟩ => ⟨by rw [h1]; simp, hW.trans (h2.mono hW.size)⟩
  have d4 : Below w4.heap.size w4 w4.drew := (Below.refl _ _).drew
  have d5 : Below w4.heap.size w4 w4 := Below.refl _ _
  clear HC d2 o1 o2 s1 s2 t1 t2 k1 k2 hx3 hy3 hx4 hy4 u1 u2 hy1
  generalize costOf xs ys = C at *
  generalize errC xs ys = E at *
  go_wp2_with fail
  refine (num_any _ _).mono ?_
  rintro e w' ⟨rfl, hw'⟩
  subst w'
  go_wp2_with fail
  refine (HL1.out _ d5).mono ?_
  rintro e w5 ⟨g5, c5, rfl, s5, b5⟩
  go_wp2_with fail
  refine (HS1.out _ _ _ b5 s5).mono ?_
  rintro e w6 ⟨rfl, b6⟩
  go_wp2_with fail
  refine (HL2.out _ b6).mono ?_
  rintro e w7 ⟨g7, c7, rfl, s7, b7⟩
  go_wp2_with fail
  refine (HS2.out _ _ _ b7 s7).mono ?_
  rintro e w8 ⟨rfl, b8⟩
  go_wp2
  go_ret
  exact ⟨rfl, BB.trans (b8.mono BB.size)⟩
end Go.Proofs.Ytmleicaalaggkaa
