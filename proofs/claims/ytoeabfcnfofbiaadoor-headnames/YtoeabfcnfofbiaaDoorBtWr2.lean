
import Derived.Test.YtoeabfcnfofbiaaDoorBtWr
namespace Go.Proofs.YtoeabfcnfofbiaaDoor
open Go.RowKit
set_option linter.unusedVariables false

set_option maxRecDepth 100000 in
theorem turned_no (b : Nat) (x : Nat) (n : Int) (w : World) (hx : x < 18446744073709551616) (hn0 : -9223372036854775808 ≤ n) (hn1 : n ≤ 9223372036854775807) (he : errW x n ≠ 0) :
    Calls Tryd.prog 73 #[.pointer (some ⟨b, 0, none⟩), .int .u64 (x : Int), .int .i64 n] w fun e w' => e = .returned (.int .i64 (errW x n)) ∧ w' = w := by
  rcases errW_cases x n with ⟨h1, h2⟩ | ⟨k, rfl, hk, ⟨h1, h2⟩ | ⟨h1, h2⟩⟩
  · have D := refuse_count x n w h2
    rw [h1]
    go_enter Tryd.func73, Tryd.ntmps73
    go_wp2_with fail
    refine D.mono ?_
    rintro e w1 ⟨rfl, hw1⟩
    subst w1
    go_wp2
    go_ret
    exact ⟨rfl, rfl⟩
  · exact absurd h1 he
  · have D := refuse_value x k w h2 hk hx
    rw [h1]
    clear h2
    go_enter Tryd.func73, Tryd.ntmps73
    go_wp2_with fail
    refine D.mono ?_
    rintro e w1 ⟨rfl, hw1⟩
    subst w1
    go_wp2
    go_ret
    exact ⟨rfl, rfl⟩

theorem turned_any (b B : Nat) (v : Value) (L : List Bool) (x : Nat) (n : Int) (w : World) (h : WrL w b B v L) (hx : x < 18446744073709551616) (hn0 : -9223372036854775808 ≤ n) (hn1 : n ≤ 9223372036854775807) (hl : L.length ≤ 1125899906842560) :
    Calls Tryd.prog 73 #[.pointer (some ⟨b, 0, none⟩), .int .u64 (x : Int), .int .i64 n] w fun e w' => e = .returned (.int .i64 (errW x n)) ∧ ∃ v', WrL w' b B v' (turnL L x n) ∧ Kp (WS b v) w w' ∧ Fresh w v v' := by
  by_cases he : errW x n = 0
  · rcases errW_cases x n with ⟨h1, h2⟩ | ⟨k, rfl, hk, ⟨h1, h2⟩ | ⟨h1, h2⟩⟩
    · omega
    · refine (turned_ok b B v L x k w h h2 hk hl).mono ?_
      rintro e w' ⟨rfl, v', h1', h2', h3'⟩
      unfold turnL
      rw [he, if_pos rfl]
      exact ⟨rfl, v', by simpa using h1', h2', h3'⟩
    · omega
  · refine (turned_no b x n w hx hn0 hn1 he).mono ?_
    rintro e w' ⟨rfl, rfl⟩
    unfold turnL
    rw [if_neg he]
    exact ⟨rfl, v, h, Kp.refl _ _, fun k e => .inl e⟩

theorem padN_add (n : Nat) : (n + padN n) % 8 = 0 := by unfold padN; omega
theorem alignL_len (L : List Bool) : (alignL L).length = L.length + padN L.length := by simp [alignL]

end Go.Proofs.YtoeabfcnfofbiaaDoor
