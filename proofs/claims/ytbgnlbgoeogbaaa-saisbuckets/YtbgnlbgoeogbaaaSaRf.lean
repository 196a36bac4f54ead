
import Derived.Test.YtbgnlbgoeogbaaaSaL1
namespace Go.Proofs.Ytbgnlbgoeogbaaa
open Go.RowKit
set_option linter.unusedVariables false

/-! SaisRefuses. -/
set_option maxRecDepth 100000 in
set_option maxHeartbeats 2000000 in
theorem pbkn12 (k : Int) (a : Option Addr) (s : List Int) (n cap : Nat) (w : World) (hs : SegZ w a s) (hn : Hid (s.length = n)) (hb : n ≤ 9223372036854775807) (hk : -9223372036854775808 ≤ k ∧ k ≤ 9223372036854775807) (hr : ¬ ref12 k s = 0) :
    Calls Try.prog 11 #[.int .i64 k, .slice a n cap] w fun e w' => e = .returned (.tuple #[.slice none 0 0, .slice none 0 0, .int .i64 (ref12 k s)]) ∧ Below w.heap.size w w' := by
  have HR := pref12 k a s n cap w hs hn hb hk
  have bd := ref12_bd k s
  generalize ref12 k s = v at *
  go_enter Try.func11, Try.ntmps11
  go_wp2_with (first
    | (go_at_call 33; refine HR.mono ?_; rintro e1 w1 ⟨rfl, B1⟩))
  refine bodyPost_ret (results_tmp3 rfl _ _ _) rfl ?_
  exact ⟨rfl, B1⟩
set_option maxRecDepth 100000 in
set_option maxHeartbeats 2000000 in
theorem pidn12 (k : Int) (a oa : Option Addr) (s : List Int) (n cap m oc : Nat) (w : World) (hs : SegZ w a s) (hn : Hid (s.length = n)) (hb : n ≤ 9223372036854775807) (hk : -9223372036854775808 ≤ k ∧ k ≤ 9223372036854775807) (hr : ¬ ref12 k s = 0) :
    Calls Try.prog 17 #[.int .i64 k, .slice a n cap, .slice oa m oc] w fun e w' => e = .returned (.tuple #[.slice none 0 0, .int .i64 (ref12 k s)]) ∧ Below w.heap.size w w' := by
  have HR := pref12 k a s n cap w hs hn hb hk
  have bd := ref12_bd k s
  generalize ref12 k s = v at *
  go_enter Try.func17, Try.ntmps17
  go_wp2_with (first
    | (go_at_call 33; refine HR.mono ?_; rintro e1 w1 ⟨rfl, B1⟩))
  refine bodyPost_ret (results_tmp2 rfl _ _ _) rfl ?_
  exact ⟨rfl, B1⟩
theorem mayL12 {k : Int} {s : List Int} {n : Nat} (hn : s.length = n) : (decide (ref12 k s = 0)) = true ↔ ¬ (k < 0 ∨ 33554432 < k) ∧ n ≤ 16777216 ∧ vals12 k s = true := by
  rw [decide_eq_true_eq]
  unfold ref12 rv12
  rw [hn]
  constructor
  · intro h
    split at h
    · omega
    · split at h
      · omega
      · split at h
        · rename_i h1 h2 h3; exact ⟨h1, by omega, h3⟩
        · omega
  · rintro ⟨h1, h2, h3⟩
    rw [if_neg h1, if_neg (by omega), if_pos h3]
end Go.Proofs.Ytbgnlbgoeogbaaa
