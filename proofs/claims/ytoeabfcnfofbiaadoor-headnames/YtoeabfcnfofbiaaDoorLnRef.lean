
import Derived.Test.YtoeabfcnfofbiaaDoorLnSame
namespace Go.Proofs.YtoeabfcnfofbiaaDoor
open Go.RowKit
set_option linter.unusedVariables false

/-- A count that may be. -/
def okF (z : Int) : Bool := decide (0 ≤ z ∧ z ≤ 1099511627776)
/-- The error that counts have. -/
def errOf (zs : List Int) : Int := if 288 < zs.length then 40 else if zs.all okF then 0 else 42
theorem errOf_many {zs : List Int} (h : 288 < zs.length) : errOf zs = 40 := by simp [errOf, h]
theorem errOf_bad {zs : List Int} (h : ¬ 288 < zs.length) {k : Nat} (hk : k < zs.length) (hb : ¬ (0 ≤ zs.getD k 0 ∧ zs.getD k 0 ≤ 1099511627776)) : errOf zs = 42 := by
  have : zs.all okF = false := by
    rw [List.all_eq_false]
    refine ⟨zs.getD k 0, ?_, by simp only [okF, hb]; decide⟩
    simp [List.getD, hk]
  simp [errOf, h, this]
theorem all_snoc {zs : List Int} {k : Nat} (hk : k < zs.length) (h : (zs.take k).all okF = true) (hb : 0 ≤ zs.getD k 0 ∧ zs.getD k 0 ≤ 1099511627776) : (zs.take (k + 1)).all okF = true := by
  rw [take_snocZ hk, List.all_append, h]
  simp only [List.all_cons, List.all_nil, okF, hb]
  simp
theorem errOf_ok {zs : List Int} (h : ¬ 288 < zs.length) (ha : (zs.take zs.length).all okF = true) : errOf zs = 0 := by
  rw [List.take_of_length_le (Nat.le_refl _)] at ha
  simp [errOf, h, ha]
theorem errOf_zero {zs : List Int} (h : errOf zs = 0) : zs.length ≤ 288 ∧ ∀ i, 0 ≤ zs.getD i 0 ∧ zs.getD i 0 ≤ 1099511627776 := by
  unfold errOf at h
  split at h
  · omega
  · rename_i h1
    split at h
    · rename_i h2
      refine ⟨by omega, fun i => ?_⟩
      by_cases hi : i < zs.length
      · have := List.all_eq_true.1 h2 zs[i] (List.getElem_mem hi)
        simpa [okF, List.getD, hi] using this
      · simp [List.getD, List.getElem?_eq_none (Nat.le_of_not_lt hi)]
    · omega
theorem errOf_range (zs : List Int) : errOf zs = 0 ∨ errOf zs = 40 ∨ errOf zs = 42 := by
  unfold errOf
  split
  · exact .inr (.inl rfl)
  · split
    · exact .inl rfl
    · exact .inr (.inr rfl)

set_option maxRecDepth 100000 in
theorem refusal_any (a : Option Addr) (zs : List Int) (cap : Nat) (w : World) (hs : SegZ w a zs) (hl : zs.length ≤ 9223372036854775807) :
    Calls Tryd.prog 88 #[.slice a zs.length cap] w fun e w' => e = .returned (.int .i64 (errOf zs)) ∧ w' = w := by
  by_cases hm : 288 < zs.length
  · have hmi : (288 : Int) < (zs.length : Int) := by omega
    have HE : Hid (errOf zs = 40) := errOf_many hm
    go_enter Tryd.func88, Tryd.ntmps88
    go_wp2
    go_ret
    exact ⟨by rw [HE.out] <;> rfl, rfl⟩
  · have hmi : ¬ (288 : Int) < (zs.length : Int) := by omega
    go_enter Tryd.func88, Tryd.ntmps88
    go_wp2
    go_loopw [10] (fun ti wr => ∃ k : Nat, k ≤ zs.length ∧ ti = .int .i64 k ∧ Hid ((zs.take k).all okF = true) ∧ wr = w) (fun ti _ => zs.length - (intOf ti).toNat)
    case atStart => exact ⟨0, Nat.zero_le _, rfl, (by simp : _ = _), rfl⟩
    case round =>
      obtain ⟨k, hk, rfl, HA, rfl⟩ := hrel
      by_cases h1 : k < zs.length
      · have h1i : (k : Int) < (zs.length : Int) := by omega
        obtain ⟨b1, o1, rfl, c1⟩ := hs.at_ k h1
        have b1 := hs.bd k
        have HB : Hid (¬ (0 ≤ zs.getD k 0 ∧ zs.getD k 0 ≤ 1099511627776) → errOf zs = 42) := errOf_bad hm h1
        have HC : Hid ((0 ≤ zs.getD k 0 ∧ zs.getD k 0 ≤ 1099511627776) → (zs.take (k + 1)).all okF = true) := all_snoc h1 HA.out
        generalize zs.getD k 0 = z at *
        by_cases h0 : z < 0
        · go_wp2
          go_ret
          exact ⟨by rw [HB.out (by omega)] <;> rfl, rfl⟩
        · by_cases h4 : 1099511627776 < z
          · go_wp2
            go_ret
            exact ⟨by rw [HB.out (by omega)] <;> rfl, rfl⟩
          · go_wp2
            go_roundw
            case rel => exact ⟨k + 1, by omega, by go_num, HC.out (by omega), trivial⟩
            case measure => simp [intOf]; omega
      · obtain rfl : k = zs.length := by omega
        have HE : Hid (errOf zs = 0) := errOf_ok hm HA.out
        clear h1
        go_wp2
        go_ret
        exact ⟨by rw [HE.out] <;> rfl, rfl⟩
end Go.Proofs.YtoeabfcnfofbiaaDoor
