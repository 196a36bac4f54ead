
import Derived.Test.YtkjccbihdinlkaaCbMath
namespace Go.Proofs.Ytkjccbihdinlkaa
open Go.RowKit
set_option linter.unusedVariables false

/-- Does a list begin with another one? -/
def begB (L M : List Bool) : Bool := decide (M.length ≤ L.length) && (L.take M.length == M)
theorem begB_short {L M : List Bool} (h : L.length < M.length) : begB L M = false := by
  unfold begB
  rw [decide_eq_false (by omega)]
  rfl
theorem begB_iff {L M : List Bool} : begB L M = true ↔ M.length ≤ L.length ∧ L.take M.length = M := by
  unfold begB
  simp
theorem SegB.get {w : World} {a : Option Addr} {L : List Bool} (h : SegB w a L) (i : Nat) (hi : i < L.length) : ∃ b off, a = some ⟨b, off, none⟩ ∧ w.cell? ⟨b, off + i, none⟩ = some (.bool (L.getD i false)) := h.at_ i hi

set_option maxRecDepth 100000 in
set_option maxHeartbeats 1000000 in
theorem begins_any (a b : Option Addr) (L M : List Bool) (nl nm ca cb : Nat) (hnl : Hid (L.length = nl)) (hnm : Hid (M.length = nm)) (w : World) (hx : SegB w a L) (hy : SegB w b M) (hl : nl ≤ 1000) (hm : nm ≤ 1000) :
    Calls Try.prog 54 #[.slice a nl ca, .slice b nm cb] w fun e w' => e = .returned (.bool (begB L M)) ∧ Below w.heap.size w w' := by
  by_cases hlen : nl < nm
  · have hleni : (nl : Int) < (nm : Int) := by omega
    have HF : Hid (begB L M = false) := begB_short (by have := hnl.out; have := hnm.out; omega)
    go_enter Try.func54, Try.ntmps54
    go_wp2_with fail
    go_ret
    exact ⟨by rw [HF.out]; rfl, Below.refl _ _⟩
  · have hleni : ¬ (nl : Int) < (nm : Int) := by omega
    go_enter Try.func54, Try.ntmps54
    go_wp2_with fail
    go_loopw [13] (fun ti wr => ∃ k : Nat, k ≤ nm ∧ ti = .int .i64 k ∧ Hid (L.take k = M.take k) ∧ Below w.heap.size w wr) (fun ti _ => nm - (intOf ti).toNat)
    case atStart => exact ⟨0, Nat.zero_le _, rfl, (by simp : _ = _), Below.refl _ _⟩
    case round =>
      obtain ⟨k, hk, rfl, HE, hb⟩ := hrel
      have hx := hx.old hb
      have hy := hy.old hb
      by_cases h1 : k < nm
      · have h1i : (k : Int) < (nm : Int) := by omega
        have hkL : (k : Int) < (nl : Int) := by omega
        have hkx : k < L.length := by have := hnl.out; omega
        have hky : k < M.length := by have := hnm.out; omega
        obtain ⟨b1, o1, rfl, c1⟩ := hx.at_ k hkx
        obtain ⟨b2, o2, rfl, c2⟩ := hy.at_ k hky
        have HT : Hid (L.take (k + 1) = L.take k ++ [L.getD k false] ∧ M.take (k + 1) = M.take k ++ [M.getD k false]) := ⟨take_succ_b hkx, take_succ_b hky⟩
        have HNE : Hid (L.getD k false ≠ M.getD k false → begB L M = false) := by
          intro hne
          rw [Bool.eq_false_iff]
          intro h
          have h2 := (begB_iff.1 h).2
          have h3 : (L.take M.length).getD k false = M.getD k false := by rw [h2]
          rw [List.getD_eq_getElem?_getD, List.getElem?_take_of_lt hky, ← List.getD_eq_getElem?_getD] at h3
          exact hne h3
        clear hkx hky
        generalize L.getD k false = z1 at *
        generalize M.getD k false = z2 at *
        by_cases hz : z1 = z2
        · subst hz
          go_wp2
          go_region
          go_wp2
          go_roundw
          case rel => exact ⟨k + 1, by omega, by go_num, (by rw [HT.out.1, HT.out.2, HE.out] : _ = _), hb.drew⟩
          case measure => simp [intOf]; omega
        · have hzb : (z1 == z2) = false := by cases z1 <;> cases z2 <;> simp_all
          have hne2 : begB L M = false := HNE.out hz
          have HNE2 : Hid (begB L M = false) := hne2
          clear hne2 hz HNE
          go_wp2
          go_region
          go_wp2
          go_ret
          exact ⟨by rw [HNE2.out]; rfl, hb.drew⟩
      · obtain rfl : k = nm := by omega
        go_wp2
        go_ret
        have e : begB L M = true := begB_iff.2 ⟨by have := hnl.out; have := hnm.out; omega, by
          rw [hnm.out]
          have := HE.out
          rw [List.take_of_length_le (l := M) (by have := hnm.out; omega)] at this
          exact this⟩
        exact ⟨by rw [e]; rfl, hb⟩
end Go.Proofs.Ytkjccbihdinlkaa
