import Derived.Test.YtboangeopbblnaaPk
import Derived.Test.YtboangeopbblnaaPp
import Derived.WalkKit
import Derived.WalkSpells
import Derived.Test.YtboangeopbblnaaPb
import Derived.Laws.AppendOwnNone
namespace Go.Proofs.Ytboangeopbblnaa
open Go.RowKit
set_option linter.unusedVariables false
/-- What the document's two numbers mean at length n, symbol s. -/
def NL (zs : List Int) (n s nx la : Nat) : Prop := (la = 0 → nx = 0 ∧ cF zs n + cC (zs.take s) n = 0) ∧ (0 < la → la ≤ n ∧ (nx + 1) * 2 ^ (n - la) = cF zs n + cC (zs.take s) n)
theorem NL.next {zs : List Int} {n nx la : Nat} (h : NL zs n zs.length nx la) : NL zs (n + 1) 0 nx la := by
  have e0 : cC (zs.take 0) (n + 1) = 0 := by rw [List.take_zero]; unfold cC; split <;> simp
  have e1 : zs.take zs.length = zs := List.take_length
  unfold NL at h ⊢
  rw [e1] at h
  rw [e0, cF_succ]
  refine ⟨fun hl => ⟨(h.1 hl).1, by have := (h.1 hl).2; omega⟩, fun hl => ⟨by have := (h.2 hl).1; omega, ?_⟩⟩
  have h2 := h.2 hl
  rw [show n + 1 - la = (n - la) + 1 by omega, Nat.pow_succ, ← Nat.mul_assoc, h2.2]
  omega
theorem NL.skip {zs : List Int} {n s nx la : Nat} {z : Int} (h : NL zs n s nx la) (ht : zs.take (s + 1) = zs.take s ++ [z]) (hz : z ≠ (n : Int)) : NL zs n (s + 1) nx la := by
  unfold NL at h ⊢
  rw [ht, cC_snoc, if_neg (fun e => hz e.2), Nat.add_zero]
  exact h
theorem NL.code {zs : List Int} {n s nx la : Nat} (h : NL zs n s nx la) (hz : zs.getD s 0 = (n : Int)) (h0 : 0 < n) : cd zs s = (if la = 0 then nx else (nx + 1) * 2 ^ (n - la)) := by
  have e := cd_nxt hz h0
  by_cases c : la = 0
  · rw [if_pos c]
    have := h.1 c
    omega
  · rw [if_neg c]
    have := (h.2 (by omega)).2
    omega
theorem NL.put {zs : List Int} {n s : Nat} (ht : zs.take (s + 1) = zs.take s ++ [(n : Int)]) (hz : zs.getD s 0 = (n : Int)) (h0 : 0 < n) : NL zs n (s + 1) (cd zs s) n := by
  have e := cd_nxt hz h0
  refine ⟨fun h => by omega, fun _ => ⟨Nat.le_refl _, ?_⟩⟩
  rw [ht, cC_snoc, if_pos ⟨by omega, rfl⟩, Nat.sub_self, Nat.pow_zero, Nat.mul_one]
  omega

theorem NL.bd {zs : List Int} {n s nx la : Nat} (h : NL zs n s nx la) (hf : cF zs n ≤ 100000000) (hc : cC (zs.take s) n ≤ 288) : nx ≤ 100001000 := by
  by_cases c : la = 0
  · have := (h.1 c).1; omega
  · have h1 := (h.2 (by omega)).2
    have h2 : (nx + 1) * 1 ≤ (nx + 1) * 2 ^ (n - la) := Nat.mul_le_mul_left _ Nat.one_le_two_pow
    omega
end Go.Proofs.Ytboangeopbblnaa

namespace Go.Proofs.Ytboangeopbblnaa
open Go.RowKit
set_option linter.unusedVariables false
theorem own_take {w : World} {base m l g cap : Nat} {e : TypeId} {xs : List Value} (h : w.ownsRow base e 1 (.slice (some ⟨g, 0, none⟩) m cap) m xs) (hl : l ≤ m) : w.ownsRow base e 1 (.slice (some ⟨g, 0, none⟩) l cap) l (xs.take l) := by
  have hx : xs.length = m := by have := h.1; simp at this; omega
  refine ⟨by simp; omega, ?_⟩
  rcases h.2 with ⟨h0, _⟩ | ⟨g', cap', cur, hv, hb, hg, hc, hm, hs, ht⟩
  · cases h0
  · simp only [Value.slice.injEq, Option.some.injEq, Addr.mk.injEq, and_true, true_and] at hv
    obtain ⟨rfl, rfl⟩ := hv
    refine .inr ⟨g, cap, cur, rfl, hb, hg, by omega, hm, hs, ?_⟩
    rw [← ht, List.take_take, Nat.mul_one, Nat.mul_one, Nat.min_eq_left hl]

end Go.Proofs.Ytboangeopbblnaa
