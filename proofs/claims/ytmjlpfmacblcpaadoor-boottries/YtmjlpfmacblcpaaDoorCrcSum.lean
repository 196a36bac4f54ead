import Derived.Test.YtmjlpfmacblcpaaDoorCrcMore
namespace Go.Proofs.YtmjlpfmacblcpaaDoor
open Go.RowKit
set_option linter.unusedVariables false
set_option linter.unusedSimpArgs false
/-- A part: where its bytes lie, the bytes, the capacity. -/
structure Part where
  a : Option Addr
  zs : List Int
  cap : Nat
def Part.val (p : Part) : Value := .slice p.a p.zs.length p.cap
def noPart : Part := ⟨none, [], 0⟩
/-- Parts lie where a slice's address leads, and the bytes of each where it leads. -/
structure Parts (w : World) (a : Option Addr) (ps : List Part) : Prop where
  at_ : ∀ i, i < ps.length → ∃ b off, a = some ⟨b, off, none⟩ ∧ w.cell? ⟨b, off + i, none⟩ = some (ps.getD i noPart).val
  seg : ∀ i, i < ps.length → Seg w (ps.getD i noPart).a (ps.getD i noPart).zs
  len : ∀ i, i < ps.length → (ps.getD i noPart).zs.length ≤ 9223372036854775807
def flat (ps : List Part) : List Int := (ps.map (·.zs)).flatten
theorem flat_snoc {ps : List Part} {k : Nat} (hk : k < ps.length) : flat (ps.take (k + 1)) = flat (ps.take k) ++ (ps.getD k noPart).zs := by
  unfold flat
  rw [List.take_add_one, List.map_append, List.flatten_append, List.getElem?_eq_getElem hk]
  simp only [Option.toList, List.map_cons, List.map_nil, List.flatten_cons, List.flatten_nil, List.append_nil]
  rw [List.getD, List.getElem?_eq_getElem hk]
  rfl

set_option maxRecDepth 100000 in
set_option maxHeartbeats 400000 in
theorem sum_any (a : Option Addr) (ps : List Part) (cap : Nat) (w : World) (h : Tab w) (hs : Parts w a ps) (hl : ps.length ≤ 9223372036854775807) :
    Calls Tryd.prog 78 #[.slice a ps.length cap] w fun e w' => e = .returned (.int .u32 (wI (sumW (flat ps)))) ∧ w' = w := by
  have z0 : (0 : Int) = wI (sumW (flat (ps.take 0))) := by simp [flat]; decide
  go_enter Tryd.func78, Tryd.ntmps78
  go_wp2
  go_loopw [3, 8] (fun tr ti wr => ∃ k : Nat, k ≤ ps.length ∧ tr = .int .u32 (wI (sumW (flat (ps.take k)))) ∧ ti = .int .i64 k ∧ wr = w) (fun _ ti _ => ps.length - (intOf ti).toNat)
  case atStart => exact ⟨0, Nat.zero_le _, by rw [← z0], rfl, rfl⟩
  case round =>
    clear z0
    obtain ⟨k, hk, rfl, rfl, rfl⟩ := hrel
    by_cases hlt : k < ps.length
    · have hlti : (k : Int) < (ps.length : Int) := by omega
      obtain ⟨b, off, rfl, hc⟩ := hs.at_ k hlt
      have hsg := hs.seg k hlt
      have hln := hs.len k hlt
      have HT : Hid (~~~ (runW (~~~ (sumW (flat (ps.take k)))) (ps.getD k noPart).zs) = sumW (flat (ps.take (k + 1)))) := by
        show _ = _
        rw [flat_snoc hlt]
        unfold sumW
        rw [not_not, runW_append]
      generalize ps.getD k noPart = p at *
      obtain ⟨pa, pz, pc⟩ := p
      unfold Part.val at hc
      simp only at hc hsg hln HT
      go_wp2_with (go_at_call 110; refine (more_any _ _ _ _ _ h hsg hln).mono ?_; rintro e w' ⟨rfl, hw'⟩; subst w')
      go_roundw
      case rel => exact ⟨k + 1, by omega, by rw [HT.out], by go_num, trivial⟩
      case measure => simp [intOf]; omega
    · obtain rfl : k = ps.length := by omega
      have e1 : ps.take ps.length = ps := List.take_of_length_le (Nat.le_refl _)
      rw [e1]
      clear hlt e1
      go_wp2
      go_ret
      exact ⟨rfl, rfl⟩
end Go.Proofs.YtmjlpfmacblcpaaDoor
