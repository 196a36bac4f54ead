
import Derived.Test.YtoeabfcnfofbiaaDoorCdH
namespace Go.Proofs.YtoeabfcnfofbiaaDoor
open Go.RowKit
set_option linter.unusedVariables false

/-- What a symbol costs, and its bits. -/
def costV (zs : List Int) (s : Int) : Int := if 0 ≤ s ∧ s < zs.length then zs.getD s.toNat 0 else 0
def cbits (zs : List Int) (s : Nat) : List Bool := (bN (cd zs s) (ln zs s)).reverse
def putB (zs : List Int) (s : Int) : List Bool := if costV zs s = 0 then [] else cbits zs s.toNat
def errP (zs : List Int) (s : Int) : Int := if costV zs s = 0 then 53 else 0
theorem En.cells {w : World} {b N : Nat} {zs : List Int} (h : En w b N zs) : ∃ la lc ca cc, w.cell? ⟨b, 0, none⟩ = some (.bool true) ∧ w.cell? ⟨b, 1, none⟩ = some (.slice la zs.length lc) ∧ w.cell? ⟨b, 2, none⟩ = some (.slice ca zs.length cc) ∧ SegZ w la zs ∧ SegZ w ca (cds zs) := by
  obtain ⟨la, lc, ca, cc, h1, h2, h3, _, _⟩ := h.row
  exact ⟨la, lc, ca, cc, three_cell0 h1, three_cell1 h1, three_cell2 h1, h2, h3⟩

set_option maxRecDepth 100000 in
set_option maxHeartbeats 1000000 in
theorem cost5_any (b N : Nat) (zs : List Int) (s : Int) (w : World) (h : En w b N zs) :
    Calls Tryd.prog 72 #[.pointer (some ⟨b, 0, none⟩), .int .i64 s] w fun e w' => e = .returned (.int .i64 (costV zs s)) ∧ w' = w := by
  obtain ⟨la, lc, ca, cc, c0, c1, c2, s1, s2⟩ := h.cells
  have hl : zs.length ≤ 288 := (errS_zero (errC_zero h.ok).1).1
  have HLL : Hid (∃ n, n = zs.length) := ⟨_, rfl⟩
  obtain ⟨n, hn⟩ := HLL.out
  have HN : Hid (n = zs.length) := hn
  rw [← hn] at c1 c2 hl
  clear hn HLL
  by_cases h0 : s < 0
  · have HV : Hid (costV zs s = 0) := by show _ = _; unfold costV; rw [if_neg (by omega)]
    go_enter Tryd.func72, Tryd.ntmps72
    go_wp2_with fail
    go_ret
    exact ⟨by rw [HV.out]; rfl, rfl⟩
  · obtain ⟨k, rfl⟩ : ∃ k : Nat, s = (k : Int) := ⟨s.toNat, by omega⟩
    by_cases hk : k < n
    · have hki : (k : Int) < (n : Int) := by omega
      obtain ⟨g, off, rfl, ck⟩ := s1.at_ k (by have := HN.out; omega)
      have HV : Hid (costV zs k = zs.getD k 0) := by show _ = _; unfold costV; rw [if_pos (by have := HN.out; omega), Int.toNat_natCast]
      generalize zs.getD k 0 = v at *
      go_enter Tryd.func72, Tryd.ntmps72
      go_wp2_with fail
      go_ret
      exact ⟨by rw [HV.out]; rfl, rfl⟩
    · have hki : ¬ (k : Int) < (n : Int) := by omega
      have HV : Hid (costV zs k = 0) := by show _ = _; unfold costV; rw [if_neg (by have := HN.out; omega)]
      go_enter Tryd.func72, Tryd.ntmps72
      go_wp2_with fail
      go_ret
      exact ⟨by rw [HV.out]; rfl, rfl⟩
theorem costV_pos {zs : List Int} {s : Int} (h : costV zs s ≠ 0) : ∃ k : Nat, s = (k : Int) ∧ k < zs.length ∧ costV zs s = zs.getD k 0 ∧ zs.getD k 0 ≠ 0 := by
  unfold costV at h ⊢
  by_cases c : 0 ≤ s ∧ s < zs.length
  · rw [if_pos c] at h ⊢
    exact ⟨s.toNat, by omega, by omega, rfl, h⟩
  · rw [if_neg c] at h
    exact absurd rfl h

set_option maxRecDepth 100000 in
set_option maxHeartbeats 1000000 in
theorem put5_any (b N : Nat) (zs : List Int) (s : Int) (bw B : Nat) (v : Value) (L : List Bool) (w : World) (h : En w b N zs) (hw : WrL w bw B v L) (hl : L.length ≤ 1125899906842560) :
    Calls Tryd.prog 45 #[.pointer (some ⟨b, 0, none⟩), .pointer (some ⟨bw, 0, none⟩), .int .i64 s] w fun e w' => e = .returned (.int .i64 (errP zs s)) ∧ ∃ v', WrL w' bw B v' (L ++ putB zs s) ∧ Kp (WS bw v) w w' ∧ Fresh w v v' := by
  obtain ⟨la, lc, ca, cc, c0, c1, c2, s1, s2⟩ := h.cells
  have HCO := cost5_any b N zs s w h
  by_cases hc : costV zs s = 0
  · have HP : Hid (errP zs s = 53 ∧ putB zs s = []) := ⟨by unfold errP; rw [if_pos hc], by unfold putB; rw [if_pos hc]⟩
    rw [hc] at HCO
    clear hc
    go_enter Tryd.func45, Tryd.ntmps45
    go_wp2_with fail
    refine HCO.mono ?_
    rintro e w1 ⟨rfl, hw1⟩
    subst w1
    go_wp2_with fail
    go_ret
    exact ⟨by rw [HP.out.1]; rfl, v, by rw [HP.out.2, List.append_nil]; exact hw, Kp.refl _ _, fun k hk => .inl hk⟩
  · obtain ⟨k, rfl, hk, hv, hv0⟩ := costV_pos hc
    have hL := (errS_zero (errC_zero h.ok).1)
    have HLN := hL.2.ln k
    have HP : Hid (errP zs k = 0 ∧ putB zs k = cbits zs k) := ⟨by unfold errP; rw [if_neg hc], by unfold putB; rw [if_neg hc, Int.toNat_natCast]⟩
    have HSM := cd_small h.ok hk
    have HT := turned_ok bw B v L (cd zs k) (ln zs k) w hw HSM.1 (by omega) hl
    have HCB : Hid (cbits zs k = (bN (cd zs k) (ln zs k)).reverse) := rfl
    rw [← HCB.out] at HT
    rw [hv, HLN.1] at HCO
    obtain ⟨g, off, rfl, ck⟩ := s2.at_ k (by rw [cds_len]; exact hk)
    rw [cds_get zs hk] at ck
    have hn288 := hL.1
    have hl0 : ln zs k ≠ 0 := by intro e; rw [HLN.1, e] at hv0; exact hv0 rfl
    have hl15 := HLN.2
    have hcs := HSM.2.2
    have HLK : Hid (zs.getD k 0 = (ln zs k : Int)) := HLN.1
    clear HLN HSM hv hv0 hc hL
    have HLL : Hid (∃ n, n = zs.length) := ⟨_, rfl⟩
    obtain ⟨n, hn⟩ := HLL.out
    have HN : Hid (n = zs.length) := hn
    rw [← hn] at c1 c2 hk hn288
    clear hn HLL
    have hki : (k : Int) < (n : Int) := by omega
    generalize cd zs k = c at *
    generalize ln zs k = m at *
    have hm0 : ¬ (m : Int) = 0 := by omega
    have hcw : IntKind.u64.wrap (c : Int) = (c : Int) := IntWalk.u64_in _ (by omega)
    go_enter Tryd.func45, Tryd.ntmps45
    go_wp2_with fail
    refine HCO.mono ?_
    rintro e w1 ⟨rfl, hw1⟩
    subst w1
    go_wp2_with fail
    refine HT.mono ?_
    rintro e w1 ⟨rfl, v', h1, h2, h3⟩
    go_wp2_with fail
    go_ret
    exact ⟨by rw [HP.out.1]; rfl, v', by rw [HP.out.2]; exact h1, h2, h3⟩
end Go.Proofs.YtoeabfcnfofbiaaDoor
