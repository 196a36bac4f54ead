import Derived.Test.YtmleicaalaggkabLnHp2
namespace Go.Proofs.Ytmleicaalaggkab
open Go.RowKit
set_option linter.unusedVariables false

set_option maxHeartbeats 2000000 in
theorem init_any (p g cap N : Nat) (zs : List Int) (hzs : Hid (zs.length = N)) (hN : N ≤ 1000) (w : World) (h : Pile w p (some ⟨g, 0, none⟩) cap zs) :
    Calls Try.prog 25 #[.iface 46 (.pointer (some ⟨p, 0, none⟩))] w fun e w' => e = .returned (.tuple #[]) ∧ ∃ zs', Hid (zs'.length = N) ∧ Pile w' p (some ⟨g, 0, none⟩) cap zs' ∧ Below p w w' ∧ zs'.Perm zs ∧ hp (fun k => zs'.getD k 0) N 0 := by
  go_enter Try.func25, Try.ntmps25
  go_wp2_with fail
  rw [h.m m_len]
  rw [hzs.out]
  go_wp2_with fail
  refine (plen_any _ _ _ _).mono ?_
  rintro e w' ⟨rfl, hw'⟩
  subst w'
  obtain ⟨H, hH⟩ : ∃ H, H = N / 2 := ⟨_, rfl⟩
  have hdv : (N : Int).tdiv 2 = (H : Int) := by rw [Int.tdiv_eq_ediv_of_nonneg (by omega)]; omega
  have HH : Hid (H = N / 2) := hH
  have hHN : H ≤ N := by omega
  clear hH
  go_wp2_with fail
  go_loopw [3] (fun ti wr => ∃ (m : Nat) (zk : List Int), m ≤ H ∧ ti = .int .i64 ((m : Int) - 1) ∧ Hid (zk.length = N) ∧ Pile wr p (some ⟨g, 0, none⟩) cap zk ∧ Below p w wr ∧ Hid (zk.Perm zs) ∧ Hid (hp (fun k => zk.getD k 0) N m)) (fun ti _ => (intOf ti + 1).toNat)
  case atStart => exact ⟨H, zs, Nat.le_refl _, rfl, hzs, h, Below.refl _ _, List.Perm.refl _, (fun q c hq hk hc => by have := HH.out; unfold kid at hk; omega : ∀ q c, _)⟩
  case round =>
    obtain ⟨m, zk, hmH, rfl, hzk, wrP, wrB, HP, HD⟩ := hrel
    by_cases hm : m = 0
    · subst hm
      go_wp2
      go_end0
      exact ⟨rfl, zk, hzk, wrP, wrB, HP.out, HD.out⟩
    · obtain ⟨q, rfl⟩ : ∃ q, m = q + 1 := ⟨m - 1, by omega⟩
      have eq : ((q + 1 : Nat) : Int) - 1 = (q : Int) := by omega
      rw [eq]
      have hq0 : (0 : Int) ≤ (q : Int) := by omega
      have CD := down_any p g cap N N q zk hzk hN (Nat.le_refl _) (by omega) wr wrP HD.out
      go_wp2_with fail
      refine CD.mono ?_
      rintro e w2 ⟨b, z2, rfl, L2, P2, B2, pm, hd, _⟩
      go_wp2
      go_roundw
      case rel => exact ⟨q, z2, by omega, rfl, L2, P2, wrB.trans B2, pm.trans HP.out, hd⟩
      case measure => simp [intOf]
theorem init_nil (p : Nat) (cap : Nat) (a : Option Addr) (w : World) (h : Pile w p a cap []) :
    Calls Try.prog 25 #[.iface 46 (.pointer (some ⟨p, 0, none⟩))] w fun e w' => e = .returned (.tuple #[]) ∧ w' = w := by
  go_enter Try.func25, Try.ntmps25
  go_wp2_with fail
  rw [h.m m_len]
  go_wp2_with fail
  refine (plen_any _ _ _ _).mono ?_
  rintro e w' ⟨rfl, hw'⟩
  subst w'
  go_wp2_with fail
  go_loopw [3] (fun ti wr => ti = .int .i64 (-1) ∧ wr = w) (fun ti _ => 0)
  case atStart => exact ⟨rfl, rfl⟩
  case round =>
    obtain ⟨rfl, rfl⟩ := hrel
    go_wp2
    go_end0
    exact ⟨rfl, rfl⟩

theorem least_any (p g cap N : Nat) (zs : List Int) (hzs : Hid (zs.length = N + 1)) (hN : N < 1000) (hc : N + 1 ≤ cap) (w : World) (h : Pile w p (some ⟨g, 0, none⟩) cap zs) (hh : hp (fun k => zs.getD k 0) (N + 1) 0) :
    Calls Try.prog 26 #[.iface 46 (.pointer (some ⟨p, 0, none⟩))] w fun e w' => ∃ m zs', e = .returned (.int .i64 m) ∧ Hid (zs'.length = N) ∧ Pile w' p (some ⟨g, 0, none⟩) cap zs' ∧ Below p w w' ∧ (m :: zs').Perm zs ∧ (∀ z ∈ zs, m ≤ z) ∧ hp (fun k => zs'.getD k 0) N 0 := by
  go_enter Try.func26, Try.ntmps26
  go_wp2_with fail
  refine (hpop_any p g cap N zs hzs hN hc _ h hh).mono ?_
  rintro e w1 ⟨m, z1, rfl, r⟩
  go_wp2
  go_ret
  exact ⟨m, z1, rfl, r⟩
end Go.Proofs.Ytmleicaalaggkab
