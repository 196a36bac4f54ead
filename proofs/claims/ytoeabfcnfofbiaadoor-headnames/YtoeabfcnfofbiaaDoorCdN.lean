
import Derived.Test.YtoeabfcnfofbiaaDoorCdM
namespace Go.Proofs.YtoeabfcnfofbiaaDoor
open Go.RowKit
set_option linter.unusedVariables false

def NxtQ (w : World) (b br : Nat) (zs : List Int) (H : List Bool) (t : Nat) (e : Ending) (w' : World) : Prop :=
  ((∃ s, Beg zs H s ∧ e = .returned (.tuple #[.int .i64 (s : Int), .bool true, .int .i64 0]) ∧ Rd w' br (H.drop (ln zs s)) (t + ln zs s)) ∨ ((∀ s, ¬ Beg zs H s) ∧ May zs H ∧ e = .returned (.tuple #[.int .i64 0, .bool false, .int .i64 0]) ∧ Rd w' br H t) ∨ ((∀ s, ¬ Beg zs H s) ∧ ¬ May zs H ∧ e = .returned (.tuple #[.int .i64 0, .bool false, .int .i64 54]) ∧ Rd w' br H t)) ∧ Kp (fun k => k = br) w w'

set_option maxRecDepth 100000 in
set_option maxHeartbeats 1000000 in
theorem next5_any (b most : Nat) (zs : List Int) (br : Nat) (H : List Bool) (t : Nat) (w : World) (hD : De w b most zs) (hR : Rd w br H t) (ht : t ≤ 4611686018427387000) :
    Calls Tryd.prog 83 #[.pointer (some ⟨b, 0, none⟩), .pointer (some ⟨br, 0, none⟩)] w fun e w' => NxtQ w b br zs H t e w' := by
  obtain ⟨S, hS, hY, hb⟩ := hD.row
  have c0 := arr_cell hb (i := 0) (by simp [dl])
  have e0 : (dl most zs S).getD 0 0 = (most : Int) := rfl
  rw [e0] at c0
  have hm0 : ¬ (most : Int) = 0 := by have := hD.mo; omega
  have CH := has_any br H t w hR
  obtain ⟨n, hn⟩ : ∃ n, n = min H.length 15 := ⟨_, rfl⟩
  have HN : Hid (n = min H.length 15) := hn
  have hth : there H (n : Int) = true := there_of (by omega) (by omega)
  have CP := peek_any br H t (n : Int) w hR
  rw [hth] at CP
  have hV : takeV H (n : Int) = num (H.take n) := by unfold takeV; rw [hth]; simp
  rw [hV] at CP
  have CF := find_any b most zs H n HN w hD
  have hle := hR.le
  have HCT : Hid (∀ s, Beg zs H s → ln zs s ≤ 15 → Calls Tryd.prog 81 #[.pointer (some ⟨br, 0, none⟩), .int .i64 (ln zs s : Int)] w fun e w' => (∃ x y, e = .returned (.tuple #[x, y])) ∧ Rd w' br (H.drop (ln zs s)) (t + ln zs s) ∧ w.grownBy w' (some br)) := by
    intro s hs hl
    have := take_any br H t (ln zs s : Int) w hR (by omega)
    have h1 : there H (ln zs s : Int) = true := there_of (by omega) hs.2.2.1
    refine this.mono ?_
    rintro e w' ⟨rfl, h2, h3⟩
    refine ⟨⟨_, _, rfl⟩, ?_, h3⟩
    unfold takeL takeT at h2
    rw [h1] at h2
    simpa using h2
  have HLN : Hid (∀ s, Beg zs H s → 0 < ln zs s ∧ ln zs s ≤ 15) := fun s hs => ⟨ln_pos (errS_zero (errC_zero hD.ok).1).2 hs.2.1, ((errS_zero (errC_zero hD.ok).1).2.ln s).2⟩
  clear e0 hV hth
  by_cases hc : H.length ≤ 15
  · have en : (H.length : Int) = (n : Int) := by omega
    rw [en] at CH
    have hci : (n : Int) ≤ 15 := by omega
    have hci2 : ¬ (15 : Int) < (n : Int) := by omega
    clear hn hc en hle
    go_enter Tryd.func83, Tryd.ntmps83
    go_wp2_with fail
    refine CH.mono ?_
    rintro e w1 ⟨rfl, hw1⟩
    subst w1
    go_wp2_with fail
    refine CP.mono ?_
    rintro e w1 ⟨rfl, hw1⟩
    subst w1
    go_wp2_with fail
    refine CF.mono ?_
    rintro e w1 ⟨sy, le, er, rfl, hF, hw1⟩
    subst w1
    rcases hF with ⟨s, h1, rfl, rfl, rfl⟩ | ⟨h1, h2, rfl, rfl, rfl⟩ | ⟨h1, h2, rfl, rfl, rfl⟩
    · have CT := HCT.out s h1 (HLN.out s h1).2
      have HB : Hid (Beg zs H s) := h1
      have hl0 : ¬ (ln zs s : Int) = 0 := by have := (HLN.out s h1).1; omega
      clear h1
      go_wp2_with fail
      refine CT.mono ?_
      rintro e w1 ⟨⟨x, y, rfl⟩, h3, h4⟩
      go_wp2_with fail
      go_ret3
      exact ⟨.inl ⟨s, HB.out, rfl, h3⟩, Kp.grown h4 (fun i hi => by cases hi; rfl)⟩
    · have HB : Hid ((∀ s, ¬ Beg zs H s) ∧ May zs H) := ⟨h1, h2⟩
      clear h1 h2
      go_wp2_with fail
      go_ret3
      exact ⟨.inr (.inl ⟨HB.out.1, HB.out.2, rfl, hR⟩), Kp.refl _ _⟩
    · have HB : Hid ((∀ s, ¬ Beg zs H s) ∧ ¬ May zs H) := ⟨h1, h2⟩
      clear h1 h2
      go_wp2_with fail
      go_ret3
      exact ⟨.inr (.inr ⟨HB.out.1, HB.out.2, rfl, hR⟩), Kp.refl _ _⟩
  · obtain rfl : n = 15 := by omega
    obtain ⟨m, em⟩ : ∃ m, m = H.length := ⟨_, rfl⟩
    rw [← em] at CH
    have hci : ¬ (m : Int) ≤ 15 := by omega
    have hci2 : (15 : Int) < (m : Int) := by omega
    have e15 : ((15 : Nat) : Int) = 15 := rfl
    rw [e15] at CP CF
    clear hn e15 em hc hle
    go_enter Tryd.func83, Tryd.ntmps83
    go_wp2_with fail
    refine CH.mono ?_
    rintro e w1 ⟨rfl, hw1⟩
    subst w1
    go_wp2_with fail
    refine CP.mono ?_
    rintro e w1 ⟨rfl, hw1⟩
    subst w1
    go_wp2_with fail
    refine CF.mono ?_
    rintro e w1 ⟨sy, le, er, rfl, hF, hw1⟩
    subst w1
    rcases hF with ⟨s, h1, rfl, rfl, rfl⟩ | ⟨h1, h2, rfl, rfl, rfl⟩ | ⟨h1, h2, rfl, rfl, rfl⟩
    · have CT := HCT.out s h1 (HLN.out s h1).2
      have HB : Hid (Beg zs H s) := h1
      have hl0 : ¬ (ln zs s : Int) = 0 := by have := (HLN.out s h1).1; omega
      clear h1
      go_wp2_with fail
      refine CT.mono ?_
      rintro e w1 ⟨⟨x, y, rfl⟩, h3, h4⟩
      go_wp2_with fail
      go_ret3
      exact ⟨.inl ⟨s, HB.out, rfl, h3⟩, Kp.grown h4 (fun i hi => by cases hi; rfl)⟩
    · have HB : Hid ((∀ s, ¬ Beg zs H s) ∧ May zs H) := ⟨h1, h2⟩
      clear h1 h2
      go_wp2_with fail
      go_ret3
      exact ⟨.inr (.inl ⟨HB.out.1, HB.out.2, rfl, hR⟩), Kp.refl _ _⟩
    · have HB : Hid ((∀ s, ¬ Beg zs H s) ∧ ¬ May zs H) := ⟨h1, h2⟩
      clear h1 h2
      go_wp2_with fail
      go_ret3
      exact ⟨.inr (.inr ⟨HB.out.1, HB.out.2, rfl, hR⟩), Kp.refl _ _⟩
end Go.Proofs.YtoeabfcnfofbiaaDoor
