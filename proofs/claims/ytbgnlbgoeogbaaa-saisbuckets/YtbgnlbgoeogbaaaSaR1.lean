
import Derived.Test.YtbgnlbgoeogbaaaSaL1
namespace Go.Proofs.Ytbgnlbgoeogbaaa
open Go.RowKit
set_option linter.unusedVariables false

/-! The document's Types and Lms. -/
set_option maxRecDepth 100000 in
set_option maxHeartbeats 1000000 in
theorem rtyp12 (a : Option Addr) (s : List Int) (n cap : Nat) (w : World) (hs : SegZ w a s) (hn : Hid (s.length = n)) (hb : n ≤ 140737488355328) :
    Calls Try.prog 36 #[.slice a n cap] w fun e w' => e = .returned (.slice (some ⟨w.heap.size, 0, none⟩) n n) ∧ Rb12 w' w.heap.size (typ12 s) ∧ Below w.heap.size w w' := by
  have HM := run_make_b12 n hb
  have HA : Hid (typ12 s = tl12 s (n - 1)) := (tl12_all s (n - 1) (by rw [hn.out]; omega)).symm
  have HZ : Hid (List.replicate n false = tl12 s 0) := by show _ = _; rw [tl12_zero, hn.out]
  have hal : Below w.heap.size w (w.alloc (.cells (vb12 (List.replicate n false)) 4)) := (Below.refl _ _).alloc (Nat.le_refl _) _
  have hr0 := Rb12.new w (List.replicate n false)
  rw [HZ.out] at hal hr0 HM
  generalize hg : w.heap.size = g at *
  generalize hw1 : w.alloc (.cells (vb12 (tl12 s 0)) 4) = w1 at *
  have HM1 : (Instr.makeSlice 45 (.int .i64 (n : Int)) (.int .i64 (n : Int))).run Try.prog w = .ok (.slice (some ⟨g, 0, none⟩) n n) w1 := by rw [HM w, hg, hw1]
  have HG : Hid (g ≤ w1.heap.size ∧ w.heap.size = g) := ⟨by have := hal.size; omega, hg⟩
  clear HM hw1 hg
  go_enter Try.func36, Try.ntmps36
  go_wp2
  go_loopw [4] (fun ti wr => ∃ k : Nat, (k = 0 ∨ k + 1 ≤ n) ∧ ti = .int .i64 ((n : Int) - 2 - (k : Int)) ∧ Rb12 wr g (tl12 s k) ∧ Below g w wr) (fun ti _ => (intOf ti + 1).toNat)
  case atStart => exact ⟨0, Or.inl rfl, by go_num, hr0, hal⟩
  case round =>
    obtain ⟨k, hk, rfl, hr, hb2⟩ := hrel
    by_cases h1 : k + 1 < n
    · have h1i : (0 : Int) ≤ (n : Int) - 2 - (k : Int) := by omega
      obtain ⟨i, hi⟩ : ∃ i, n = i + 2 + k := ⟨n - 2 - k, by omega⟩
      have hsg : SegZ wr a s := hs.old (by rw [HG.out.2]; exact hb2)
      obtain ⟨b, off, rfl, c1⟩ := hsg.at_ i (by rw [hn.out]; omega)
      have c2 : wr.cell? ⟨b, off + (i + 1), none⟩ = some (.int .i64 (s.getD (i + 1) 0)) := by
        obtain ⟨b', off', ha, c⟩ := hsg.at_ (i + 1) (by rw [hn.out]; omega)
        cases ha
        exact c
      have bd1 := hsg.bd i
      have bd2 := hsg.bd (i + 1)
      have c3 : wr.cell? ⟨g, i + 1, none⟩ = some (.bool (sm12 s (i + 1))) := by
        rw [hr.cell (by rw [tl12_len, hn.out]; omega), tl12_get s k (i + 1) (by rw [hn.out]; omega)]
        have : s.length ≤ i + 1 + 1 + k := by rw [hn.out]; omega
        simp [this]
      have c4 : wr.cell? ⟨g, i, none⟩ = some (.bool ((tl12 s k).getD i false)) := hr.cell (by rw [tl12_len, hn.out]; omega)
      have f4 := hr.free i
      have HR : Hid (sm12 s i = (decide (s.getD i 0 < s.getD (i + 1) 0) || (decide (s.getD i 0 = s.getD (i + 1) 0) && sm12 s (i + 1)))) := (ty12 s).rc i (by rw [hn.out]; omega)
      have HS : Hid (∀ x, x = sm12 s i → Rb12 (wr.setCell ⟨g, i, none⟩ (.bool x)) g (tl12 s (k + 1))) := by
        intro x hx
        have := hr.set i x
        rw [hx, tl12_set s k i (by rw [hn.out]; omega)] at this
        rw [hx]; exact this
      have HB : Hid (∀ x, Below g w (wr.setCell ⟨g, i, none⟩ x)) := by
        intro x
        exact hb2.trans ((Kp.set (S := fun j => j = g) rfl x).below (fun j h => by omega) (by have := hb2.size; have := HG.out; omega))
      have ei : (n : Int) - 2 - (k : Int) = (i : Int) := by omega
      have in1 : (i : Int) < (n : Int) := by omega
      have in2 : (i : Int) + 1 < (n : Int) := by omega
      have kn : (k : Int) < 140737488355328 := by omega
      generalize s.getD i 0 = x at *
      generalize s.getD (i + 1) 0 = y at *
      generalize sm12 s (i + 1) = z at *
      generalize (tl12 s k).getD i false = u at *
      clear hi hk hr hsg
      rcases Int.lt_trichotomy x y with hx | hx | hx
      · go_wp2
        go_region
        go_wp2
        go_roundw
        case rel => exact ⟨k + 1, Or.inr (by omega), by go_num, (HS.out _ (by rw [HR.out]; simp [hx])).drew, (HB.out _).drew⟩
        case measure => simp [intOf]; omega
      · subst hx
        go_wp2
        go_region
        go_wp2
        go_roundw
        case rel => exact ⟨k + 1, Or.inr (by omega), by go_num, (HS.out _ (by rw [HR.out]; simp)).drew, (HB.out _).drew⟩
        case measure => simp [intOf]; omega
      · have hx1 : ¬ x < y := by omega
        have hx2 : ¬ x = y := by omega
        have hx3 : (x == y) = false := by simp [hx2]
        have hx4 : decide (x = y) = false := by simp [hx2]
        have hx5 : decide (x < y) = false := by simp [hx1]
        clear hx
        go_wp2
        go_region
        go_wp2
        go_roundw
        case rel => exact ⟨k + 1, Or.inr (by omega), by go_num, (HS.out _ (by rw [HR.out]; simp [hx1, hx2])).drew, (HB.out _).drew⟩
        case measure => simp [intOf]; omega
    · have h1i : ¬ (0 : Int) ≤ (n : Int) - 2 - (k : Int) := by omega
      go_wp2
      go_ret
      refine ⟨rfl, ?_, hb2⟩
      rw [HA.out]
      rcases hk with rfl | hk
      · rw [show n - 1 = 0 by omega]; exact hr
      · rw [show n - 1 = k by omega]; exact hr
theorem tb12_pos (f : Nat → Bool) (k : Nat) (h : 0 < k) : tb12 f k = (f k && !f (k - 1)) := by unfold tb12; simp [h]
set_option maxRecDepth 100000 in
set_option maxHeartbeats 1000000 in
theorem rlms12 (a : Option Addr) (s : List Int) (n cap : Nat) (w : World) (hs : SegZ w a s) (hn : Hid (s.length = n)) (hb : n ≤ 17592186044416) :
    Calls Try.prog 50 #[.slice a n cap] w (AnsZ12 w (nz12 (tns12 s))) := by
  obtain ⟨i0, hi, hz0, hz1, hz2⟩ := info_parts info_i12
  have HC := rtyp12 a s n cap w hs hn (by omega)
  have HE : Hid (tu12 (sm12 s) n = tns12 s) := by show _ = _; rw [← hn.out]; rfl
  have H1 : Hid (tu12 (sm12 s) 1 = []) := by show _ = _; rw [tu12_succ]; simp [tb12, tu12]
  rw [← HE.out]
  generalize hg : w.heap.size = g at *
  have HG : Hid (w.heap.size = g) := hg
  clear hg
  go_enter Try.func50, Try.ntmps50
  go_wp2_with (first
    | (go_at_call 36; refine HC.mono ?_; rintro e1 w1 ⟨rfl, R1, B1⟩))
  go_loopw [4, 5] (fun to ti wr => ∃ (k m rc : Nat) (ra : Option Addr), 1 ≤ k ∧ (k = 1 ∨ k ≤ n) ∧ ti = .int .i64 k ∧ to = .slice ra m rc ∧ Hid ((tu12 (sm12 s) k).length = m) ∧ wr.ownsRow w1.heap.size 3 1 (.slice ra m rc) m ((nz12 (tu12 (sm12 s) k)).map (Value.int .i64)) ∧ Below w1.heap.size w1 wr) (fun _ ti _ => n - (intOf ti).toNat)
  case atStart => exact ⟨1, 0, 0, none, by omega, Or.inl rfl, rfl, rfl, (by rw [H1.out]; rfl : _ = _), by rw [H1.out]; exact World.ownsRow_nil _ _ _ _, Below.refl _ _⟩
  case round =>
    obtain ⟨k, m, rc, ra, hk0, hk, rfl, rfl, HM, hown, hb2⟩ := hrel
    have hsz : w1.heap.size ≤ wr.heap.size := hb2.size
    have hmk : m ≤ k := by rw [← HM.out]; exact tu12_le _ _
    by_cases h1 : k < n
    · have h1i : (k : Int) < (n : Int) := by omega
      have hR := R1.old hb2
      have c1 := hR.cell (i := k) (by rw [typ12_len, hn.out]; exact h1)
      have c2 := hR.cell (i := k - 1) (by rw [typ12_len, hn.out]; omega)
      rw [typ12_get] at c1 c2
      have er : (k : Int) - 1 = ((k - 1 : Nat) : Int) := by omega
      have ir : ((k - 1 : Nat) : Int) < (n : Int) := by omega
      have HS : Hid (tu12 (sm12 s) (k + 1) = if (sm12 s k && !sm12 s (k - 1)) = true then tu12 (sm12 s) k ++ [k] else tu12 (sm12 s) k) := by show _ = _; rw [tu12_succ, tb12_pos _ k (by omega)]
      clear hR
      generalize sm12 s k = x at *
      generalize sm12 s (k - 1) = y at *
      generalize tu12 (sm12 s) k = T at *
      generalize k - 1 = k1 at *
      cases x
      · go_wp2_with fail
        go_roundw
        case rel => exact ⟨k + 1, m, rc, ra, by omega, Or.inr (by omega), by go_num, rfl, (by rw [HS.out]; exact HM.out : _ = _), by rw [HS.out]; exact hown, hb2⟩
        case measure => simp [intOf]; omega
      · cases y
        · go_wp2_with (first
            | (at_builtin; refine wpList_ap12 rfl (.tmp 26) (.tmp 28) 22 rfl w1.heap.size 3 i0 (.int .i64 0) 8 Try.underlying22 hi hz0 hz1 hz2 rfl wr _ hown rfl rfl (by omega) (by omega) hsz ?_; intro ga gc w3 own3 hk3 hat3))
          have B3 : Below w1.heap.size w1 w3 := hb2.trans (hk3.below (fun q e => (hown.lt q e).1) hsz)
          go_roundw
          case rel => exact ⟨k + 1, m + 1, gc, some ⟨ga, 0, none⟩, by omega, Or.inr (by omega), by go_num, rfl, (by rw [HS.out]; simp [HM.out] : _ = _), by rw [HS.out]; simpa [nz12] using own3, B3⟩
          case measure => simp [intOf]; omega
        · go_wp2_with fail
          go_roundw
          case rel => exact ⟨k + 1, m, rc, ra, by omega, Or.inr (by omega), by go_num, rfl, (by rw [HS.out]; exact HM.out : _ = _), by rw [HS.out]; exact hown, hb2⟩
          case measure => simp [intOf]; omega
    · have h1i : ¬ (k : Int) < (n : Int) := by omega
      have HT : Hid (tu12 (sm12 s) k = tu12 (sm12 s) n) := by
        show _ = _
        rcases hk with rfl | hk
        · by_cases hn0 : n = 0
          · subst hn0; rw [H1.out]; simp [tu12]
          · rw [show n = 1 by omega]
        · rw [show k = n by omega]
      rw [HT.out] at HM hown
      go_wp2_with fail
      go_ret
      refine ⟨ra, rc, ?_, ?_, ?_⟩
      · (try rw [nz12_len]); rw [HM.out]; rfl
      · (try rw [nz12_len]); rw [HM.out]; exact own_base hown (by have := B1.size; have := HG.out; omega)
      · rw [HG.out]; exact B1.trans (hb2.mono (by have := B1.size; have := HG.out; omega))
end Go.Proofs.Ytbgnlbgoeogbaaa
