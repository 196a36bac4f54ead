import Derived.Test.YtbgnlbgoeogbaaaPar
namespace Go.Proofs.Ytbgnlbgoeogbaaa
open Go.RowKit
set_option linter.unusedVariables false

/-! The document's Types and Lms. -/
set_option maxRecDepth 100000 in
set_option maxHeartbeats 1000000 in
theorem rtyp12 (a : Option Addr) (s : List Int) (n cap : Nat) (w : World) (hs : SegZ w a s) (hn : Hid (s.length = n)) (hb : n ≤ 140737488355328) :
    Calls Try.prog 36 #[.slice a n cap] w fun e w' => e = .returned (.slice (some ⟨w.heap.size, 0, none⟩) n n) ∧ Rb12 w' w.heap.size (typ12 s) ∧ Below w.heap.size w w' := by
  have HM := run_make_b12 n hb
  have HA : Hid (typ12 s = tl12 s (n - 1)) := (tl12_all s (n - 1) (by rw [hn.out]; omega)).symm
  have HZ : Hid (List.replicate n false = tl12 s 0) := by show _ = _; rw [tl12_zero, hn.out]
  have hal : Below w.heap.size w (w.alloc (.cells (vb12 (List.replicate n false)) 4)) := (Below.refl _ _).alloc (Nat.le_refl _) _
  have hr0 := Rb12.new w (List.replicate n false)
  rw [HZ.out] at hal hr0 HM
  generalize hg : w.heap.size = g at *
  generalize hw1 : w.alloc (.cells (vb12 (tl12 s 0)) 4) = w1 at *
  have HM1 : (Instr.makeSlice 45 (.int .i64 (n : Int)) (.int .i64 (n : Int))).run Try.prog w = .ok (.slice (some ⟨g, 0, none⟩) n n) w1 := by rw [HM w, hg, hw1]
  have HG : Hid (g ≤ w1.heap.size ∧ w.heap.size = g) := ⟨by have := hal.size; omega, hg⟩
  clear HM hw1 hg
  go_enter Try.func36, Try.ntmps36
  go_wp2
  go_loopw [4] (fun ti wr => ∃ k : Nat, (k = 0 ∨ k + 1 ≤ n) ∧ ti = .int .i64 ((n : Int) - 2 - (k : Int)) ∧ Rb12 wr g (tl12 s k) ∧ Below g w wr) (fun ti _ => (intOf ti + 1).toNat)
  case atStart => exact ⟨0, Or.inl rfl, by go_num, hr0, hal⟩
  case round =>
    obtain ⟨k, hk, rfl, hr, hb2⟩ := hrel
    by_cases h1 : k + 1 < n
    · have h1i : (0 : Int) ≤ (n : Int) - 2 - (k : Int) := by omega
      obtain ⟨i, hi⟩ : ∃ i, n = i + 2 + k := ⟨n - 2 - k, by omega⟩
      have hsg : SegZ wr a s := hs.old (by rw [HG.out.2]; exact hb2)
      obtain ⟨b, off, rfl, c1⟩ := hsg.at_ i (by rw [hn.out]; omega)
      have c2 : wr.cell? ⟨b, off + (i + 1), none⟩ = some (.int .i64 (s.getD (i + 1) 0)) := by
        obtain ⟨b', off', ha, c⟩ := hsg.at_ (i + 1) (by rw [hn.out]; omega)
        cases ha
        exact c
      have bd1 := hsg.bd i
      have bd2 := hsg.bd (i + 1)
      have c3 : wr.cell? ⟨g, i + 1, none⟩ = some (.bool (sm12 s (i + 1))) := by
        rw [hr.cell (by rw [tl12_len, hn.out]; omega), tl12_get s k (i + 1) (by rw [hn.out]; omega)]
        have : s.length ≤ i + 1 + 1 + k := by rw [hn.out]; omega
        simp [this]
      have c4 : wr.cell? ⟨g, i, none⟩ = some (.bool ((tl12 s k).getD i false)) := hr.cell (by rw [tl12_len, hn.out]; omega)
      have f4 := hr.free i
      have HR : Hid (sm12 s i = (decide (s.getD i 0 < s.getD (i + 1) 0) || (decide (s.getD i 0 = s.getD (i + 1) 0) && sm12 s (i + 1)))) := (ty12 s).rc i (by rw [hn.out]; omega)
      have HS : Hid (∀ x, x = sm12 s i → Rb12 (wr.setCell ⟨g, i, none⟩ (.bool x)) g (tl12 s (k + 1))) := by
        intro x hx
        have := hr.set i x
        rw [hx, tl12_set s k i (by rw [hn.out]; omega)] at this
        rw [hx]; exact this
      have HB : Hid (∀ x, Below g w (wr.setCell ⟨g, i, none⟩ x)) := by
        intro x
        exact hb2.trans ((Kp.set (S := fun j => j = g) rfl x).below (fun j h => by omega) (by have := hb2.size; have := HG.out; omega))
      have ei : (n : Int) - 2 - (k : Int) = (i : Int) := by omega
      have in1 : (i : Int) < (n : Int) := by omega
      have in2 : (i : Int) + 1 < (n : Int) := by omega
      have kn : (k : Int) < 140737488355328 := by omega
      generalize s.getD i 0 = x at *
      generalize s.getD (i + 1) 0 = y at *
      generalize sm12 s (i + 1) = z at *
      generalize (tl12 s k).getD i false = u at *
      clear hi hk hr hsg
      rcases Int.lt_trichotomy x y with hx | hx | hx
      · go_wp2
        go_region
        go_wp2
        go_roundw
        case rel => exact ⟨k + 1, Or.inr (by omega), by go_num, (HS.out _ (by rw [HR.out]; simp [hx])).drew, (HB.out _).drew⟩
        case measure => simp [intOf]; omega
      · subst hx
        go_wp2
        go_region
        go_wp2
        go_roundw
        case rel => exact ⟨k + 1, Or.inr (by omega), by go_num, (HS.out _ (by rw [HR.out]; simp)).drew, (HB.out _).drew⟩
        case measure => simp [intOf]; omega
      · have hx1 : ¬ x < y := by omega
        have hx2 : ¬ x = y := by omega
        have hx3 : (x == y) = false := by simp [hx2]
        have hx4 : decide (x = y) = false := by simp [hx2]
        have hx5 : decide (x < y) = false := by simp [hx1]
        clear hx
        go_wp2
        go_region
        go_wp2
        go_roundw
        case rel => exact ⟨k + 1, Or.inr (by omega), by go_num, (HS.out _ (by rw [HR.out]; simp [hx1, hx2])).drew, (HB.out _).drew⟩
        case measure => simp [intOf]; omega
    · have h1i : ¬ (0 : Int) ≤ (n : Int) - 2 - (k : Int) := by omega
      go_wp2
      go_ret
      refine ⟨rfl, ?_, hb2⟩
      rw [HA.out]
      rcases hk with rfl | hk
      · rw [show n - 1 = 0 by omega]; exact hr
      · rw [show n - 1 = k by omega]; exact hr
theorem tb12_pos (f : Nat → Bool) (k : Nat) (h : 0 < k) : tb12 f k = (f k && !f (k - 1)) := by unfold tb12; simp [h]
set_option maxRecDepth 100000 in
set_option maxHeartbeats 1000000 in
theorem rlms12 (a : Option Addr) (s : List Int) (n cap : Nat) (w : World) (hs : SegZ w a s) (hn : Hid (s.length = n)) (hb : n ≤ 17592186044416) :
    Calls Try.prog 50 #[.slice a n cap] w (AnsZ12 w (nz12 (tns12 s))) := by
  obtain ⟨i0, hi, hz0, hz1, hz2⟩ := info_parts info_i12
  have HC := rtyp12 a s n cap w hs hn (by omega)
  have HE : Hid (tu12 (sm12 s) n = tns12 s) := by show _ = _; rw [← hn.out]; rfl
  have H1 : Hid (tu12 (sm12 s) 1 = []) := by show _ = _; rw [tu12_succ]; simp [tb12, tu12]
  rw [← HE.out]
  generalize hg : w.heap.size = g at *
  have HG : Hid (w.heap.size = g) := hg
  clear hg
  go_enter Try.func50, Try.ntmps50
  go_wp2_with (first
    | (go_at_call 36; refine HC.mono ?_; rintro e1 w1 ⟨rfl, R1, B1⟩))
  go_loopw [4, 5] (fun to ti wr => ∃ (k m rc : Nat) (ra : Option Addr), 1 ≤ k ∧ (k = 1 ∨ k ≤ n) ∧ ti = .int .i64 k ∧ to = .slice ra m rc ∧ Hid ((tu12 (sm12 s) k).length = m) ∧ wr.ownsRow w1.heap.size 3 1 (.slice ra m rc) m ((nz12 (tu12 (sm12 s) k)).map (Value.int .i64)) ∧ Below w1.heap.size w1 wr) (fun _ ti _ => n - (intOf ti).toNat)
  case atStart => exact ⟨1, 0, 0, none, by omega, Or.inl rfl, rfl, rfl, (by rw [H1.out]; rfl : _ = _), by rw [H1.out]; exact World.ownsRow_nil _ _ _ _, Below.refl _ _⟩
  case round =>
    obtain ⟨k, m, rc, ra, hk0, hk, rfl, rfl, HM, hown, hb2⟩ := hrel
    have hsz : w1.heap.size ≤ wr.heap.size := hb2.size
    have hmk : m ≤ k := by rw [← HM.out]; exact tu12_le _ _
    by_cases h1 : k < n
    · have h1i : (k : Int) < (n : Int) := by omega
      have hR := R1.old hb2
      have c1 := hR.cell (i := k) (by rw [typ12_len, hn.out]; exact h1)
      have c2 := hR.cell (i := k - 1) (by rw [typ12_len, hn.out]; omega)
      rw [typ12_get] at c1 c2
      have er : (k : Int) - 1 = ((k - 1 : Nat) : Int) := by omega
      have ir : ((k - 1 : Nat) : Int) < (n : Int) := by omega
      have HS : Hid (tu12 (sm12 s) (k + 1) = if (sm12 s k && !sm12 s (k - 1)) = true then tu12 (sm12 s) k ++ [k] else tu12 (sm12 s) k) := by show _ = _; rw [tu12_succ, tb12_pos _ k (by omega)]
      clear hR
      generalize sm12 s k = x at *
      generalize sm12 s (k - 1) = y at *
      generalize tu12 (sm12 s) k = T at *
      generalize k - 1 = k1 at *
      cases x
      · go_wp2_with fail
        go_roundw
        case rel => exact ⟨k + 1, m, rc, ra, by omega, Or.inr (by omega), by go_num, rfl, (by rw [HS.out]; exact HM.out : _ = _), by rw [HS.out]; exact hown, hb2⟩
        case measure => simp [intOf]; omega
      · cases y
        · go_wp2_with (first
            | (at_builtin; refine wpList_ap12 rfl (.tmp 26) (.tmp 28) 22 rfl w1.heap.size 3 i0 (.int .i64 0) 8 Try.underlying22 hi hz0 hz1 hz2 rfl wr _ hown rfl rfl (by omega) (by omega) hsz ?_; intro ga gc w3 own3 hk3 hat3))
          have B3 : Below w1.heap.size w1 w3 := hb2.trans (hk3.below (fun q e => (hown.lt q e).1) hsz)
          go_roundw
          case rel => exact ⟨k + 1, m + 1, gc, some ⟨ga, 0, none⟩, by omega, Or.inr (by omega), by go_num, rfl, (by rw [HS.out]; simp [HM.out] : _ = _), by rw [HS.out]; simpa [nz12] using own3, B3⟩
          case measure => simp [intOf]; omega
        · go_wp2_with fail
          go_roundw
          case rel => exact ⟨k + 1, m, rc, ra, by omega, Or.inr (by omega), by go_num, rfl, (by rw [HS.out]; exact HM.out : _ = _), by rw [HS.out]; exact hown, hb2⟩
          case measure => simp [intOf]; omega
    · have h1i : ¬ (k : Int) < (n : Int) := by omega
      have HT : Hid (tu12 (sm12 s) k = tu12 (sm12 s) n) := by
        show _ = _
        rcases hk with rfl | hk
        · by_cases hn0 : n = 0
          · subst hn0; rw [H1.out]; simp [tu12]
          · rw [show n = 1 by omega]
        · rw [show k = n by omega]
      rw [HT.out] at HM hown
      go_wp2_with fail
      go_ret
      refine ⟨ra, rc, ?_, ?_, ?_⟩
      · (try rw [nz12_len]); rw [HM.out]; rfl
      · (try rw [nz12_len]); rw [HM.out]; exact own_base hown (by have := B1.size; have := HG.out; omega)
      · rw [HG.out]; exact B1.trans (hb2.mono (by have := B1.size; have := HG.out; omega))
end Go.Proofs.Ytbgnlbgoeogbaaa

namespace Go.Proofs.Ytbgnlbgoeogbaaa
open Go.RowKit
set_option linter.unusedVariables false

/-! The document's wrong. -/
set_option maxRecDepth 100000 in
set_option maxHeartbeats 1000000 in
theorem rwrg12 (k : Int) (a : Option Addr) (s : List Int) (n cap : Nat) (w : World) (hs : SegZ w a s) (hn : Hid (s.length = n)) (hb : n ≤ 9223372036854775807) (hk : -9223372036854775808 ≤ k ∧ k ≤ 9223372036854775807) :
    Calls Try.prog 32 #[.int .i64 k, .slice a n cap] w fun e w' => e = .returned (.int .i64 (ref12 k s)) ∧ Below w.heap.size w w' := by
  have HR : Hid (ref12 k s = if k < 0 ∨ 33554432 < k then 1 else if 16777216 < n then 120 else rv12 k s) := by show _ = _; unfold ref12; rw [hn.out]
  rw [HR.out]
  by_cases k1 : k < 0
  · rw [if_pos (Or.inl k1)]
    go_enter Try.func32, Try.ntmps32
    go_wp2
    go_ret
    exact ⟨rfl, Below.refl _ _⟩
  by_cases k2 : 33554432 < k
  · rw [if_pos (Or.inr k2)]
    go_enter Try.func32, Try.ntmps32
    go_wp2
    go_ret
    exact ⟨rfl, Below.refl _ _⟩
  rw [if_neg (by omega)]
  by_cases k3 : 16777216 < n
  · rw [if_pos k3]
    have k3i : (16777216 : Int) < (n : Int) := by omega
    go_enter Try.func32, Try.ntmps32
    go_wp2
    go_ret
    exact ⟨rfl, Below.refl _ _⟩
  rw [if_neg k3]
  have k3i : ¬ (16777216 : Int) < (n : Int) := by omega
  go_enter Try.func32, Try.ntmps32
  go_wp2
  go_loopw [5] (fun ti wr => ∃ i : Nat, i ≤ n ∧ ti = .int .i64 i ∧ Hid (vals12 k (s.take i) = true) ∧ Below w.heap.size w wr) (fun ti _ => n - (intOf ti).toNat)
  case atStart => exact ⟨0, Nat.zero_le _, rfl, (by simp [vals12] : _ = _), Below.refl _ _⟩
  case round =>
    obtain ⟨i, hi, rfl, HV, hb2⟩ := hrel
    by_cases h1 : i < n
    · have h1i : (i : Int) < (n : Int) := by omega
      have hs2 := hs.old hb2
      obtain ⟨b, off, rfl, c1⟩ := hs2.at_ i (by rw [hn.out]; exact h1)
      have bd := hs2.bd i
      have HS : Hid (vals12 k (s.take (i + 1)) = (vals12 k (s.take i) && (decide (0 ≤ s.getD i 0) && decide (s.getD i 0 < k)))) := vals12_take k s i (by rw [hn.out]; exact h1)
      have HN : Hid (¬ (0 ≤ s.getD i 0 ∧ s.getD i 0 < k) → vals12 k s = false) := vals12_no (by rw [hn.out]; exact h1)
      clear hs2
      generalize s.getD i 0 = v at *
      by_cases v1 : v < 0
      · go_wp2
        go_ret
        exact ⟨by unfold rv12; rw [HN.out (by omega)]; rfl, hb2⟩
      · by_cases v2 : k ≤ v
        · go_wp2
          go_ret
          exact ⟨by unfold rv12; rw [HN.out (by omega)]; rfl, hb2⟩
        · have v3 : 0 ≤ v := by omega
          have v4 : v < k := by omega
          go_wp2
          go_roundw
          case rel => exact ⟨i + 1, by omega, by go_num, (by rw [HS.out, HV.out]; simp; omega : _ = _), hb2⟩
          case measure => simp [intOf]; omega
    · have h1i : ¬ (i : Int) < (n : Int) := by omega
      go_wp2
      go_ret
      refine ⟨?_, hb2⟩
      have e : s.take i = s := List.take_of_length_le (by rw [hn.out]; omega)
      have := HV.out
      rw [e] at this
      unfold rv12
      rw [this]; rfl
end Go.Proofs.Ytbgnlbgoeogbaaa

namespace Go.Proofs.Ytbgnlbgoeogbaaa
open Go.RowKit
set_option linter.unusedVariables false

/-! The law's own: two rows that are alike, each in memory of its own. -/
set_option maxRecDepth 100000 in
set_option maxHeartbeats 2000000 in
theorem pownK12 (base : Nat) (ra ba wa : Option Addr) (xs : List Int) (n rc bc wc : Nat) (w : World) (hbs : base ≤ w.heap.size) (hn : Hid (xs.length = n)) (hl : n * 8 ≤ 140737488351232) (ho : w.ownsRow base 3 1 (.slice ra n rc) n (xs.map (Value.int .i64))) (hv : ∀ z ∈ xs, -9223372036854775808 ≤ z ∧ z ≤ 9223372036854775807) (hb : SegZ w ba xs) (hw : SegZ w wa xs)
    (nb : ∀ x off, ba = some ⟨x, off, none⟩ → 0 < xs.length → (Value.slice ra n rc).ownBlock ≠ some x) (nw : ∀ x off, wa = some ⟨x, off, none⟩ → 0 < xs.length → (Value.slice ra n rc).ownBlock ≠ some x) :
    Calls Try.prog 13 #[.slice ra n rc, .slice ba n bc, .slice wa n wc] w fun e w' => e = .returned (.bool true) ∧ Kp (fun k => (Value.slice ra n rc).ownBlock = some k) w w' := by
  obtain ⟨i0, hi, hz0, hz1, hz2⟩ := info_parts info_i12
  have HS1 : Calls Try.prog 14 #[.slice ra n rc, .slice wa n wc] w fun e w' => e = .returned (.bool true) ∧ Below w.heap.size w w' := by
    have := same12 ra wa xs xs rc wc w (own_segZ ho hv) hw (by rw [hn.out]; omega) (by rw [hn.out]; omega)
    rw [hn.out] at this
    exact this.mono (fun e w' ⟨he, hB⟩ => ⟨by rw [he]; simp, hB⟩)
  have HS2 : Hid (∀ w1, Kp (fun k => (Value.slice ra n rc).ownBlock = some k) w w1 → Calls Try.prog 14 #[.slice ba n bc, .slice wa n wc] w1 fun e w' => e = .returned (.bool true) ∧ Below w1.heap.size w1 w') := fun w1 k => by
    have := same12 ba wa xs xs bc wc w1 (hb.kp k nb) (hw.kp k nw) (by rw [hn.out]; omega) (by rw [hn.out]; omega)
    rw [hn.out] at this
    exact this.mono (fun e w' ⟨he, hB⟩ => ⟨by rw [he]; simp, hB⟩)
  have HOB : Hid (∀ k, (Value.slice ra n rc).ownBlock = some k → base ≤ k) := fun k hk => (ho.lt k hk).1
  clear hb hw nb nw hv
  go_enter Try.func13, Try.ntmps13
  go_wp2_with (first
    | (go_at_call 14; refine HS1.mono ?_; rintro e1 w1 ⟨rfl, B1⟩; clear HS1)
    | (go_at_call 14; refine (HS2.out w1 (Kp.of_below B1)).mono ?_; rintro e2 w2 ⟨rfl, B2⟩))
  have o2 : w2.ownsRow base 3 1 (.slice ra n rc) n (xs.map (Value.int .i64)) := own_below (own_below ho B1) B2
  have K2 : Kp (fun k => (Value.slice ra n rc).ownBlock = some k) w w2 := Kp.of_below (B1.trans (B2.mono B1.size))
  clear ho B1 B2
  go_loopw [7] (fun ti wr => ∃ (k : Nat) (L : List Int), k ≤ n ∧ ti = .int .i64 k ∧ L.length = n ∧ wr.ownsRow base 3 1 (.slice ra n rc) n (L.map (Value.int .i64)) ∧ Kp (fun k => (Value.slice ra n rc).ownBlock = some k) w wr) (fun ti _ => n - (intOf ti).toNat)
  case atStart => exact ⟨0, xs, Nat.zero_le _, rfl, hn.out, o2, K2⟩
  case round =>
    obtain ⟨k, L, hk, rfl, hL, oL, KL⟩ := hrel
    by_cases h1 : k < n
    · have h1i : (k : Int) < (n : Int) := by omega
      obtain ⟨g, cap', hsh, _, _, _⟩ := own_shape oL (by omega)
      simp only [Value.slice.injEq] at hsh
      obtain ⟨rfl, _, rfl⟩ := hsh
      have c1 := oL.cells (g := g) rfl k (.int .i64 (L.getD k 0)) (by simp [List.getD, hL, h1])
      have hadd : (⟨g, 0, none⟩ : Addr).add k = ⟨g, k, none⟩ := by unfold Addr.add; split <;> simp_all
      rw [hadd] at c1
      have fz : wr.frozen? ⟨g, k, none⟩ = false := by
        rcases oL.2 with ⟨h5, _⟩ | ⟨g', cap'', cur, hv', _, hh, _⟩
        · cases h5
        · simp only [Value.slice.injEq, Option.some.injEq, Addr.mk.injEq] at hv'
          obtain ⟨⟨rfl, _⟩, _⟩ := hv'
          simp [World.frozen?, hh]
      have HST := oL.stored k (.int .i64 81)
      rw [← List.map_set] at HST
      have HS : Hid _ := HST.1
      have HG : Hid _ := HST.2
      generalize L.getD k 0 = y at c1
      clear oL HST
      go_wp2_with fail
      go_roundw
      case rel => exact ⟨k + 1, L.set k 81, by omega, by go_num, by rw [List.length_set]; exact hL, HS.out, KL.trans (Kp.grown HG.out (fun i e => e)) (fun _ _ e => e)⟩
      case measure => simp [intOf]; omega
    · have h1i : ¬ (k : Int) < (n : Int) := by omega
      go_wp2_with fail
      go_loopw [0, 8] (fun ta ti wr => ∃ (k m c : Nat) (r : Option Addr) (L : List Int), k ≤ 40 ∧ ti = .int .i64 k ∧ ta = .slice r m c ∧ Hid (m = n + k) ∧ L.length = m ∧ wr.ownsRow base 3 1 (.slice r m c) m (L.map (Value.int .i64)) ∧ Kp (fun k => (Value.slice ra n rc).ownBlock = some k) w wr ∧ Hid (∀ q, (Value.slice r m c).ownBlock = some q → q < w.heap.size → (Value.slice ra n rc).ownBlock = some q)) (fun _ ti _ => 40 - (intOf ti).toNat)
      case atStart => exact ⟨0, n, rc, ra, L, by omega, rfl, rfl, (rfl : _ = _), hL, oL, KL, (fun q hq _ => hq : ∀ q, _ → _ → _)⟩
      case round =>
        obtain ⟨k2, m, c, r, L2, hk2, rfl, rfl, hm, hL2, o3, K3, HO3⟩ := hrel
        have hsz : base ≤ wr.heap.size := Nat.le_trans hbs K3.size
        by_cases h2 : k2 < 40
        · have h2i : (k2 : Int) < 40 := by omega
          have hmb : m ≤ 17592186044000 := by have := hm.out; omega
          go_wp2_with (first
            | (at_builtin; refine wpList_ap12 rfl (.tmp 32) (.tmp 33) 22 rfl base 3 i0 (.int .i64 0) 8 Try.underlying22 hi hz0 hz1 hz2 rfl wr _ o3 rfl rfl (by omega) (by omega) hsz ?_; intro ga gc w3 own3 hk3 hat3))
          have HN : Hid (∀ q, (Value.slice (some ⟨ga, 0, none⟩) (m + 1) gc).ownBlock = some q → q < w.heap.size → (Value.slice ra n rc).ownBlock = some q) := by
            intro q hq hlt
            have hq2 : ga = q := by simpa [Value.ownBlock] using hq
            subst hq2
            rcases hat3 with h3 | h3
            · exact HO3.out ga h3 hlt
            · have := K3.size; omega
          have K4 := K3.trans hk3 (fun i hi e => HO3.out i e hi)
          clear hk3 hat3 HO3 o3
          go_roundw
          case rel => exact ⟨k2 + 1, m + 1, gc, some ⟨ga, 0, none⟩, L2 ++ [82], by omega, by go_num, rfl, (by have := hm.out; omega : _ = _), by simp [hL2], own3, K4, HN.out⟩
          case measure => simp [intOf]; omega
        · have h2i : ¬ (k2 : Int) < 40 := by omega
          obtain rfl : k2 = 40 := by omega
          have hm9 := hm.out
          subst hm9
          go_wp2_with (first
            | (go_at_call 14; refine (HS2.out wr K3).mono ?_; rintro e4 w4 ⟨rfl, B4⟩))
          go_ret
          exact ⟨rfl, K3.trans (Kp.of_below (S := fun k => (Value.slice ra n rc).ownBlock = some k) B4) (fun _ _ e => e)⟩
theorem pown12 (base : Nat) (ra ba wa : Option Addr) (xs : List Int) (n rc bc wc : Nat) (w : World) (hbs : base ≤ w.heap.size) (hn : Hid (xs.length = n)) (hl : n * 8 ≤ 140737488351232) (ho : w.ownsRow base 3 1 (.slice ra n rc) n (xs.map (Value.int .i64))) (hv : ∀ z ∈ xs, -9223372036854775808 ≤ z ∧ z ≤ 9223372036854775807) (hb : SegZ w ba xs) (hw : SegZ w wa xs)
    (nb : ∀ x off, ba = some ⟨x, off, none⟩ → 0 < xs.length → (Value.slice ra n rc).ownBlock ≠ some x) (nw : ∀ x off, wa = some ⟨x, off, none⟩ → 0 < xs.length → (Value.slice ra n rc).ownBlock ≠ some x) :
    Calls Try.prog 13 #[.slice ra n rc, .slice ba n bc, .slice wa n wc] w fun e w' => e = .returned (.bool true) ∧ Below base w w' :=
  (pownK12 base ra ba wa xs n rc bc wc w hbs hn hl ho hv hb hw nb nw).mono fun e w' ⟨he, hk⟩ => ⟨he, hk.below (fun k hk => (ho.lt k hk).1) hbs⟩
end Go.Proofs.Ytbgnlbgoeogbaaa
