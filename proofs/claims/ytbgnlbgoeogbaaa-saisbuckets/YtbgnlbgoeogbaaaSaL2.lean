
import Derived.Test.YtbgnlbgoeogbaaaSaL1
namespace Go.Proofs.Ytbgnlbgoeogbaaa
open Go.RowKit
set_option linter.unusedVariables false

/-! The law's own: two rows that are alike, each in memory of its own. -/
set_option maxRecDepth 100000 in
set_option maxHeartbeats 2000000 in
theorem pownK12 (base : Nat) (ra ba wa : Option Addr) (xs : List Int) (n rc bc wc : Nat) (w : World) (hbs : base ≤ w.heap.size) (hn : Hid (xs.length = n)) (hl : n * 8 ≤ 140737488351232) (ho : w.ownsRow base 3 1 (.slice ra n rc) n (xs.map (Value.int .i64))) (hv : ∀ z ∈ xs, -9223372036854775808 ≤ z ∧ z ≤ 9223372036854775807) (hb : SegZ w ba xs) (hw : SegZ w wa xs)
    (nb : ∀ x off, ba = some ⟨x, off, none⟩ → 0 < xs.length → (Value.slice ra n rc).ownBlock ≠ some x) (nw : ∀ x off, wa = some ⟨x, off, none⟩ → 0 < xs.length → (Value.slice ra n rc).ownBlock ≠ some x) :
    Calls Try.prog 13 #[.slice ra n rc, .slice ba n bc, .slice wa n wc] w fun e w' => e = .returned (.bool true) ∧ Kp (fun k => (Value.slice ra n rc).ownBlock = some k) w w' := by
  obtain ⟨i0, hi, hz0, hz1, hz2⟩ := info_parts info_i12
  have HS1 : Calls Try.prog 14 #[.slice ra n rc, .slice wa n wc] w fun e w' => e = .returned (.bool true) ∧ Below w.heap.size w w' := by
    have := same12 ra wa xs xs rc wc w (own_segZ ho hv) hw (by rw [hn.out]; omega) (by rw [hn.out]; omega)
    rw [hn.out] at this
    exact this.mono (fun e w' ⟨he, hB⟩ => ⟨by rw [he]; simp, hB⟩)
  have HS2 : Hid (∀ w1, Kp (fun k => (Value.slice ra n rc).ownBlock = some k) w w1 → Calls Try.prog 14 #[.slice ba n bc, .slice wa n wc] w1 fun e w' => e = .returned (.bool true) ∧ Below w1.heap.size w1 w') := fun w1 k => by
    have := same12 ba wa xs xs bc wc w1 (hb.kp k nb) (hw.kp k nw) (by rw [hn.out]; omega) (by rw [hn.out]; omega)
    rw [hn.out] at this
    exact this.mono (fun e w' ⟨he, hB⟩ => ⟨by rw [he]; simp, hB⟩)
  have HOB : Hid (∀ k, (Value.slice ra n rc).ownBlock = some k → base ≤ k) := fun k hk => (ho.lt k hk).1
  clear hb hw nb nw hv
  go_enter Try.func13, Try.ntmps13
  go_wp2_with (first
    | (go_at_call 14; refine HS1.mono ?_; rintro e1 w1 ⟨rfl, B1⟩; clear HS1)
    | (go_at_call 14; refine (HS2.out w1 (Kp.of_below B1)).mono ?_; rintro e2 w2 ⟨rfl, B2⟩))
  have o2 : w2.ownsRow base 3 1 (.slice ra n rc) n (xs.map (Value.int .i64)) := own_below (own_below ho B1) B2
  have K2 : Kp (fun k => (Value.slice ra n rc).ownBlock = some k) w w2 := Kp.of_below (B1.trans (B2.mono B1.size))
  clear ho B1 B2
  go_loopw [7] (fun ti wr => ∃ (k : Nat) (L : List Int), k ≤ n ∧ ti = .int .i64 k ∧ L.length = n ∧ wr.ownsRow base 3 1 (.slice ra n rc) n (L.map (Value.int .i64)) ∧ Kp (fun k => (Value.slice ra n rc).ownBlock = some k) w wr) (fun ti _ => n - (intOf ti).toNat)
  case atStart => exact ⟨0, xs, Nat.zero_le _, rfl, hn.out, o2, K2⟩
  case round =>
    obtain ⟨k, L, hk, rfl, hL, oL, KL⟩ := hrel
    by_cases h1 : k < n
    · have h1i : (k : Int) < (n : Int) := by omega
      obtain ⟨g, cap', hsh, _, _, _⟩ := own_shape oL (by omega)
      simp only [Value.slice.injEq] at hsh
      obtain ⟨rfl, _, rfl⟩ := hsh
      have c1 := oL.cells (g := g) rfl k (.int .i64 (L.getD k 0)) (by simp [List.getD, hL, h1])
      have hadd : (⟨g, 0, none⟩ : Addr).add k = ⟨g, k, none⟩ := by unfold Addr.add; split <;> simp_all
      rw [hadd] at c1
      have fz : wr.frozen? ⟨g, k, none⟩ = false := by
        rcases oL.2 with ⟨h5, _⟩ | ⟨g', cap'', cur, hv', _, hh, _⟩
        · cases h5
        · simp only [Value.slice.injEq, Option.some.injEq, Addr.mk.injEq] at hv'
          obtain ⟨⟨rfl, _⟩, _⟩ := hv'
          simp [World.frozen?, hh]
      have HST := oL.stored k (.int .i64 81)
      rw [← List.map_set] at HST
      have HS : Hid _ := HST.1
      have HG : Hid _ := HST.2
      generalize L.getD k 0 = y at c1
      clear oL HST
      go_wp2_with fail
      go_roundw
      case rel => exact ⟨k + 1, L.set k 81, by omega, by go_num, by rw [List.length_set]; exact hL, HS.out, KL.trans (Kp.grown HG.out (fun i e => e)) (fun _ _ e => e)⟩
      case measure => simp [intOf]; omega
    · have h1i : ¬ (k : Int) < (n : Int) := by omega
      go_wp2_with fail
      go_loopw [0, 8] (fun ta ti wr => ∃ (k m c : Nat) (r : Option Addr) (L : List Int), k ≤ 40 ∧ ti = .int .i64 k ∧ ta = .slice r m c ∧ Hid (m = n + k) ∧ L.length = m ∧ wr.ownsRow base 3 1 (.slice r m c) m (L.map (Value.int .i64)) ∧ Kp (fun k => (Value.slice ra n rc).ownBlock = some k) w wr ∧ Hid (∀ q, (Value.slice r m c).ownBlock = some q → q < w.heap.size → (Value.slice ra n rc).ownBlock = some q)) (fun _ ti _ => 40 - (intOf ti).toNat)
      case atStart => exact ⟨0, n, rc, ra, L, by omega, rfl, rfl, (rfl : _ = _), hL, oL, KL, (fun q hq _ => hq : ∀ q, _ → _ → _)⟩
      case round =>
        obtain ⟨k2, m, c, r, L2, hk2, rfl, rfl, hm, hL2, o3, K3, HO3⟩ := hrel
        have hsz : base ≤ wr.heap.size := Nat.le_trans hbs K3.size
        by_cases h2 : k2 < 40
        · have h2i : (k2 : Int) < 40 := by omega
          have hmb : m ≤ 17592186044000 := by have := hm.out; omega
          go_wp2_with (first
            | (at_builtin; refine wpList_ap12 rfl (.tmp 32) (.tmp 33) 22 rfl base 3 i0 (.int .i64 0) 8 Try.underlying22 hi hz0 hz1 hz2 rfl wr _ o3 rfl rfl (by omega) (by omega) hsz ?_; intro ga gc w3 own3 hk3 hat3))
          have HN : Hid (∀ q, (Value.slice (some ⟨ga, 0, none⟩) (m + 1) gc).ownBlock = some q → q < w.heap.size → (Value.slice ra n rc).ownBlock = some q) := by
            intro q hq hlt
            have hq2 : ga = q := by simpa [Value.ownBlock] using hq
            subst hq2
            rcases hat3 with h3 | h3
            · exact HO3.out ga h3 hlt
            · have := K3.size; omega
          have K4 := K3.trans hk3 (fun i hi e => HO3.out i e hi)
          clear hk3 hat3 HO3 o3
          go_roundw
          case rel => exact ⟨k2 + 1, m + 1, gc, some ⟨ga, 0, none⟩, L2 ++ [82], by omega, by go_num, rfl, (by have := hm.out; omega : _ = _), by simp [hL2], own3, K4, HN.out⟩
          case measure => simp [intOf]; omega
        · have h2i : ¬ (k2 : Int) < 40 := by omega
          obtain rfl : k2 = 40 := by omega
          have hm9 := hm.out
          subst hm9
          go_wp2_with (first
            | (go_at_call 14; refine (HS2.out wr K3).mono ?_; rintro e4 w4 ⟨rfl, B4⟩))
          go_ret
          exact ⟨rfl, K3.trans (Kp.of_below (S := fun k => (Value.slice ra n rc).ownBlock = some k) B4) (fun _ _ e => e)⟩
theorem pown12 (base : Nat) (ra ba wa : Option Addr) (xs : List Int) (n rc bc wc : Nat) (w : World) (hbs : base ≤ w.heap.size) (hn : Hid (xs.length = n)) (hl : n * 8 ≤ 140737488351232) (ho : w.ownsRow base 3 1 (.slice ra n rc) n (xs.map (Value.int .i64))) (hv : ∀ z ∈ xs, -9223372036854775808 ≤ z ∧ z ≤ 9223372036854775807) (hb : SegZ w ba xs) (hw : SegZ w wa xs)
    (nb : ∀ x off, ba = some ⟨x, off, none⟩ → 0 < xs.length → (Value.slice ra n rc).ownBlock ≠ some x) (nw : ∀ x off, wa = some ⟨x, off, none⟩ → 0 < xs.length → (Value.slice ra n rc).ownBlock ≠ some x) :
    Calls Try.prog 13 #[.slice ra n rc, .slice ba n bc, .slice wa n wc] w fun e w' => e = .returned (.bool true) ∧ Below base w w' :=
  (pownK12 base ra ba wa xs n rc bc wc w hbs hn hl ho hv hb hw nb nw).mono fun e w' ⟨he, hk⟩ => ⟨he, hk.below (fun k hk => (ho.lt k hk).1) hbs⟩
end Go.Proofs.Ytbgnlbgoeogbaaa
