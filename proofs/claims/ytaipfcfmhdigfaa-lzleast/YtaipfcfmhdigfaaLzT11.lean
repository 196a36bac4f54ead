
import Derived.Test.YtaipfcfmhdigfaaLzT10
namespace Go.Proofs.Ytaipfcfmhdigfaa
open Go.RowKit
set_option linter.unusedVariables false

/-! The landed lz: the matches of one place; the plan. -/
theorem flatR_get : ∀ (l : List (Nat × Nat)) (k : Nat) (x : Nat × Nat), l[k]? = some x → (flatR l)[k * 2]? = some (.int .u16 (x.1 : Int)) ∧ (flatR l)[k * 2 + 1]? = some (.int .u16 (x.2 : Int))
  | [], k, x, h => by simp at h
  | t :: r, 0, x, h => by
    simp at h
    subst h
    simp [flatR]
  | t :: r, k + 1, x, h => by
    have := flatR_get r k x (by simpa using h)
    have e : flatR (t :: r) = .int .u16 (t.1 : Int) :: .int .u16 (t.2 : Int) :: flatR r := rfl
    rw [e, show (k + 1) * 2 = k * 2 + 1 + 1 by omega]
    simpa [List.getElem?_cons_succ, show k * 2 + 1 + 1 + 1 = (k * 2 + 1) + 1 + 1 by omega] using this
theorem own_facts2 {w : World} {base n cap : Nat} {e : TypeId} {b : Option Addr} {xs : List Value} (h : w.ownsRow base e 2 (.slice b n cap) n xs) : n ≤ cap ∧ (b = none → n = 0 ∧ cap = 0) ∧ ∀ x, b = some x → ∃ g, x = ⟨g, 0, none⟩ ∧ base ≤ g ∧ g < w.heap.size := by
  rcases h.2 with ⟨h1, h2⟩ | ⟨g, cp, cur, h1, h2, h3, h4, _⟩
  · simp only [Value.slice.injEq] at h1
    obtain ⟨rfl, _, rfl⟩ := h1
    exact ⟨by omega, (fun _ => ⟨h2, rfl⟩), (fun x h => by cases h)⟩
  · simp only [Value.slice.injEq] at h1
    obtain ⟨rfl, _, rfl⟩ := h1
    exact ⟨h4, (fun h => by cases h), (fun x h => by cases h; exact ⟨g, rfl, h2, (Array.getElem?_eq_some_iff.1 h3).1⟩)⟩
theorem own_segR {w : World} {base n cap : Nat} {e : TypeId} {b : Option Addr} {l : List (Nat × Nat)} (h : w.ownsRow base e 2 (.slice b n cap) n (flatR l)) (hl : l.length = n) : SegR w b l := by
  refine ⟨fun k hk => ?_⟩
  rcases h.2 with ⟨_, h0⟩ | ⟨g, cp, cur, hv, _⟩
  · omega
  simp only [Value.slice.injEq] at hv
  obtain ⟨rfl, _, rfl⟩ := hv
  have hc : ∀ j u, (flatR l)[j]? = some u → w.cell? ⟨g, j, none⟩ = some u := by
    intro j u hu
    have := h.cells (g := g) rfl j u hu
    have hadd : (⟨g, 0, none⟩ : Addr).add j = ⟨g, j, none⟩ := by unfold Addr.add; split <;> simp_all
    rwa [hadd] at this
  have hg : l[k]? = some (l.getD k (0, 0)) := by simp [List.getD, show k < l.length by omega]
  obtain ⟨q0, q1⟩ := flatR_get l k _ hg
  exact ⟨g, 0, rfl, by rw [Nat.zero_add]; exact hc _ _ q0, by rw [Nat.zero_add]; exact hc _ _ q1⟩
theorem rcs7_split (D : List Int) (W : Nat) : ∀ (n p : Nat), p < n → ∃ r, rcs7 D W n = rcs7 D W p ++ (rec7 D p W ++ r)
  | 0, p, h => by omega
  | n + 1, p, h => by
    by_cases e : p = n
    · subst e; exact ⟨[], by rw [rcs7, List.append_nil]⟩
    · obtain ⟨r, hr⟩ := rcs7_split D W n p (by omega)
      exact ⟨r ++ rec7 D n W, by rw [rcs7, hr, List.append_assoc, List.append_assoc]⟩
theorem SegR.sub {w : World} {b : Nat} {L1 L2 L3 : List (Nat × Nat)} (h : SegR w (some ⟨b, 0, none⟩) (L1 ++ (L2 ++ L3))) : SegR w (some ⟨b, L1.length * 2, none⟩) L2 := by
  refine ⟨fun i hi => ?_⟩
  obtain ⟨b', o', e, c0, c1⟩ := h.at_ (L1.length + i) (by simp; omega)
  cases e
  have hg : (L1 ++ (L2 ++ L3)).getD (L1.length + i) (0, 0) = L2.getD i (0, 0) := by
    simp [List.getD, List.getElem?_append, hi, show ¬ L1.length + i < L1.length by omega]
  rw [hg] at c0 c1
  refine ⟨b, L1.length * 2, rfl, ?_, ?_⟩
  · rw [show L1.length * 2 + i * 2 = 0 + (L1.length + i) * 2 by omega]; exact c0
  · rw [show L1.length * 2 + i * 2 + 1 = 0 + (L1.length + i) * 2 + 1 by omega]; exact c1
set_option maxRecDepth 100000 in
set_option maxHeartbeats 2000000 in
theorem pat7 (D : List Int) (W n p : Nat) (la : Option Addr) (ln lc eg : Nat) (w : World) (hown : SegR w la (rcs7 D W n)) (hlen : (rcs7 D W n).length = ln) (hcap : ln ≤ lc) (hnil : la = none → ln = 0 ∧ lc = 0) (hoff : ∀ x, la = some x → ∃ g, x = ⟨g, 0, none⟩) (hen : RowI w eg n (ends7 D W n)) (hp : p < n) (hl : n ≤ 1048576) :
    Calls Try.prog 50 #[.agg #[.slice la ln lc, .slice (some ⟨eg, 0, none⟩) n n], .int .i64 (p : Int)] w fun e w' => ∃ ma mc, e = .returned (.slice ma (rec7 D p W).length mc) ∧ SegR w' ma (rec7 D p W) ∧ Below w.heap.size w w' := by
  obtain ⟨r, hr⟩ := rcs7_split D W n p hp
  have e1 := hen.at_ p hp
  have hE1 : ends7 D W n p = ((rcs7 D W p).length : Int) + ((rec7 D p W).length : Int) := by unfold ends7; rw [if_pos hp, rcs7, List.length_append]; omega
  have hlb := rcs7_len D W n
  have hsum : (rcs7 D W p).length + (rec7 D p W).length ≤ ln := by rw [← hlen, hr, List.length_append, List.length_append]; omega
  rw [hE1] at e1
  have e0 : 0 < p → w.cell? ⟨eg, p - 1, none⟩ = some (.int .i64 ((rcs7 D W p).length : Int)) := fun h0 => by
    have := hen.at_ (p - 1) (by omega)
    unfold ends7 at this
    rw [if_pos (by omega), show p - 1 + 1 = p by omega] at this
    exact this
  have hz : p = 0 → (rcs7 D W p).length = 0 := fun h => by rw [h]; rfl
  have hegl := World.block_lt_of_cell? w _ e1
  have HSUB : Hid (∀ b, la = some ⟨b, 0, none⟩ → SegR w (some ⟨b, (rcs7 D W p).length * 2, none⟩) (rec7 D p W)) := fun b hb => by
    rw [hb, hr] at hown
    exact hown.sub
  generalize (rcs7 D W p).length = f at *
  obtain ⟨q, hq⟩ : ∃ q, q = (rec7 D p W).length := ⟨_, rfl⟩
  rw [← hq] at e1 hsum ⊢
  have HQ : Hid (q = (rec7 D p W).length) := hq
  obtain ⟨h, hh⟩ : ∃ h, h = f + q := ⟨_, rfl⟩
  have hhi : (f : Int) + (q : Int) = (h : Int) := by omega
  rw [hhi] at e1
  have hfh : (f : Int) ≤ (h : Int) := by omega
  have hhc : (h : Int) ≤ (lc : Int) := by omega
  have hpn : (p : Int) < (n : Int) := by omega
  have hsubl : h - f = q := by omega
  have hf0 : (0 : Int) ≤ (f : Int) := by omega
  have hh0 : (0 : Int) ≤ (h : Int) := by omega
  have HNIL : Hid (q = 0 → SegR w la (rec7 D p W)) := fun h => ⟨fun i hi => by rw [← hq, h] at hi; omega⟩
  have HBX : Hid (∀ k, Below w.heap.size w ((w.alloc (.cells #[.slice la ln lc, .slice (some ⟨eg, 0, none⟩) n n] 101)).drewN k)) := fun k => by
    have b1 : Below w.heap.size w (w.alloc (.cells #[.slice la ln lc, .slice (some ⟨eg, 0, none⟩) n n] 101)) := below_box _ _
    exact ⟨b1.os, b1.tape, b1.output, b1.size, b1.block⟩
  cases la with
  | none =>
    obtain ⟨rfl, rfl⟩ := hnil rfl
    have hf : f = 0 := by omega
    have hq0 : q = 0 := by omega
    subst hf
    subst hq0
    obtain rfl : h = 0 := by omega
    have HR : Hid (SegR w none (rec7 D p W)) := HNIL.out rfl
    by_cases hp0 : 0 < p
    · have hp0i : (0 : Int) < (p : Int) := by omega
      have e2 := e0 hp0
      have hwp : IntKind.i64.wrap ((p : Int) - 1) = ((p - 1 : Nat) : Int) := by rw [IntWalk.i64_in _ (by omega)]; omega
      obtain ⟨p1, hp1⟩ : ∃ p1, p1 = p - 1 := ⟨_, rfl⟩
      rw [← hp1] at hwp e2
      have hp1n : (p1 : Int) < (n : Int) := by omega
      have hp1i : (p : Int) - 1 = (p1 : Int) := by omega
      clear e0 hp1 hq hh hown hlen hr hoff hen hz hlb
      go_enter Try.func50, Try.ntmps50
      go_wp2_with fail
      go_quiet (fail)
      go_wp2
      go_ret
      exact ⟨none, 0, rfl, HR.out.old (HBX.out _), HBX.out _⟩
    · have hp0i : ¬ (0 : Int) < (p : Int) := by omega
      clear e0 hq hh hown hlen hr hoff hen hz hlb
      go_enter Try.func50, Try.ntmps50
      go_wp2_with fail
      go_quiet (fail)
      go_wp2
      go_ret
      exact ⟨none, 0, rfl, HR.out.old (HBX.out _), HBX.out _⟩
  | some x =>
    obtain ⟨lg, rfl⟩ := hoff _ rfl
    have HS2 : Hid (SegR w (some ⟨lg, f * 2, none⟩) (rec7 D p W)) := HSUB.out lg rfl
    by_cases hcf : lc = f
    · subst hcf
      obtain rfl : h = lc := by omega
      obtain rfl : q = 0 := by omega
      have HR : Hid (SegR w (some ⟨lg, 0, none⟩) (rec7 D p W)) := HNIL.out rfl
      by_cases hp0 : 0 < p
      · skip
        have hp0i : (0 : Int) < (p : Int) := by omega
        have e2 := e0 hp0
        have hwp : IntKind.i64.wrap ((p : Int) - 1) = ((p - 1 : Nat) : Int) := by rw [IntWalk.i64_in _ (by omega)]; omega
        obtain ⟨p1, hp1⟩ : ∃ p1, p1 = p - 1 := ⟨_, rfl⟩
        rw [← hp1] at hwp e2
        have hp1n : (p1 : Int) < (n : Int) := by omega
        have hp1i : (p : Int) - 1 = (p1 : Int) := by omega
        clear e0 hp1 hq hh hown hlen hr hoff hen hz hlb
        go_enter Try.func50, Try.ntmps50
        go_wp2_with fail
        go_quiet (fail)
        go_wp2
        go_ret
        exact ⟨some ⟨lg, 0, none⟩, 0, by simp, HR.out.old (HBX.out _), HBX.out _⟩
      · have hlc0 : h = 0 := hz (by omega)
        subst hlc0
        have hp0i : ¬ (0 : Int) < (p : Int) := by omega
        clear e0 hq hh hown hlen hr hoff hen hz hlb
        go_enter Try.func50, Try.ntmps50
        go_wp2_with fail
        go_quiet (fail)
        go_wp2
        go_ret
        exact ⟨some ⟨lg, 0, none⟩, 0, by simp, HR.out.old (HBX.out _), HBX.out _⟩
    · by_cases hp0 : 0 < p
      · skip
        have hp0i : (0 : Int) < (p : Int) := by omega
        have e2 := e0 hp0
        have hwp : IntKind.i64.wrap ((p : Int) - 1) = ((p - 1 : Nat) : Int) := by rw [IntWalk.i64_in _ (by omega)]; omega
        obtain ⟨p1, hp1⟩ : ∃ p1, p1 = p - 1 := ⟨_, rfl⟩
        rw [← hp1] at hwp e2
        have hp1n : (p1 : Int) < (n : Int) := by omega
        have hp1i : (p : Int) - 1 = (p1 : Int) := by omega
        clear e0 hp1 hq hh hown hlen hr hoff hen hz hlb
        go_enter Try.func50, Try.ntmps50
        go_wp2_with fail
        go_quiet (fail)
        go_wp2
        go_ret
        exact ⟨some ⟨lg, f * 2, none⟩, lc - f, by simp, HS2.out.old (HBX.out _), HBX.out _⟩
      · obtain rfl : f = 0 := hz (by omega)
        obtain rfl : h = q := by omega
        have HS3 : Hid (SegR w (some ⟨lg, 0, none⟩) (rec7 D p W)) := by
          have := HS2.out
          show SegR w (some ⟨lg, 0, none⟩) (rec7 D p W)
          simpa using this
        have hp0i : ¬ (0 : Int) < (p : Int) := by omega
        clear e0 hq hh hown hlen hr hoff hen hz hlb
        go_enter Try.func50, Try.ntmps50
        go_wp2_with fail
        go_quiet (fail)
        go_wp2
        go_ret
        exact ⟨some ⟨lg, 0, none⟩, lc, by simp, HS3.out.old (HBX.out _), HBX.out _⟩
end Go.Proofs.Ytaipfcfmhdigfaa
