import Derived.Test.YthefcmhmcgjcoaaPjb
import Derived.Test.YthefcmhmcgjcoaaFlV

namespace Go.Proofs.Ythefcmhmcgjcoaa
open Go.RowKit Go.Shelf
set_option linter.unusedVariables false
set_option linter.unusedSimpArgs false

/-! PageRuns: the two logs. -/
theorem ops22d {w : World} {N n rc : Nat} {ra : Option Addr} {L : List (Int × Int × Int)} (h : w.ownsRow N 110 3 (.slice ra n rc) n (lgc21 L)) (hn : L.length = n) {i : Nat} (hi : i < n) :
    ∃ (g : Nat) (o : Int × Int × Int), L[i]? = some o ∧ ra = some ⟨g, 0, none⟩ ∧ g < w.heap.size ∧ w.cell? ⟨g, i * 3, none⟩ = some (.int .i64 o.1) ∧ w.cell? ⟨g, i * 3 + 1, none⟩ = some (.int .i64 o.2.1) ∧ w.cell? ⟨g, i * 3 + 2, none⟩ = some (.int .i64 o.2.2) := by
  obtain ⟨o, ho⟩ : ∃ o, L[i]? = some o := ⟨_, List.getElem?_eq_getElem (by omega)⟩
  rcases h.2 with ⟨h1, h2⟩ | ⟨g, cp, cu, h1, h2, h3, h4⟩
  · omega
  · simp only [Value.slice.injEq] at h1
    obtain ⟨rfl, -, rfl⟩ := h1
    obtain ⟨e1, e2, e3⟩ := lgc21_get L i o ho
    have hadd : ∀ j, (⟨g, 0, none⟩ : Addr).add j = ⟨g, j, none⟩ := fun j => by unfold Addr.add; split <;> simp_all
    have c1 := h.cells (g := g) rfl _ _ e1
    have c2 := h.cells (g := g) rfl _ _ e2
    have c3 := h.cells (g := g) rfl _ _ e3
    rw [hadd] at c1 c2 c3
    exact ⟨g, o, ho, rfl, (Array.getElem?_eq_some_iff.1 h3).1, c1, c2, c3⟩
set_option maxRecDepth 100000 in
set_option maxHeartbeats 8000000 in
theorem pslog22 {w : World} {f b : Nat} {F G : Nat → Prop} {S S2 : Fs21} (hF : Fl21 w f F S) (hO : Ok21 S) (hG : Rl21d w b G S2) (hlg : S2.lg = S.lg) (hb : S.lg.length ≤ 4398046511104) :
    Calls Try.prog 32 #[.pointer (some ⟨f, 0, none⟩), .pointer (some ⟨b, 0, none⟩)] w fun e w' => e = .returned (.bool true) ∧ Below w.heap.size w w' := by
  have hLG := plog21 hF hO hb
  obtain ⟨g, c, A, tn, ta, tc, la, lc, V, q, _⟩ := hG
  have c6 : w.cell? ⟨b, 6, none⟩ = some (.slice la S2.lg.length lc) := q.cel rfl
  have hl := q.hl
  have hbl := q.bl
  rw [hlg] at c6 hl
  obtain ⟨L, hL⟩ : ∃ L, L = S.lg := ⟨_, rfl⟩
  rw [← hL] at hLG c6 hl hb
  obtain ⟨n, hn⟩ : ∃ n, n = L.length := ⟨_, rfl⟩
  rw [← hn] at hLG c6 hl hb
  have HN : Hid (L.length = n) := hn.symm
  have HL : Hid (w.ownsRow 0 110 3 (.slice la n lc) n (lgc21 L)) := hl
  have HC : Hid (∀ W : World, Below w.heap.size w W → W.cell? ⟨b, 6, none⟩ = some (.slice la n lc)) := fun W hW => (hW.cell (p := ⟨b, 6, none⟩) hbl).trans c6
  clear hF hO q hlg hL hn hl c6 hbl
  go_enter Try.func32, Try.ntmps32
  go_wp2_with fail
  refine hLG.mono ?_
  rintro e w1 ⟨⟨ra, rc, rfl, hr⟩, b1⟩
  have HR : Hid (w1.ownsRow w.heap.size 50 3 (.slice ra n rc) n (lgc21 L) ∧ Below w.heap.size w w1) := ⟨hr, b1⟩
  clear hLG hr b1
  go_wp2_with fail
  go_loopw [6] (fun ti wr => ∃ i : Nat, i ≤ n ∧ ti = .int .i64 (i : Int) ∧ Below w1.heap.size w1 wr) (fun ti _ => n - (intOf ti).toNat)
  case atStart => exact ⟨0, by omega, rfl, Below.refl _ _⟩
  case round =>
    obtain ⟨i, hi, rfl, hB⟩ := hrel
    have HB : Hid (Below w1.heap.size w1 wr ∧ Below w.heap.size w wr) := ⟨hB, HR.out.2.trans (hB.mono HR.out.2.size)⟩
    have g6 := HC.out wr HB.out.2
    clear hB
    by_cases hlt : i < n
    · have hii : (i : Int) < (n : Int) := by omega
      have hiw : IntKind.i64.wrap ((i : Int) + 1) = ((i + 1 : Nat) : Int) := by rw [IntWalk.i64_in _ (by omega)]; omega
      obtain ⟨g, o, ho, hra, hg, a1, a2, a3⟩ := ops22 HR.out.1 HN.out hlt
      obtain ⟨g', o', ho', hrb, hg', b1, b2, b3⟩ := ops22d HL.out HN.out hlt
      rw [ho] at ho'
      cases ho'
      have c1 : wr.drew.cell? ⟨g, i * 3, none⟩ = some (.int .i64 o.1) := (HB.out.1.cell (p := ⟨g, i * 3, none⟩) hg).trans a1
      have c2 : wr.drew.cell? ⟨g, i * 3 + 1, none⟩ = some (.int .i64 o.2.1) := (HB.out.1.cell (p := ⟨g, i * 3 + 1, none⟩) hg).trans a2
      have c3 : wr.drew.cell? ⟨g, i * 3 + 2, none⟩ = some (.int .i64 o.2.2) := (HB.out.1.cell (p := ⟨g, i * 3 + 2, none⟩) hg).trans a3
      have d1 : wr.drew.cell? ⟨g', i * 3, none⟩ = some (.int .i64 o.1) := (HB.out.2.cell (p := ⟨g', i * 3, none⟩) hg').trans b1
      have d2 : wr.drew.cell? ⟨g', i * 3 + 1, none⟩ = some (.int .i64 o.2.1) := (HB.out.2.cell (p := ⟨g', i * 3 + 1, none⟩) hg').trans b2
      have d3 : wr.drew.cell? ⟨g', i * 3 + 2, none⟩ = some (.int .i64 o.2.2) := (HB.out.2.cell (p := ⟨g', i * 3 + 2, none⟩) hg').trans b3
      have h6 : wr.drew.cell? ⟨b, 6, none⟩ = some (.slice la n lc) := g6
      obtain ⟨o1, o2, o3⟩ := o
      simp only at c1 c2 c3 d1 d2 d3
      subst hra
      subst hrb
      clear a1 a2 a3 b1 b2 b3 ho
      go_wp2_with fail
      refine still_all22c (by kernel_rfl) (by kernel_rfl) ?_
      repeat still_step
      refine wpStill_nil ?_
      go_wp2_with fail
      go_roundw
      case rel => exact ⟨i + 1, by omega, by go_num, HB.out.1.drew⟩
      case measure => simp [intOf]; omega
    · obtain rfl : i = n := by omega
      have hii : ¬ (i : Int) < (i : Int) := by omega
      go_wp2_with fail
      go_ret
      exact ⟨rfl, HB.out.2⟩
end Go.Proofs.Ythefcmhmcgjcoaa
