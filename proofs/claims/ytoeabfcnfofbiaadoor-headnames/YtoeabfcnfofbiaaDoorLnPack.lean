
import Derived.Test.YtoeabfcnfofbiaaDoorLnMean
import Derived.Laws.MakeOwn
import Derived.Deep.RegionLaw
import Derived.Deep.AppendLies
namespace Go.Proofs.YtoeabfcnfofbiaaDoor
open Go.RowKit
set_option linter.unusedVariables false

theorem own_RL {w : World} {base n cap : Nat} {e : TypeId} {b : Option Addr} {L : List Im} (h : w.ownsRow base e 4 (.slice b n cap) n (flatI L)) (hl : L.length = n) : RL w b L := by
  refine ⟨fun k hk => ?_⟩
  obtain ⟨g, c, hv, _⟩ := own_shape4 h (by omega)
  simp only [Value.slice.injEq] at hv
  obtain ⟨rfl, _, rfl⟩ := hv
  have := (own_row4 h hl).it (k := k) (by omega)
  exact ⟨g, 0, rfl, by rw [Nat.zero_add]; exact this⟩
theorem own_facts4 {w : World} {base n cap : Nat} {e : TypeId} {b : Option Addr} {xs : List Value} (h : w.ownsRow base e 4 (.slice b n cap) n xs) : n ≤ cap ∧ (b = none → cap = 0) ∧ ∀ x, b = some x → base ≤ x.block := by
  rcases h.2 with ⟨h1, h2⟩ | ⟨g, cp, cur, h1, h2, h3, h4, _⟩
  · simp only [Value.slice.injEq] at h1
    obtain ⟨rfl, _, rfl⟩ := h1
    exact ⟨by omega, (fun _ => rfl), (fun x h => by cases h)⟩
  · simp only [Value.slice.injEq] at h1
    obtain ⟨rfl, _, rfl⟩ := h1
    exact ⟨h4, (fun h => by cases h), (fun x h => by cases h; exact h2)⟩
def Gw (G : Nat → Prop) (a : Option Addr) : Nat → Prop := fun k => G k ∨ ∃ o, a = some ⟨k, o, none⟩

set_option maxRecDepth 100000 in
set_option maxHeartbeats 2000000 in
theorem packed_any (a : Option Addr) (n cap d : Nat) (L : List Im) (ts : List It) (G : Nat → Prop) (w : World) (hn : Hid (L.length = n)) (hR : RL w a L) (hM : ML G w d L ts) (hG : ∀ b, G b → b < w.heap.size) (hb : ∀ t ∈ ts, t.1 ≤ 1152921504606846976) (hl : n ≤ 100000) :
    Calls Tryd.prog 110 #[.slice a n cap] w fun e w' => ∃ b c' L', e = .returned (.slice b L'.length c') ∧ L'.length = n / 2 ∧ (L'.length ≤ c' ∧ (b = none → c' = 0)) ∧ RL w' b L' ∧ ML (Gw G a) w' (d + 1) L' (pk ts) ∧ Below w.heap.size w w' := by
  obtain ⟨i0, hi, hz0, hz1, hz2⟩ := info_parts info_item
  obtain ⟨H, hH⟩ : ∃ H, H = n / 2 := ⟨_, rfl⟩
  have rH : (n : Int).tdiv 2 = (H : Int) := by rw [Int.tdiv_eq_ediv_of_nonneg (by omega)]; omega
  have HH : Hid (H = n / 2) := hH
  have hHb : H ≤ 100000 := by omega
  obtain ⟨w1, hr, own1, gr1⟩ := run_make_own (P := Tryd.prog) w w.heap.size 155 159 i0 _ 4 Tryd.underlying155 hi hz0 hz1 .i64 .i64 H (by rw [hz2]; omega) (by unfold maxLen; omega) (Nat.le_refl _)
  have B1 : Below w.heap.size w w1 := ⟨gr1.os, gr1.tape, gr1.output, gr1.size, fun i hi => gr1.block i hi (by simp)⟩
  clear hH gr1
  go_enter Tryd.func110, Tryd.ntmps110
  go_wp2_with fail
  go_loopw [3, 4] (fun to ti wr => ∃ (k c : Nat) (b : Option Addr) (P : List Im), 2 * k ≤ n ∧ ti = .int .i64 (2 * (k : Int) + 1) ∧ to = .slice b k c ∧ Hid (P.length = k) ∧ wr.ownsRow w.heap.size 159 4 (.slice b k c) k (flatI P) ∧ Below w.heap.size w wr ∧ Hid (ML (Gw G a) wr (d + 1) P (pk (ts.take (2 * k))))) (fun _ ti _ => n + 2 - (intOf ti).toNat)
  case atStart => exact ⟨0, H, _, [], by omega, by simp, rfl, (rfl : _ = _), own1, B1, (by simpa [pk] using ML.nil _ _ _ : ML _ _ _ _ _)⟩
  case round =>
    obtain ⟨k, c, b, P, hk, rfl, rfl, HPk, OR, BR, HML⟩ := hrel
    by_cases h1 : 2 * k + 1 < n
    · have h1i : 2 * (k : Int) + 1 < (n : Int) := by omega
      obtain ⟨p, hp⟩ : ∃ p, p = 2 * k := ⟨_, rfl⟩
      obtain ⟨q, hq⟩ : ∃ q, q = 2 * k + 1 := ⟨_, rfl⟩
      obtain ⟨g, off, rfl, x⟩ := hR.at_ p (by have := hn.out; omega)
      obtain ⟨g', off', e, y⟩ := hR.at_ q (by have := hn.out; omega)
      cases e
      have x2 := x.of_block (BR.block g x.lt)
      have y2 := y.of_block (BR.block g x.lt)
      have m1 := hM.mn p (by have := hn.out; omega)
      have m2 := hM.mn q (by have := hn.out; omega)
      have hlt := hM.len
      have hb1 : (ts.getD p it0).1 ≤ 1152921504606846976 := hb _ (by have := hn.out; simp [List.getD, show p < ts.length by omega])
      have hb2 : (ts.getD q it0).1 ≤ 1152921504606846976 := hb _ (by have := hn.out; simp [List.getD, show q < ts.length by omega])
      have HPK : Hid (pk (ts.take (2 * (k + 1))) = pk (ts.take (2 * k)) ++ [((ts.getD p it0).1 + (ts.getD q it0).1, (ts.getD p it0).2 ++ (ts.getD q it0).2)]) := by
        rw [hp, hq]; exact pk_snoc ts k (by have := hn.out; omega)
      generalize ts.getD p it0 = s at *
      generalize ts.getD q it0 = u at *
      generalize L.getD p im0 = X at *
      generalize L.getD q im0 = Y at *
      have e1 := m1.wt
      have e2 := m2.wt
      obtain ⟨X0, X1, X2, X3⟩ := X
      obtain ⟨Y0, Y1, Y2, Y3⟩ := Y
      simp only at e1 e2
      subst e1 e2
      have HMN : Hid (∀ W, Below w.heap.size w W → Mn (Gw G (some ⟨g, off, none⟩)) W (d + 1) ⟨((s.1 + u.1 : Nat) : Int), 0, some ⟨g, off + p * 4, none⟩, some ⟨g, off + q * 4, none⟩⟩ (s.1 + u.1, s.2 ++ u.2)) := fun W hW => by
        refine .inr ⟨g, off + p * 4, g, off + q * 4, _, _, s, u, rfl, rfl, .inr ⟨off, rfl⟩, .inr ⟨off, rfl⟩, x.of_block (hW.block g x.lt), y.of_block (hW.block g x.lt), ?_, ?_, rfl, rfl⟩
        · exact Mn.mono (fun b hb => .inl hb) _ _ _ (Mn.keep (fun b hb => hW.block b (hG b hb)) _ _ _ m1)
        · exact Mn.mono (fun b hb => .inl hb) _ _ _ (Mn.keep (fun b hb => hW.block b (hG b hb)) _ _ _ m2)
      have HKP : Hid (∀ W, Below w.heap.size w W → ML (Gw G (some ⟨g, off, none⟩)) W (d + 1) P (pk (ts.take (2 * k)))) := fun W hW => HML.out.keep (fun b hb => by
        have hlt2 : b < w.heap.size := by
          rcases hb with hb | ⟨o, e⟩
          · exact hG b hb
          · cases e; exact x.lt
        rw [hW.block b hlt2, BR.block b hlt2])
      have xc := x2.c0
      have yc := y2.c0
      simp only at xc yc
      have r1 : 2 * (k : Int) + 1 = (q : Int) := by omega
      have r2 : (q : Int) - 1 = (p : Int) := by omega
      obtain ⟨sm, hsm⟩ : ∃ sm, sm = s.1 + u.1 := ⟨_, rfl⟩
      have r3 : (s.1 : Int) + (u.1 : Int) = (sm : Int) := by omega
      have HSM : Hid (sm = s.1 + u.1) := hsm
      have HQ : Hid (q = 2 * k + 1 ∧ p = 2 * k) := ⟨hq, hp⟩
      have z1 : (p : Int) < (n : Int) := by omega
      have z2 : (q : Int) < (n : Int) := by omega
      have z3 : (0 : Int) ≤ (p : Int) := by omega
      have z4 : (0 : Int) ≤ (q : Int) := by omega
      have zs : sm ≤ 2305843009213693952 := by omega
      rw [r1]
      clear hsm hq hp x y x2 y2 m1 m2 HML h1i r1
      go_wp2_with fail
      go_region
      have OR1 : wr.drew.ownsRow w.heap.size 159 4 (.slice b k c) k (flatI P) := OR
      have BR1 : Below w.heap.size w wr.drew := BR.drew
      have xc1 : wr.drew.cell? ⟨g, off + p * 4, none⟩ = some (.int .i64 (s.1 : Int)) := xc
      have yc1 : wr.drew.cell? ⟨g, off + q * 4, none⟩ = some (.int .i64 (u.1 : Int)) := yc
      clear OR BR xc yc
      generalize wr.drew = w2 at *
      have hw2s := BR1.size
      have hwp : IntKind.i64.wrap (sm : Int) = (sm : Int) := IntWalk.i64_in _ (by omega)
      go_wp2_with fail
      go_region_law
        (refine step_append_lies _ (by rfl) _ _ _ (by rfl) w.heap.size 159 i0 _ 4 32 Tryd.underlying155 hi hz0 hz1 hz2 rfl (by omega) (.slice b k c) k (flatI P) (by rfl) ((OR1.alloc _).drew)
            ⟨w2.heap.size, 0, none⟩ 1 1 [.int .i64 (sm : Int), .int .i64 0, .pointer (some ⟨g, off + p * 4, none⟩), .pointer (some ⟨g, off + q * 4, none⟩)] (by rfl) (by rfl) (World.news_of_block (cs := #[.int .i64 (sm : Int), .int .i64 0, .pointer (some ⟨g, off + p * 4, none⟩), .pointer (some ⟨g, off + q * 4, none⟩)]) (t := 159) (fr := (0, 0)) (heap_alloc_new w2 _)) (by simp [Value.oneCell'])
            (by omega) (by unfold maxLen; omega) (by omega) (by simp; omega) (w2.heap.size + 1) (by simp) ?_; intro gg cap2 w3 hown2 hgrow hat hlt2)
      all_goals
        have BA : Below w.heap.size w (w2.alloc (.cells #[.int .i64 (sm : Int), .int .i64 0, .pointer (some ⟨g, off + p * 4, none⟩), .pointer (some ⟨g, off + q * 4, none⟩)] 159)).drew := (BR1.alloc hw2s _).drew
        have B3 : Below w.heap.size w w3 := BA.trans ((Below.refl _ _).grown hgrow BA.size (fun j hj => (OR1.lt j hj).1))
        have OR3 : w3.ownsRow w.heap.size 159 4 (.slice (some ⟨gg, 0, none⟩) (k + 1) cap2) (k + 1) (flatI (P ++ [⟨(sm : Int), 0, some ⟨g, off + p * 4, none⟩, some ⟨g, off + q * 4, none⟩⟩])) := by
          rw [flatI_app]; exact hown2
        have HM3 : Hid (ML (Gw G (some ⟨g, off, none⟩)) w3 (d + 1) (P ++ [⟨(sm : Int), 0, some ⟨g, off + p * 4, none⟩, some ⟨g, off + q * 4, none⟩⟩]) (pk (ts.take (2 * (k + 1))))) := by
          rw [HPK.out, HSM.out]
          exact (HKP.out w3 B3).app (ML.one (HMN.out w3 B3))
        have HPL : Hid ((P ++ [(⟨(sm : Int), 0, some ⟨g, off + p * 4, none⟩, some ⟨g, off + q * 4, none⟩⟩ : Im)]).length = k + 1) := by
          have h9 := HPk.out
          show _ = _
          rw [List.length_append, h9]; rfl
        clear hown2 hgrow hat hlt2 BA OR1 BR1 HKP HMN
        go_wp2
        go_roundw
        case rel => exact ⟨k + 1, cap2, some ⟨gg, 0, none⟩, P ++ [⟨(sm : Int), 0, some ⟨g, off + p * 4, none⟩, some ⟨g, off + q * 4, none⟩⟩], by omega, by have := HQ.out.1; congr 1; omega, rfl, HPL, OR3, B3, HM3⟩
        case measure => have := HQ.out.1; simp [intOf]; omega
    · have h1i : ¬ 2 * (k : Int) + 1 < (n : Int) := by omega
      have hk2 : k = n / 2 := by omega
      have HK2 : Hid (k = n / 2) := hk2
      have HPW : Hid (pk (ts.take (2 * k)) = pk ts) := pk_whole ts k (by have := hM.len; have := hn.out; omega) (by have := hM.len; have := hn.out; omega)
      clear hk2
      go_wp2
      go_ret
      have hPk := HPk.out
      have hml := HML.out
      rw [HPW.out] at hml
      exact ⟨b, c, P, by rw [hPk]; rfl, by rw [hPk]; exact HK2.out, (by have := own_facts4 OR; rw [hPk]; exact ⟨this.1, this.2.1⟩), own_RL OR hPk, hml, BR⟩
end Go.Proofs.YtoeabfcnfofbiaaDoor
