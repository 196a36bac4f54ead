import Derived.Test.YteboaolflecibaaDoorProg
import Derived.Test.YteboaolflecibaaDoorOwnMath
import Derived.WalkKit
import Derived.WalkSpells
import Derived.WalkLawsBesides
namespace Go.Proofs.YteboaolflecibaaDoor
open Go.RowKit
set_option linter.unusedVariables false
theorem info_sl : (Tryd.prog.info? 28).map (fun i => (i.zero, i.size, i.bytes)) = some (some (.slice none 0 0), 1, 24) := by kernel_rfl
theorem info_u8o : (Tryd.prog.info? 5).map (fun i => (i.zero, i.size, i.bytes)) = some (some (.int .u8 0), 1, 1) := by kernel_rfl

set_option maxRecDepth 100000 in
set_option maxHeartbeats 2000000 in
theorem own_any (base bl n cap : Nat) (vs : Nat → Value) (ys : Nat → List Int) (w : World) (hn0 : 0 < n) (hn : n ≤ 1000) (hrv : ∀ i, i < n → Row 5 w base (vs i) (ys i))
    (hvv : ∀ i j, i < n → j < n → i ≠ j → Ap (vs i).ownBlock (vs j).ownBlock) (hsl : Slots 28 w bl n vs) (hnv : ∀ i k, i < n → (vs i).ownBlock = some k → k ≠ bl) (hlen : ∀ i, i < n → (ys i).length ≤ 70368744177664) (hbs : base ≤ w.heap.size) :
    Calls Tryd.prog 16 #[.slice (some ⟨bl, 0, none⟩) n cap] w fun e w' => e = .returned (.bool true) ∧ Below base w w' := by
  obtain ⟨i0, hi, hz0, hz1, hz2⟩ := info_parts info_u8o
  obtain ⟨j0, hj, hy0, hy1, hy2⟩ := info_parts info_sl
  go_enter Tryd.func16, Tryd.ntmps16
  go_wp2_with (at_make; refine wpList_make_full _ rfl _ _ 100 rfl w.heap.size 28 j0 (.slice none 0 0) 1 Tryd.underlying100 hj hy0 hy1 .i64 .i64 _ _ n rfl rfl rfl rfl (by rw [hy2]; omega) (by unfold maxLen; omega) (Nat.le_refl _) ?_; intro w1 hown1 hgrow1)
  rw [Nat.mul_one, show (Value.slice none 0 0).cells = #[.slice none 0 0] from rfl, toList_madeCells_one] at hown1
  have hG := slots_made hown1 hn0
  have hb1 : Below base w w1 := (Below.refl _ _).grown hgrow1 hbs (by intro k e; cases e)
  have hos : OS 5 28 w1 base bl w.heap.size n vs (fun _ => .slice none 0 0) ys (fun _ => []) := by
    refine ⟨fun i hi => (hrv i hi).kept hgrow1 ?_, fun i hi => World.ownsRow_nil _ _ _ _, hvv, fun i j _ _ _ => Ap.none _, fun i j _ _ _ => Ap.none _, hsl.grown hgrow1 (by simp), hG, fun i k hi hk => ⟨hnv i k hi hk, ?_⟩, (fun i k _ hk => by cases hk), ?_, hbs, Nat.le_trans hbs hgrow1.size⟩
    · cases (vs i).ownBlock <;> simp
    · have := ((hrv i hi).lt k hk).2; omega
    · have := hsl.lt; omega
  clear hown1 hG hrv hsl
  generalize w.heap.size = G at *
  go_loopw [19] (fun i wr => ∃ k : Nat, k ≤ n ∧ i = .int .i64 k ∧ OS 5 28 wr base bl G n vs (fun _ => .slice none 0 0) (markF k ys) (fun _ => []) ∧ Below base w wr) (fun i _ => n - (intOf i).toNat)
  case atStart => exact ⟨0, Nat.zero_le _, rfl, by rw [markF_zero]; exact hos, hb1⟩
  case round =>
    obtain ⟨k, hk, rfl, hst, hb⟩ := hrel
    by_cases hlt : k < n
    · have hlti : (k : Int) < (n : Int) := by omega
      have hc := hst.sl.cell k hlt
      obtain ⟨a, cp, hv, hcp, hat⟩ := row_shape (hst.rv k hlt)
      have hln := hlen k hlt
      have hm : markF k ys k = ys k := by simp [markF]
      rw [hm] at hv hcp hat
      rw [hv] at hc
      obtain ⟨wo, rfl⟩ : ∃ wo : World, wo = wr := ⟨_, rfl⟩
      clear hat
      have HV : Hid (vs k = .slice a (ys k).length cp) := hv
      clear hv hm hos hb1 hgrow1
      go_wp2
      go_loopw [26] (fun t wr => ∃ j : Nat, j ≤ (ys k).length ∧ t = .int .i64 j ∧ OS 5 28 wr base bl G n vs (fun _ => .slice none 0 0) (pmF k j ys) (fun _ => []) ∧ Below base w wr) (fun t _ => (ys k).length - (intOf t).toNat)
      case atStart => exact ⟨0, Nat.zero_le _, rfl, by rw [pmF_zero]; exact hst, hb⟩
      case round =>
        obtain ⟨j, hj2, rfl, hst2, hb2⟩ := hrel
        by_cases hjl : j < (ys k).length
        · have hr := hst2.rv k hlt
          have hl2 := pmF_len k j ys hj2
          rw [HV.out] at hr
          obtain ⟨g, rfl, hcl, hfz⟩ := row_at hr j (by omega)
          have hmk := hst2.mark k j g cp _ (((k : Int) + 7 * (j : Int)) % 256) hlt HV.out hjl (fun _ _ => rfl)
          rw [pmF_step k j ys hjl] at hmk
          have hji : (j : Int) < ((ys k).length : Int) := by omega
          clear hr hst2 hst hlen hc hvv hnv
          go_wp2
          go_roundw
          case rel => exact ⟨j + 1, by omega, by go_num, hmk.1, hb2.trans hmk.2⟩
          case measure => simp [intOf]; omega
        · obtain rfl : j = (ys k).length := by omega
          rw [pmF_end] at hst2
          clear hjl hst hc
          go_wp2
          go_roundw
          case rel => exact ⟨k + 1, by omega, by go_num, hst2, hb2⟩
          case measure => simp [intOf]; omega
    · obtain rfl : n = k := by omega
      clear hlt hk hos hb1 hgrow1 hnv hvv
      have hml : Hid (∀ i, (markF n ys i).length = (ys i).length) := fun i => markF_len n i ys
      go_wp2
      have HM : Hid (∀ i, i < n → markF n ys i = markL i (ys i).length) := fun i hi => markF_at n i ys hi
      generalize markF n ys = mk at *
      obtain ⟨wp, rfl⟩ : ∃ wp : World, wp = wr := ⟨_, rfl⟩
      go_loopw [41] (fun t wr => ∃ (k : Nat) (gs : Nat → Value) (zs : Nat → List Int), k ≤ n ∧ t = .int .i64 k ∧ OS 5 28 wr base bl G n vs gs mk zs ∧ Below base w wr ∧ (∀ i, i < k → zs i = mk i ++ tailL i 24)) (fun t _ => n - (intOf t).toNat)
      case atStart => exact ⟨0, _, _, Nat.zero_le _, rfl, hst, hb, fun i hi => by omega⟩
      case round =>
        clear hst hb
        obtain ⟨k, gs, zs, hk, rfl, hst, hb, hzs⟩ := hrel
        by_cases hlt : k < n
        · have hlti : (k : Int) < (n : Int) := by omega
          have hln := hlen k hlt
          have hc := hst.sl.cell k hlt
          have hcg := hst.sg.cell k hlt
          have hfg := hst.sg.free k
          have hss := hst.start k hlt
          have hsh := Shares.self (hst.rv k hlt)
          obtain ⟨a, cp, hv, hcp, _⟩ := row_shape (hst.rv k hlt)
          rw [hml.out k] at hv hcp
          rw [hv] at hc
          have HV : Hid (vs k = .slice a (ys k).length cp) := hv
          rw [hv] at hss
          obtain ⟨u, hu⟩ : ∃ u, u = gs k := ⟨_, rfl⟩
          rw [← hu] at hcg
          clear hu hv hst
          obtain ⟨wo, rfl⟩ : ∃ wo : World, wo = wr := ⟨_, rfl⟩
          have hsh0 : Shares (.slice a (ys k).length cp) (.slice a (ys k).length cp) (mk k) (mk k) := by rw [← HV.out]; exact hsh
          clear hsh
          go_wp2
          go_loopw [9] (fun t wr => ∃ (j : Nat) (gs : Nat → Value) (zs : Nat → List Int), j ≤ 24 ∧ t = .int .i64 j ∧ OS 5 28 wr base bl G n vs gs mk zs ∧ Below base w wr ∧ (∀ i, i < k → zs i = mk i ++ tailL i 24) ∧ zs k = mk k ++ tailL k j ∧ Shares (vs k) (gs k) (mk k) (zs k)) (fun t _ => 24 - (intOf t).toNat)
          case atStart => exact ⟨0, _, _, by omega, rfl, hss.1, hb.trans hss.2, fun i hi => by rw [upd_ne _ _ _ _ (by omega)]; exact hzs i hi, by rw [upd_at]; simp [tailL], by rw [upd_at, upd_at, HV.out]; exact hsh0⟩
          case round =>
            clear hss hb hzs hsh0 hc hcg hfg
            obtain ⟨j, gs, zs, hj2, rfl, hst, hb, hzs, hzk, hsh⟩ := hrel
            by_cases hjl : j < 24
            · have hcg := hst.sg.cell k hlt
              have hrg := hst.rg k hlt
              obtain ⟨ga, gc, hgv, _, _⟩ := row_shape hrg
              have hzl : (zs k).length = (ys k).length + j := by rw [hzk]; simp [tailL_len, hml.out]
              have HZ : Hid (zs k = mk k ++ tailL k j) := hzk
              have HL : Hid ((zs k).length = (ys k).length + j) := hzl
              rw [hgv] at hcg
              have HG : Hid (gs k = .slice ga (zs k).length gc) := hgv
              have hszr := hst.bs
              have hrow : wr.ownsRow base 5 1 (.slice ga (zs k).length gc) (zs k).length ((zs k).map (Value.int .u8)) := by rw [← hgv]; exact hrg
              have hGne : some G ≠ (Value.slice ga (zs k).length gc).ownBlock := by rw [← hgv]; intro e; exact (hst.ng k G hlt e.symm).2 rfl
              have HGrow : Hid (∀ (w2 : World), wr.grownBy w2 (Value.slice ga (zs k).length gc).ownBlock → Slots 28 w2 G n gs) := fun w2 hg => hst.sg.grown hg hGne
              clear hzk hzl hgv hrg
              go_wp2_with (at_builtin; refine wpList_push_st rfl _ _ 28 rfl base 5 i0 (.int .u8 0) 1 Tryd.underlying28 hi hz0 hz1 hz2 rfl wr (.int .u8 (((k : Int) + 131 + 3 * (j : Int)) % 256)) rfl hrow rfl rfl (by rw [HL.out]; omega) (by rw [HL.out]; omega) hszr ?_; intro g2 c2 w2 p1 p2 p3 p4; have hcg2 := (HGrow.out w2 p2).cell k hlt; have hfg2 := (HGrow.out w2 p2).free k; rw [HG.out] at hcg2)
              have hps := hst.push k hlt (((k : Int) + 131 + 3 * (j : Int)) % 256) g2 c2 w2 hsh p1 (by rw [HG.out]; exact p2) (by rw [HG.out]; exact p3) (by rw [HG.out]; exact p4)
              go_roundw
              case rel => exact ⟨j + 1, _, _, by omega, by go_num, hps.1, hb.trans hps.2.1, fun i hi => by rw [upd_ne _ _ _ _ (by omega)]; exact hzs i hi, by rw [upd_at, HZ.out, tailL_succ, List.append_assoc], by rw [upd_at, upd_at]; exact hps.2.2⟩
              case measure => simp [intOf]; omega
            · obtain rfl : j = 24 := by omega
              clear hjl hsh
              go_wp2
              go_roundw
              case rel => exact ⟨k + 1, gs, zs, by omega, by go_num, hst, hb, fun i hi => by
                by_cases e : i = k
                · subst e; exact hzk
                · exact hzs i (by omega)⟩
              case measure => simp [intOf]; omega
        · obtain rfl : n = k := by omega
          clear hlt hk
          go_wp2
          go_loop [72] (fun t => ∃ k : Nat, k ≤ n ∧ t = .int .i64 k) (fun t => n - (intOf t).toNat)
          case atStart => exact ⟨0, Nat.zero_le _, rfl⟩
          case round =>
            obtain ⟨k, hk, rfl⟩ := hrel
            by_cases hlt : k < n
            · have hlti : (k : Int) < (n : Int) := by omega
              have hln := hlen k hlt
              have hc := hst.sl.cell k hlt
              have hcg := hst.sg.cell k hlt
              have hrv := hst.rv k hlt
              have hrg := hst.rg k hlt
              obtain ⟨a, cp, hv, hcp, _⟩ := row_shape hrv
              obtain ⟨ga, gc, hgv, hgc, _⟩ := row_shape hrg
              have hzl : (zs k).length = (ys k).length + 24 := by rw [hzs k hlt]; simp [tailL_len, hml.out]
              rw [hml.out k] at hv hcp
              rw [hzl] at hgv hgc
              rw [hv] at hc hrv
              rw [hgv] at hcg hrg
              have HB : Hid (∀ j, j < (ys k).length → ∃ g, a = some ⟨g, 0, none⟩ ∧ wr.cell? ⟨g, j, none⟩ = some (.int .u8 (((k : Int) + 7 * (j : Int)) % 256))) := by
                intro j hj
                obtain ⟨g, h1, h2, _⟩ := row_at hrv j (by rw [hml.out]; exact hj)
                rw [HM.out k hlt, markL_get _ _ _ hj] at h2
                exact ⟨g, h1, h2⟩
              have HT : Hid (∀ j, j < 24 → ∃ g, ga = some ⟨g, 0, none⟩ ∧ wr.cell? ⟨g, (ys k).length + j, none⟩ = some (.int .u8 (((k : Int) + 131 + 3 * (j : Int)) % 256))) := by
                intro j hj
                obtain ⟨g, h1, h2, _⟩ := row_at hrg ((ys k).length + j) (by omega)
                rw [hzs k hlt] at h2
                have e : (mk k ++ tailL k 24).getD ((ys k).length + j) 0 = ((k : Int) + 131 + 3 * (j : Int)) % 256 := by
                  have hmk := hml.out k
                  rw [List.getD, List.getElem?_append_right (by omega), show (ys k).length + j - (mk k).length = j by omega]
                  exact tailL_get k 24 j hj
                rw [e] at h2
                exact ⟨g, h1, h2⟩
              clear hrv hrg hv hgv hzl
              go_wp2
              go_loop [79] (fun t => ∃ j : Nat, j ≤ (ys k).length ∧ t = .int .i64 j) (fun t => (ys k).length - (intOf t).toNat)
              case atStart => exact ⟨0, Nat.zero_le _, rfl⟩
              case round =>
                obtain ⟨j, hj2, rfl⟩ := hrel
                by_cases hjl : j < (ys k).length
                · have hji : (j : Int) < ((ys k).length : Int) := by omega
                  obtain ⟨g, rfl, hcl⟩ := HB.out j hjl
                  go_wp2
                  go_round
                  case rel => exact ⟨j + 1, by omega, by go_num⟩
                  case measure => simp [intOf]; omega
                · obtain rfl : j = (ys k).length := by omega
                  clear hjl hj2
                  go_wp2
                  go_loop [13] (fun t => ∃ j : Nat, j ≤ 24 ∧ t = .int .i64 j) (fun t => 24 - (intOf t).toNat)
                  case atStart => exact ⟨0, by omega, rfl⟩
                  case round =>
                    obtain ⟨j, hj2, rfl⟩ := hrel
                    by_cases hjl : j < 24
                    · obtain ⟨g, rfl, hcl⟩ := HT.out j hjl
                      have hji : ((ys k).length : Int) + (j : Int) < ((ys k).length : Int) + 24 := by omega
                      go_wp2
                      go_round
                      case rel => exact ⟨j + 1, by omega, by go_num⟩
                      case measure => simp [intOf]; omega
                    · obtain rfl : j = 24 := by omega
                      go_wp2
                      go_round
                      case rel => exact ⟨k + 1, by omega, by go_num⟩
                      case measure => simp [intOf]; omega
            · obtain rfl : n = k := by omega
              clear hlt hk
              go_wp2
              go_ret
              exact ⟨rfl, hb⟩
end Go.Proofs.YteboaolflecibaaDoor
