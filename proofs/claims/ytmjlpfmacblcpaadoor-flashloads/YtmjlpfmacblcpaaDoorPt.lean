import Derived.Test.YtmjlpfmacblcpaaDoorProg
import Derived.Test.YtmjlpfmacblcpaaDoorPs
import Derived.WalkKit
import Derived.WalkSpells
import Derived.WalkLawsBesides
import Derived.Test.YtmjlpfmacblcpaaDoorPa
import Derived.ArgAppend
import Derived.ProofKit
import Derived.OpenShut
import Derived.SizedLaws
namespace Go.Proofs.YtmjlpfmacblcpaaDoor
open Go.RowKit
set_option linter.unusedVariables false
theorem info_sl : (Tryd.prog.info? 22).map (fun i => (i.zero, i.size, i.bytes)) = some (some (.slice none 0 0), 1, 24) := by kernel_rfl
theorem info_u8o : (Tryd.prog.info? 5).map (fun i => (i.zero, i.size, i.bytes)) = some (some (.int .u8 0), 1, 1) := by kernel_rfl

set_option maxRecDepth 100000 in
set_option maxHeartbeats 2000000 in
theorem own_any (base bl n cap : Nat) (vs : Nat → Value) (ys : Nat → List Int) (w : World) (hn0 : 0 < n) (hn : n ≤ 1000) (hrv : ∀ i, i < n → Row 5 w base (vs i) (ys i))
    (hvv : ∀ i j, i < n → j < n → i ≠ j → Ap (vs i).ownBlock (vs j).ownBlock) (hsl : Slots 22 w bl n vs) (hnv : ∀ i k, i < n → (vs i).ownBlock = some k → k ≠ bl) (hlen : ∀ i, i < n → (ys i).length ≤ 70368744177664) (hbs : base ≤ w.heap.size) :
    Calls Tryd.prog 52 #[.slice (some ⟨bl, 0, none⟩) n cap] w fun e w' => e = .returned (.bool true) ∧ Below base w w' := by
  obtain ⟨i0, hi, hz0, hz1, hz2⟩ := info_parts info_u8o
  obtain ⟨j0, hj, hy0, hy1, hy2⟩ := info_parts info_sl
  go_enter Tryd.func52, Tryd.ntmps52
  go_wp2_with (at_make; refine wpList_make_full _ rfl _ _ 173 rfl w.heap.size 22 j0 (.slice none 0 0) 1 Tryd.underlying173 hj hy0 hy1 .i64 .i64 _ _ n rfl rfl rfl rfl (by rw [hy2]; omega) (by unfold maxLen; omega) (Nat.le_refl _) ?_; intro w1 hown1 hgrow1)
  rw [Nat.mul_one, show (Value.slice none 0 0).cells = #[.slice none 0 0] from rfl, toList_madeCells_one] at hown1
  have hG := slots_made hown1 hn0
  have hb1 : Below base w w1 := (Below.refl _ _).grown hgrow1 hbs (by intro k e; cases e)
  have hos : OS 5 22 w1 base bl w.heap.size n vs (fun _ => .slice none 0 0) ys (fun _ => []) := by
    refine ⟨fun i hi => (hrv i hi).kept hgrow1 ?_, fun i hi => World.ownsRow_nil _ _ _ _, hvv, fun i j _ _ _ => Ap.none _, fun i j _ _ _ => Ap.none _, hsl.grown hgrow1 (by simp), hG, fun i k hi hk => ⟨hnv i k hi hk, ?_⟩, (fun i k _ hk => by cases hk), ?_, hbs, Nat.le_trans hbs hgrow1.size⟩
    · cases (vs i).ownBlock <;> simp
    · have := ((hrv i hi).lt k hk).2; omega
    · have := hsl.lt; omega
  clear hown1 hG hrv hsl
  generalize w.heap.size = G at *
  go_loopw [19] (fun i wr => ∃ k : Nat, k ≤ n ∧ i = .int .i64 k ∧ OS 5 22 wr base bl G n vs (fun _ => .slice none 0 0) (markF k ys) (fun _ => []) ∧ Below base w wr) (fun i _ => n - (intOf i).toNat)
  case atStart => exact ⟨0, Nat.zero_le _, rfl, by rw [markF_zero]; exact hos, hb1⟩
  case round =>
    obtain ⟨k, hk, rfl, hst, hb⟩ := hrel
    by_cases hlt : k < n
    · have hlti : (k : Int) < (n : Int) := by omega
      have hc := hst.sl.cell k hlt
      obtain ⟨a, cp, hv, hcp, hat⟩ := row_shape (hst.rv k hlt)
      have hln := hlen k hlt
      have hm : markF k ys k = ys k := by simp [markF]
      rw [hm] at hv hcp hat
      rw [hv] at hc
      obtain ⟨wo, rfl⟩ : ∃ wo : World, wo = wr := ⟨_, rfl⟩
      clear hat
      have HV : Hid (vs k = .slice a (ys k).length cp) := hv
      clear hv hm hos hb1 hgrow1
      go_wp2
      go_loopw [26] (fun t wr => ∃ j : Nat, j ≤ (ys k).length ∧ t = .int .i64 j ∧ OS 5 22 wr base bl G n vs (fun _ => .slice none 0 0) (pmF k j ys) (fun _ => []) ∧ Below base w wr) (fun t _ => (ys k).length - (intOf t).toNat)
      case atStart => exact ⟨0, Nat.zero_le _, rfl, by rw [pmF_zero]; exact hst, hb⟩
      case round =>
        obtain ⟨j, hj2, rfl, hst2, hb2⟩ := hrel
        by_cases hjl : j < (ys k).length
        · have hr := hst2.rv k hlt
          have hl2 := pmF_len k j ys hj2
          rw [HV.out] at hr
          obtain ⟨g, rfl, hcl, hfz⟩ := row_at hr j (by omega)
          have hmk := hst2.mark k j g cp _ (((k : Int) + 7 * (j : Int)) % 256) hlt HV.out hjl (fun _ _ => rfl)
          rw [pmF_step k j ys hjl] at hmk
          have hji : (j : Int) < ((ys k).length : Int) := by omega
          clear hr hst2 hst hlen hc hvv hnv
          go_wp2
          go_roundw
          case rel => exact ⟨j + 1, by omega, by go_num, hmk.1, hb2.trans hmk.2⟩
          case measure => simp [intOf]; omega
        · obtain rfl : j = (ys k).length := by omega
          rw [pmF_end] at hst2
          clear hjl hst hc
          go_wp2
          go_roundw
          case rel => exact ⟨k + 1, by omega, by go_num, hst2, hb2⟩
          case measure => simp [intOf]; omega
    · obtain rfl : n = k := by omega
      clear hlt hk hos hb1 hgrow1 hnv hvv
      have hml : Hid (∀ i, (markF n ys i).length = (ys i).length) := fun i => markF_len n i ys
      go_wp2
      have HM : Hid (∀ i, i < n → markF n ys i = markL i (ys i).length) := fun i hi => markF_at n i ys hi
      generalize markF n ys = mk at *
      obtain ⟨wp, rfl⟩ : ∃ wp : World, wp = wr := ⟨_, rfl⟩
      go_loopw [41] (fun t wr => ∃ (k : Nat) (gs : Nat → Value) (zs : Nat → List Int), k ≤ n ∧ t = .int .i64 k ∧ OS 5 22 wr base bl G n vs gs mk zs ∧ Below base w wr ∧ (∀ i, i < k → zs i = mk i ++ tailL i 24)) (fun t _ => n - (intOf t).toNat)
      case atStart => exact ⟨0, _, _, Nat.zero_le _, rfl, hst, hb, fun i hi => by omega⟩
      case round =>
        clear hst hb
        obtain ⟨k, gs, zs, hk, rfl, hst, hb, hzs⟩ := hrel
        by_cases hlt : k < n
        · have hlti : (k : Int) < (n : Int) := by omega
          have hln := hlen k hlt
          have hc := hst.sl.cell k hlt
          have hcg := hst.sg.cell k hlt
          have hfg := hst.sg.free k
          have hss := hst.start k hlt
          have hsh := Shares.self (hst.rv k hlt)
          obtain ⟨a, cp, hv, hcp, _⟩ := row_shape (hst.rv k hlt)
          rw [hml.out k] at hv hcp
          rw [hv] at hc
          have HV : Hid (vs k = .slice a (ys k).length cp) := hv
          rw [hv] at hss
          obtain ⟨u, hu⟩ : ∃ u, u = gs k := ⟨_, rfl⟩
          rw [← hu] at hcg
          clear hu hv hst
          obtain ⟨wo, rfl⟩ : ∃ wo : World, wo = wr := ⟨_, rfl⟩
          have hsh0 : Shares (.slice a (ys k).length cp) (.slice a (ys k).length cp) (mk k) (mk k) := by rw [← HV.out]; exact hsh
          clear hsh
          go_wp2
          go_loopw [9] (fun t wr => ∃ (j : Nat) (gs : Nat → Value) (zs : Nat → List Int), j ≤ 24 ∧ t = .int .i64 j ∧ OS 5 22 wr base bl G n vs gs mk zs ∧ Below base w wr ∧ (∀ i, i < k → zs i = mk i ++ tailL i 24) ∧ zs k = mk k ++ tailL k j ∧ Shares (vs k) (gs k) (mk k) (zs k)) (fun t _ => 24 - (intOf t).toNat)
          case atStart => exact ⟨0, _, _, by omega, rfl, hss.1, hb.trans hss.2, fun i hi => by rw [upd_ne _ _ _ _ (by omega)]; exact hzs i hi, by rw [upd_at]; simp [tailL], by rw [upd_at, upd_at, HV.out]; exact hsh0⟩
          case round =>
            clear hss hb hzs hsh0 hc hcg hfg
            obtain ⟨j, gs, zs, hj2, rfl, hst, hb, hzs, hzk, hsh⟩ := hrel
            by_cases hjl : j < 24
            · have hcg := hst.sg.cell k hlt
              have hrg := hst.rg k hlt
              obtain ⟨ga, gc, hgv, _, _⟩ := row_shape hrg
              have hzl : (zs k).length = (ys k).length + j := by rw [hzk]; simp [tailL_len, hml.out]
              have HZ : Hid (zs k = mk k ++ tailL k j) := hzk
              have HL : Hid ((zs k).length = (ys k).length + j) := hzl
              rw [hgv] at hcg
              have HG : Hid (gs k = .slice ga (zs k).length gc) := hgv
              have hszr := hst.bs
              have hrow : wr.ownsRow base 5 1 (.slice ga (zs k).length gc) (zs k).length ((zs k).map (Value.int .u8)) := by rw [← hgv]; exact hrg
              have hGne : some G ≠ (Value.slice ga (zs k).length gc).ownBlock := by rw [← hgv]; intro e; exact (hst.ng k G hlt e.symm).2 rfl
              have HGrow : Hid (∀ (w2 : World), wr.grownBy w2 (Value.slice ga (zs k).length gc).ownBlock → Slots 22 w2 G n gs) := fun w2 hg => hst.sg.grown hg hGne
              clear hzk hzl hgv hrg
              go_wp2_with (at_builtin; refine wpList_push_st rfl _ _ 22 rfl base 5 i0 (.int .u8 0) 1 Tryd.underlying22 hi hz0 hz1 hz2 rfl wr (.int .u8 (((k : Int) + 131 + 3 * (j : Int)) % 256)) rfl hrow rfl rfl (by rw [HL.out]; omega) (by rw [HL.out]; omega) hszr ?_; intro g2 c2 w2 p1 p2 p3 p4; have hcg2 := (HGrow.out w2 p2).cell k hlt; have hfg2 := (HGrow.out w2 p2).free k; rw [HG.out] at hcg2)
              have hps := hst.push k hlt (((k : Int) + 131 + 3 * (j : Int)) % 256) g2 c2 w2 hsh p1 (by rw [HG.out]; exact p2) (by rw [HG.out]; exact p3) (by rw [HG.out]; exact p4)
              go_roundw
              case rel => exact ⟨j + 1, _, _, by omega, by go_num, hps.1, hb.trans hps.2.1, fun i hi => by rw [upd_ne _ _ _ _ (by omega)]; exact hzs i hi, by rw [upd_at, HZ.out, tailL_succ, List.append_assoc], by rw [upd_at, upd_at]; exact hps.2.2⟩
              case measure => simp [intOf]; omega
            · obtain rfl : j = 24 := by omega
              clear hjl hsh
              go_wp2
              go_roundw
              case rel => exact ⟨k + 1, gs, zs, by omega, by go_num, hst, hb, fun i hi => by
                by_cases e : i = k
                · subst e; exact hzk
                · exact hzs i (by omega)⟩
              case measure => simp [intOf]; omega
        · obtain rfl : n = k := by omega
          clear hlt hk
          go_wp2
          go_loop [72] (fun t => ∃ k : Nat, k ≤ n ∧ t = .int .i64 k) (fun t => n - (intOf t).toNat)
          case atStart => exact ⟨0, Nat.zero_le _, rfl⟩
          case round =>
            obtain ⟨k, hk, rfl⟩ := hrel
            by_cases hlt : k < n
            · have hlti : (k : Int) < (n : Int) := by omega
              have hln := hlen k hlt
              have hc := hst.sl.cell k hlt
              have hcg := hst.sg.cell k hlt
              have hrv := hst.rv k hlt
              have hrg := hst.rg k hlt
              obtain ⟨a, cp, hv, hcp, _⟩ := row_shape hrv
              obtain ⟨ga, gc, hgv, hgc, _⟩ := row_shape hrg
              have hzl : (zs k).length = (ys k).length + 24 := by rw [hzs k hlt]; simp [tailL_len, hml.out]
              rw [hml.out k] at hv hcp
              rw [hzl] at hgv hgc
              rw [hv] at hc hrv
              rw [hgv] at hcg hrg
              have HB : Hid (∀ j, j < (ys k).length → ∃ g, a = some ⟨g, 0, none⟩ ∧ wr.cell? ⟨g, j, none⟩ = some (.int .u8 (((k : Int) + 7 * (j : Int)) % 256))) := by
                intro j hj
                obtain ⟨g, h1, h2, _⟩ := row_at hrv j (by rw [hml.out]; exact hj)
                rw [HM.out k hlt, markL_get _ _ _ hj] at h2
                exact ⟨g, h1, h2⟩
              have HT : Hid (∀ j, j < 24 → ∃ g, ga = some ⟨g, 0, none⟩ ∧ wr.cell? ⟨g, (ys k).length + j, none⟩ = some (.int .u8 (((k : Int) + 131 + 3 * (j : Int)) % 256))) := by
                intro j hj
                obtain ⟨g, h1, h2, _⟩ := row_at hrg ((ys k).length + j) (by omega)
                rw [hzs k hlt] at h2
                have e : (mk k ++ tailL k 24).getD ((ys k).length + j) 0 = ((k : Int) + 131 + 3 * (j : Int)) % 256 := by
                  have hmk := hml.out k
                  rw [List.getD, List.getElem?_append_right (by omega), show (ys k).length + j - (mk k).length = j by omega]
                  exact tailL_get k 24 j hj
                rw [e] at h2
                exact ⟨g, h1, h2⟩
              clear hrv hrg hv hgv hzl
              go_wp2
              go_loop [79] (fun t => ∃ j : Nat, j ≤ (ys k).length ∧ t = .int .i64 j) (fun t => (ys k).length - (intOf t).toNat)
              case atStart => exact ⟨0, Nat.zero_le _, rfl⟩
              case round =>
                obtain ⟨j, hj2, rfl⟩ := hrel
                by_cases hjl : j < (ys k).length
                · have hji : (j : Int) < ((ys k).length : Int) := by omega
                  obtain ⟨g, rfl, hcl⟩ := HB.out j hjl
                  go_wp2
                  go_round
                  case rel => exact ⟨j + 1, by omega, by go_num⟩
                  case measure => simp [intOf]; omega
                · obtain rfl : j = (ys k).length := by omega
                  clear hjl hj2
                  go_wp2
                  go_loop [13] (fun t => ∃ j : Nat, j ≤ 24 ∧ t = .int .i64 j) (fun t => 24 - (intOf t).toNat)
                  case atStart => exact ⟨0, by omega, rfl⟩
                  case round =>
                    obtain ⟨j, hj2, rfl⟩ := hrel
                    by_cases hjl : j < 24
                    · obtain ⟨g, rfl, hcl⟩ := HT.out j hjl
                      have hji : ((ys k).length : Int) + (j : Int) < ((ys k).length : Int) + 24 := by omega
                      go_wp2
                      go_round
                      case rel => exact ⟨j + 1, by omega, by go_num⟩
                      case measure => simp [intOf]; omega
                    · obtain rfl : j = 24 := by omega
                      go_wp2
                      go_round
                      case rel => exact ⟨k + 1, by omega, by go_num⟩
                      case measure => simp [intOf]; omega
            · obtain rfl : n = k := by omega
              clear hlt hk
              go_wp2
              go_ret
              exact ⟨rfl, hb⟩
end Go.Proofs.YtmjlpfmacblcpaaDoor

namespace Go.Proofs.YtmjlpfmacblcpaaDoor
open Go.RowKit
set_option linter.unusedVariables false
def two {α : Type} (x y : α) : Nat → α := fun i => if i = 0 then x else y
def three {α : Type} (x y z : α) : Nat → α := fun i => if i = 0 then x else if i = 1 then y else z

theorem row_below {eT : TypeId} {w w' : World} {base : Nat} {v : Value} {ys : List Int} (h : Row eT w base v ys) (hb : Below w.heap.size w w') : Row eT w' base v ys := own_below h hb
/-- 'Own' of two lists that lie apart. -/
theorem own_two (base : Nat) (x z : Value) (xs zs : List Int) (w : World) (hx : Row 5 w base x xs) (hz : Row 5 w base z zs) (hap : Ap x.ownBlock z.ownBlock) (lx : xs.length ≤ 70368744177664) (lz : zs.length ≤ 70368744177664) (hb : base ≤ w.heap.size) :
    Calls Tryd.prog 52 #[.slice (some ⟨w.heap.size, 0, none⟩) 2 2] (w.alloc (.cells #[x, z] 22)) fun e w' => e = .returned (.bool true) ∧ Below base w w' := by
  have hb0 : Below base w (w.alloc (.cells #[x, z] 22)) := (Below.refl _ _).alloc hb _
  have hbs : Below w.heap.size w (w.alloc (.cells #[x, z] 22)) := (Below.refl _ _).alloc (Nat.le_refl _) _
  refine (own_any base w.heap.size 2 2 (two x z) (two xs zs) (w.alloc (.cells #[x, z] 22)) (by decide) (by decide) ?_ ?_ ?_ ?_ ?_ (by simp; omega)).mono ?_
  · intro i hi
    match i, hi with
    | 0, _ => exact row_below hx hbs
    | 1, _ => exact row_below hz hbs
  · intro i j hi hj hne
    match i, j, hi, hj with
    | 0, 0, _, _ => exact absurd rfl hne
    | 0, 1, _, _ => exact hap
    | 1, 0, _, _ => exact hap.symm
    | 1, 1, _, _ => exact absurd rfl hne
  · refine ⟨#[x, z], heap_alloc_new w _, rfl, fun i hi => ?_⟩
    match i, hi with
    | 0, _ => rfl
    | 1, _ => rfl
  · intro i k hi hk
    match i, hi with
    | 0, _ => have := (hx.lt k hk).2; omega
    | 1, _ => have := (hz.lt k hk).2; omega
  · intro i hi
    match i, hi with
    | 0, _ => exact lx
    | 1, _ => exact lz
  · rintro e w' ⟨rfl, hb1⟩
    exact ⟨rfl, hb0.trans hb1⟩

end Go.Proofs.YtmjlpfmacblcpaaDoor

namespace Go.Proofs.YtmjlpfmacblcpaaDoor
open Go.RowKit
set_option linter.unusedVariables false
set_option linter.unusedSimpArgs false
def OX (w : World) (base : Nat) (e : TypeId) (v : Value) (n : Nat) (xs : List Value) : Prop := xs.length = n ∧ ((v = .slice none 0 0 ∧ n = 0) ∨ ∃ (g cap : Nat) (cur : Array Value), v = .slice (some ⟨g, 0, none⟩) n cap ∧ base ≤ g ∧ w.heap[g]? = some (.cells cur e (0, 0)) ∧ n ≤ cap ∧ cap ≤ maxLen ∧ cap ≤ cur.size ∧ cur.toList.take n = xs)
section
variable {w w' : World} {base n : Nat} {e : TypeId} {v : Value} {xs : List Value}
theorem OX.of (h : w.ownsRow base e 1 v n xs) : OX w base e v n xs := by
  refine ⟨by have := h.1; omega, ?_⟩
  rcases h.2 with h0 | ⟨g, cap, cur, h1, h2, h3, h4, h5, h6, h7⟩
  · exact .inl h0
  · exact .inr ⟨g, cap, cur, h1, h2, h3, h4, h5, by omega, by simpa using h7⟩
theorem OX.lt (h : OX w base e v n xs) : ∀ k, v.ownBlock = some k → base ≤ k ∧ k < w.heap.size := by
  intro k hk
  rcases h.2 with ⟨rfl, _⟩ | ⟨g, cap, cur, rfl, h2, h3, _⟩
  · cases hk
  · cases hk; exact ⟨h2, (Array.getElem?_eq_some_iff.1 h3).1⟩
theorem OX.kept {row : Option Nat} (h : OX w base e v n xs) (hg : w.grownBy w' row) (hne : v.ownBlock = none ∨ v.ownBlock ≠ row) : OX w' base e v n xs := by
  refine ⟨h.1, ?_⟩
  rcases h.2 with hn | ⟨g, cap, cur, rfl, hb, hgg, rest⟩
  · exact .inl hn
  · refine .inr ⟨g, cap, cur, rfl, hb, ?_, rest⟩
    rw [hg.block g (Array.getElem?_eq_some_iff.1 hgg).1 (by simpa [Value.ownBlock] using hne)]
    exact hgg
theorem OX.below (h : OX w base e v n xs) (hb : Below w.heap.size w w') : OX w' base e v n xs := by
  refine ⟨h.1, ?_⟩
  rcases h.2 with hn | ⟨g, cap, cur, rfl, hb0, hgg, rest⟩
  · exact .inl hn
  · exact .inr ⟨g, cap, cur, rfl, hb0, (hb.block g (Array.getElem?_eq_some_iff.1 hgg).1).trans hgg, rest⟩
theorem OX.stored {g cap : Nat} (h : OX w base e (.slice (some ⟨g, 0, none⟩) n cap) n xs) (j : Nat) (u : Value) :
    OX (w.setCell ⟨g, j, none⟩ u) base e (.slice (some ⟨g, 0, none⟩) n cap) n (xs.set j u) ∧ w.grownBy (w.setCell ⟨g, j, none⟩ u) (some g) := by
  refine ⟨?_, grownBy_set (World.grownBy.refl _ _) _⟩
  rcases h.2 with ⟨h', _⟩ | ⟨g', cap', cur, h', hb, hg, hnc, hcm, hcs, htake⟩
  · cases h'
  · simp only [Value.slice.injEq, Option.some.injEq, Addr.mk.injEq, and_true, true_and] at h'
    obtain ⟨rfl, rfl⟩ := h'
    refine ⟨by simpa using h.1, .inr ⟨g, cap, cur.setIfInBounds j u, rfl, hb, by simp [World.setCell, Array.getElem?_modify, hg], hnc, hcm, by simpa using hcs, ?_⟩⟩
    rw [Array.toList_setIfInBounds, List.take_set, htake]
theorem OX.cells {g cap : Nat} (h : OX w base e (.slice (some ⟨g, 0, none⟩) n cap) n xs) : ∀ j u, xs[j]? = some u → w.cell? ((⟨g, 0, none⟩ : Addr).add j) = some u := by
  intro j u hu
  rcases h.2 with ⟨h', _⟩ | ⟨g', cap', cur, h', hb, hg, hnc, hcm, hcs, htake⟩
  · cases h'
  · simp only [Value.slice.injEq, Option.some.injEq, Addr.mk.injEq, and_true, true_and] at h'
    obtain ⟨rfl, rfl⟩ := h'
    have hadd : (⟨g, 0, none⟩ : Addr).add j = ⟨g, j, none⟩ := by unfold Addr.add; split <;> simp_all
    rw [hadd]
    simp only [World.cell?, hg]
    rw [← htake, List.getElem?_take] at hu
    split at hu
    · simpa using hu
    · cases hu
end
theorem ox_take {w : World} {base m l g cap : Nat} {e : TypeId} {xs : List Value} (h : OX w base e (.slice (some ⟨g, 0, none⟩) m cap) m xs) (hl : l ≤ m) : OX w base e (.slice (some ⟨g, 0, none⟩) l cap) l (xs.take l) := by
  have hx : xs.length = m := h.1
  refine ⟨by simp; omega, ?_⟩
  rcases h.2 with ⟨h0, _⟩ | ⟨g', cap', cur, hv, hb, hg, hc, hm, hs, ht⟩
  · cases h0
  · simp only [Value.slice.injEq, Option.some.injEq, Addr.mk.injEq, and_true, true_and] at hv
    obtain ⟨rfl, rfl⟩ := hv
    exact .inr ⟨g, cap, cur, rfl, hb, hg, by omega, hm, hs, by rw [← ht, List.take_take, Nat.min_eq_left hl]⟩
theorem run_push_x {P : Program} (t ty : TypeId) (base : Nat) (e : TypeId) (i : TypeInfo) (z : Value) (bytes : Nat) (ht : P.underlying t = some (.slice e)) (hi : P.info? e = some i) (hz : i.zero = some z)
    (hsize : i.size = 1) (hby : i.bytes = bytes) (hzs : z.cells.size = 1)
    (w0 : World) (y : Value) (hy : y.oneCell' = true) {v : Value} {n : Nat} {xs : List Value} (hown : OX w0 base e v n xs)
    (h63 : n + 1 ≤ 140737488355328) (hbytes : (n + 1) * bytes ≤ 140737488355328) (hbase : base ≤ w0.heap.size) :
    ∃ v' w', (Builtin.append_ #[t, t] ty #[v, .slice (some ⟨w0.heap.size, 0, none⟩) 1 1]).run P (w0.alloc (.cells #[y] e)) = .ok v' w' ∧ OX w' base e v' (n + 1) (xs ++ [y]) ∧ w0.grownBy w' v.ownBlock ∧
      OX w' base e v n xs ∧ ((∃ g c, v = .slice (some ⟨g, 0, none⟩) n c ∧ v' = .slice (some ⟨g, 0, none⟩) (n + 1) c) ∨ ∃ g, v'.ownBlock = some g ∧ w0.heap.size ≤ g) := by
  have hcell := cell_one_new w0 y e
  have h1c : ∀ u ∈ [y], u.oneCell' = true := by intro u hu; simp at hu; subst hu; exact hy
  rcases hown.2 with ⟨rfl, rfl⟩ | ⟨g, cap, cur, rfl, hbg, hg, hnc, hcm, hcs, htake⟩
  · have hx : xs = [] := List.eq_nil_of_length_eq_zero hown.1
    subst hx
    obtain ⟨v', w', r1, r2, r3, r4, r5⟩ := run_push_st (P := P) t ty base e i z bytes ht hi hz hsize hby hzs w0 y hy (World.ownsRow_nil _ _ _ _) h63 hbytes hbase
    exact ⟨v', w', r1, .of r2, r3, .of r4, r5⟩
  · have hg1 : (w0.alloc (.cells #[y] e)).heap[g]? = some (.cells cur e (0, 0)) := by
      rw [Below.heap_alloc _ _ _ (Array.getElem?_eq_some_iff.1 hg).1]; exact hg
    by_cases hroom : n + 1 ≤ cap
    · have hr2 := run_append_room (P := P) (w0.alloc (.cells #[y] e)) t ty e i ht hi g n cap cur hg1 ⟨w0.heap.size, 0, none⟩ 1 1 [y] (by rw [hsize]; rfl) hcell h1c hroom (by rw [hsize]; simp; omega)
      rw [hsize, Nat.mul_one] at hr2
      have hgr : (w0.alloc (.cells #[y] e)).grownBy ((w0.alloc (.cells #[y] e)).setRow g (cur.toList.take n ++ [y] ++ cur.toList.drop (n + [y].length)).toArray) (some g) := ⟨rfl, rfl, rfl, by simp [World.setRow], fun k _ hk => setRow_other _ g k _ (fun e => hk (by rw [e]))⟩
      have hrow : ((w0.alloc (.cells #[y] e)).setRow g (cur.toList.take n ++ [y] ++ cur.toList.drop (n + [y].length)).toArray).heap[g]? = some (.cells (cur.toList.take n ++ [y] ++ cur.toList.drop (n + [y].length)).toArray e (0, 0)) := setRow_heap _ g _ _ e _ hg1
      have htl : (cur.toList.take n).length = n := by simp; omega
      refine ⟨_, _, hr2, ⟨by simp [hown.1], .inr ⟨g, cap, _, rfl, hbg, hrow, hroom, hcm, by simp; omega, ?_⟩⟩, grownBy_trans (World.grownBy_alloc w0 _ _) hgr, ⟨hown.1, .inr ⟨g, cap, _, rfl, hbg, hrow, hnc, hcm, by simp; omega, ?_⟩⟩, .inl ⟨g, cap, rfl, rfl⟩⟩
      · rw [List.take_append_of_le_length (by simp; omega), List.take_of_length_le (by simp; omega), htake]
      · rw [List.append_assoc, List.take_append_of_le_length (by omega), List.take_of_length_le (by omega), htake]
    · have hx : xs.length = n := hown.1
      have hlow := hown.cells
      have hlow1 : ∀ j u, xs[j]? = some u → (w0.alloc (.cells #[y] e)).cell? ((⟨g, 0, none⟩ : Addr).add j) = some u := fun j u hu => by
        have h1 := hlow j u hu
        have hadd : (⟨g, 0, none⟩ : Addr).add j = ⟨g, j, none⟩ := by unfold Addr.add; split <;> simp_all
        rw [hadd] at h1 ⊢
        simp only [World.cell?, hg1]
        simpa [World.cell?, hg] using h1
      obtain ⟨v', w', hr, ho, hgr⟩ := run_append_arg_grows (P := P) (w := w0.alloc (.cells #[y] e)) t ty e i z 1 bytes ht hi hz hsize hby hzs (by decide) ⟨g, 0, none⟩ n cap xs (by omega) hlow1 ⟨w0.heap.size, 0, none⟩ 1 1 [y] rfl hcell (by omega) (by unfold maxLen; omega) hbytes
      have hsz : (w0.alloc (.cells #[y] e)).heap.size = w0.heap.size + 1 := by simp
      obtain ⟨g', c', rfl, _, hg', _⟩ := own_shape ho (by omega)
      have hk : OX w' base e (.slice (some ⟨g, 0, none⟩) n cap) n xs := by
        refine ⟨hx, .inr ⟨g, cap, cur, rfl, hbg, ?_, hnc, hcm, hcs, htake⟩⟩
        rw [hgr.block g (Array.getElem?_eq_some_iff.1 hg1).1 (by intro e; cases e)]
        exact hg1
      refine ⟨_, w', hr, .of ⟨ho.1, ?_⟩, ?_, hk, .inr ⟨g', rfl, by omega⟩⟩
      · rcases ho.2 with q | ⟨g2, cap2, cur2, q1, q2, q3⟩
        · exact .inl q
        · exact .inr ⟨g2, cap2, cur2, q1, by omega, q3⟩
      · have := grownBy_trans (World.grownBy_alloc w0 (.cells #[y] e) none) hgr
        exact ⟨this.1, this.2, this.3, this.4, fun k h1 h2 => this.block k h1 (by intro q; cases q)⟩
theorem wpList_push_x {P : Program} {ops : Array Oper} {rest : List Oper} {o : Oper} {a : Act} {Q : Exit → Act → World → Prop} (hgd : o.guard = none) (s x : Operand) (t : TypeId)
    (ho : o.op = .call { callee := .builtin .append, args := #[s, x], argTypes := #[t, t] })
    (base : Nat) (e : TypeId) (i : TypeInfo) (z : Value) (bytes : Nat) (ht : P.underlying t = some (.slice e)) (hi : P.info? e = some i) (hz : i.zero = some z)
    (hsize : i.size = 1) (hby : i.bytes = bytes) (hzs : z.cells.size = 1)
    (w0 : World) (y : Value) (hy : y.oneCell' = true) {v : Value} {n : Nat} {xs : List Value} (hown : OX w0 base e v n xs) (hs : a.eval s = v) (hx : a.eval x = .slice (some ⟨w0.heap.size, 0, none⟩) 1 1)
    (h63 : n + 1 ≤ 140737488355328) (hbytes : (n + 1) * bytes ≤ 140737488355328) (hbase : base ≤ w0.heap.size)
    (h : ∀ (g c : Nat) (w' : World), OX w' base e (.slice (some ⟨g, 0, none⟩) (n + 1) c) (n + 1) (xs ++ [y]) → w0.grownBy w' v.ownBlock → OX w' base e v n xs → (v = .slice (some ⟨g, 0, none⟩) n c ∨ w0.heap.size ≤ g) → wpList P ops Q rest (a.put o.dst (.slice (some ⟨g, 0, none⟩) (n + 1) c)) w') : wpList P ops Q (o :: rest) a (w0.alloc (.cells #[y] e)) := by
  obtain ⟨v', w', hr, h2, h3, h4, h5⟩ := run_push_x (P := P) t o.type base e i z bytes ht hi hz hsize hby hzs w0 y hy hown h63 hbytes hbase
  obtain ⟨g, c, rfl⟩ : ∃ g c, v' = .slice (some ⟨g, 0, none⟩) (n + 1) c := by
    rcases h2.2 with ⟨_, h0⟩ | ⟨g, cap, _, e1, _⟩
    · omega
    · exact ⟨g, cap, e1⟩
  refine wpList_plain hgd fun K hK => ?_
  unfold Oper.wp execOp
  simp only [ho, resolve, invoke, builtin, Sem.run_bind, Sem.run_pure, Result.andThen_ok, List.map_toArray, List.map_cons, List.map_nil, hs, hx, hr]
  refine hK _ _ (h g c w' h2 h3 h4 ?_)
  rcases h5 with ⟨g', c', e1, e2⟩ | ⟨g', e1, e2⟩
  · cases e2; exact .inl e1
  · cases e1; exact .inr e2
end Go.Proofs.YtmjlpfmacblcpaaDoor

namespace Go.Proofs.YtmjlpfmacblcpaaDoor
open Go.RowKit
set_option linter.unusedVariables false
set_option linter.unusedSimpArgs false
abbrev RowX (eT : TypeId) (w : World) (base : Nat) (v : Value) (ys : List Int) : Prop := OX w base eT v ys.length (ys.map (Value.int .u8))
structure OSX (eT sT : TypeId) (w : World) (base bl G n : Nat) (vs gs : Nat → Value) (ys zs : Nat → List Int) : Prop where
  rv : ∀ i, i < n → RowX eT w base (vs i) (ys i)
  rg : ∀ i, i < n → RowX eT w base (gs i) (zs i)
  vv : ∀ i j, i < n → j < n → i ≠ j → Ap (vs i).ownBlock (vs j).ownBlock
  gv : ∀ i j, i < n → j < n → i ≠ j → Ap (gs i).ownBlock (vs j).ownBlock
  gg : ∀ i j, i < n → j < n → i ≠ j → Ap (gs i).ownBlock (gs j).ownBlock
  sl : Slots sT w bl n vs
  sg : Slots sT w G n gs
  nv : ∀ i k, i < n → (vs i).ownBlock = some k → k ≠ bl ∧ k ≠ G
  ng : ∀ i k, i < n → (gs i).ownBlock = some k → k ≠ bl ∧ k ≠ G
  ne : bl ≠ G
  bG : base ≤ G
  bs : base ≤ w.heap.size

variable {eT sT : TypeId} {w : World} {base bl G n : Nat} {vs gs : Nat → Value} {ys zs : Nat → List Int}
/-- A byte of a list is written. -/
theorem OSX.mark (h : OSX eT sT w base bl G n vs gs ys zs) (i k g cap m : Nat) (x : Int) (hi : i < n) (hv : vs i = .slice (some ⟨g, 0, none⟩) m cap) (hk : k < m) (hg0 : ∀ j, j < n → (gs j).ownBlock = none) :
    OSX eT sT (w.setCell ⟨g, k, none⟩ (.int .u8 x)) base bl G n vs gs (updO ys i ((ys i).set k x)) zs ∧ Below base w (w.setCell ⟨g, k, none⟩ (.int .u8 x)) := by
  have hr := h.rv i hi
  have hm : m = (ys i).length := by
    rcases hr.2 with ⟨h0, _⟩ | ⟨g', c', cur, h0, _⟩
    · rw [hv] at h0; cases h0
    · rw [hv] at h0; cases h0; rfl
  subst hm
  have hr' := hr
  unfold RowX at hr'
  rw [hv] at hr'
  have hst := hr'.stored k (.int .u8 x)
  have hbg : base ≤ g := (hr'.lt g rfl).1
  have hob : (vs i).ownBlock = some g := by rw [hv]; rfl
  have hnn := h.nv i g hi hob
  refine ⟨⟨?_, ?_, h.vv, h.gv, h.gg, h.sl.grown hst.2 (by intro e; cases e; exact hnn.1 rfl), h.sg.grown hst.2 (by intro e; cases e; exact hnn.2 rfl), h.nv, h.ng, h.ne, h.bG, ?_⟩, ?_⟩
  · intro j hj
    by_cases e : j = i
    · subst e
      rw [upd_at, hv]
      have := hst.1
      rw [← List.map_set] at this
      show OX _ _ _ _ _ _
      simpa using this
    · rw [upd_ne _ _ _ _ e]
      refine (h.rv j hj).kept hst.2 ?_
      have := (h.vv j i hj hi e).or
      rw [hob] at this
      exact this
  · intro j hj
    exact (h.rg j hj).kept hst.2 (.inl (hg0 j hj))
  · simpa [World.setCell] using h.bs
  · exact (Below.refl _ _).grown hst.2 h.bs (by intro j e; cases e; exact hbg)

/-- A grown list begins as the list itself. -/
theorem OSX.start (h : OSX eT sT w base bl G n vs gs ys zs) (i : Nat) (hi : i < n) :
    OSX eT sT (w.setCell ⟨G, i, none⟩ (vs i)) base bl G n vs (updO gs i (vs i)) ys (updO zs i (ys i)) ∧ Below base w (w.setCell ⟨G, i, none⟩ (vs i)) := by
  have hgr : w.grownBy (w.setCell ⟨G, i, none⟩ (vs i)) (some G) := grownBy_set (World.grownBy.refl _ _) _
  have keepv : ∀ j, j < n → (vs j).ownBlock = none ∨ (vs j).ownBlock ≠ some G := by
    intro j hj
    cases e : (vs j).ownBlock with
    | none => exact .inl rfl
    | some k => exact .inr fun e2 => by cases e2; exact (h.nv j G hj e).2 rfl
  have keepg : ∀ j, j < n → (gs j).ownBlock = none ∨ (gs j).ownBlock ≠ some G := by
    intro j hj
    cases e : (gs j).ownBlock with
    | none => exact .inl rfl
    | some k => exact .inr fun e2 => by cases e2; exact (h.ng j G hj e).2 rfl
  refine ⟨⟨fun j hj => (h.rv j hj).kept hgr (keepv j hj), ?_, h.vv, ?_, ?_, h.sl.grown hgr (by intro e; cases e; exact h.ne rfl), h.sg.set i hi _, h.nv, ?_, h.ne, h.bG, by simpa [World.setCell] using h.bs⟩, ?_⟩
  · intro j hj
    by_cases e : j = i
    · subst e; rw [upd_at, upd_at]; exact (h.rv j hj).kept hgr (keepv j hj)
    · rw [upd_ne _ _ _ _ e, upd_ne _ _ _ _ e]; exact (h.rg j hj).kept hgr (keepg j hj)
  · intro j l hj hl hne
    by_cases e : j = i
    · subst e; rw [upd_at]; exact h.vv j l hj hl hne
    · rw [upd_ne _ _ _ _ e]; exact h.gv j l hj hl hne
  · intro j l hj hl hne
    by_cases e : j = i
    · subst e; rw [upd_at, upd_ne _ _ _ _ (Ne.symm hne)]; exact (h.gv l j hl hj (Ne.symm hne)).symm
    · rw [upd_ne _ _ _ _ e]
      by_cases e2 : l = i
      · subst e2; rw [upd_at]; exact h.gv j l hj hl hne
      · rw [upd_ne _ _ _ _ e2]; exact h.gg j l hj hl hne
  · intro j k hj
    by_cases e : j = i
    · subst e; rw [upd_at]; exact h.nv j k hj
    · rw [upd_ne _ _ _ _ e]; exact h.ng j k hj
  · exact (Below.refl _ _).grown hgr h.bs (by intro j e; cases e; exact h.bG)

/-- The grown list lies elsewhere, or it goes on behind the list. -/
def SharesX (v g : Value) (y z : List Int) : Prop := Ap g.ownBlock v.ownBlock ∨ ∃ b l m c, v = .slice (some ⟨b, 0, none⟩) l c ∧ g = .slice (some ⟨b, 0, none⟩) m c ∧ l ≤ m ∧ y = z.take l
theorem SharesX.self {w : World} {base : Nat} {v : Value} {y : List Int} (h : RowX eT w base v y) : SharesX v v y y := by
  rcases h.2 with ⟨rfl, _⟩ | ⟨g, cap, cur, rfl, _⟩
  · exact .inl (Ap.none _)
  · exact .inr ⟨g, _, _, cap, rfl, rfl, Nat.le_refl _, by simp⟩
theorem SharesX.row {w : World} {base : Nat} {v g : Value} {y z : List Int} (h : SharesX v g y z) (hg : RowX eT w base g z) (hv : Ap g.ownBlock v.ownBlock → RowX eT w base v y) : RowX eT w base v y := by
  rcases h with h | ⟨b, l, m, c, rfl, rfl, hl, rfl⟩
  · exact hv h
  · have hm : m = z.length := by
      rcases hg.2 with ⟨h0, _⟩ | ⟨g', c', cur, h0, _⟩
      · cases h0
      · cases h0; rfl
    subst hm
    have := ox_take hg hl
    rw [← List.map_take] at this
    show OX _ _ _ _ _ _
    rw [show (z.take l).length = l by simp; omega]
    exact this

/-- A grown list grows by a byte. -/
theorem OSX.push (h : OSX eT sT w base bl G n vs gs ys zs) (i : Nat) (hi : i < n) (x : Int) (g c : Nat) (w' : World) (hsh : SharesX (vs i) (gs i) (ys i) (zs i))
    (h1 : OX w' base eT (.slice (some ⟨g, 0, none⟩) ((zs i).length + 1) c) ((zs i).length + 1) ((zs i).map (Value.int .u8) ++ [.int .u8 x])) (h2 : w.grownBy w' (gs i).ownBlock) (h3 : RowX eT w' base (gs i) (zs i))
    (h5 : gs i = .slice (some ⟨g, 0, none⟩) (zs i).length c ∨ w.heap.size ≤ g) :
    OSX eT sT (w'.setCell ⟨G, i, none⟩ (.slice (some ⟨g, 0, none⟩) ((zs i).length + 1) c)) base bl G n vs (updO gs i (.slice (some ⟨g, 0, none⟩) ((zs i).length + 1) c)) ys (updO zs i (zs i ++ [x])) ∧
      Below base w (w'.setCell ⟨G, i, none⟩ (.slice (some ⟨g, 0, none⟩) ((zs i).length + 1) c)) ∧ SharesX (vs i) (.slice (some ⟨g, 0, none⟩) ((zs i).length + 1) c) (ys i) (zs i ++ [x]) := by
  obtain ⟨v', hv'⟩ : ∃ v', v' = Value.slice (some ⟨g, 0, none⟩) ((zs i).length + 1) c := ⟨_, rfl⟩
  rw [← hv'] at h1 ⊢
  have h4 : (∃ g c, gs i = .slice (some ⟨g, 0, none⟩) (zs i).length c ∧ v' = .slice (some ⟨g, 0, none⟩) ((zs i).length + 1) c) ∨ ∃ g, v'.ownBlock = some g ∧ w.heap.size ≤ g := by
    rcases h5 with e | e
    · exact .inl ⟨g, c, e, hv'⟩
    · exact .inr ⟨g, by rw [hv']; rfl, e⟩
  clear h5
  have hnew : ∀ k, v'.ownBlock = some k → (gs i).ownBlock = some k ∨ w.heap.size ≤ k := by
    intro k hk
    rcases h4 with ⟨g, c, e1, e2⟩ | ⟨g, e1, e2⟩
    · rw [e2] at hk; rw [e1]; exact .inl hk
    · rw [e1] at hk; cases hk; exact .inr e2
  have hvlt : ∀ j k, j < n → (vs j).ownBlock = some k → k < w.heap.size := fun j k hj hk => ((h.rv j hj).lt k hk).2
  have hglt : ∀ j k, j < n → (gs j).ownBlock = some k → k < w.heap.size := fun j k hj hk => ((h.rg j hj).lt k hk).2
  have apv : ∀ j, j < n → j ≠ i → Ap v'.ownBlock (vs j).ownBlock := by
    intro j hj hne k hk hk2
    rcases hnew k hk with e | e
    · exact h.gv i j hi hj (Ne.symm hne) k e hk2
    · have := hvlt j k hj hk2; omega
  have apg : ∀ j, j < n → j ≠ i → Ap v'.ownBlock (gs j).ownBlock := by
    intro j hj hne k hk hk2
    rcases hnew k hk with e | e
    · exact h.gg i j hi hj (Ne.symm hne) k e hk2
    · have := hglt j k hj hk2; omega
  have hvi : RowX eT w' base (vs i) (ys i) := hsh.row h3 fun hap => (h.rv i hi).kept h2 hap.symm.or
  have hgr : w'.grownBy (w'.setCell ⟨G, i, none⟩ v') (some G) := grownBy_set (World.grownBy.refl _ _) _
  have notG : ∀ (v : Value) (hG : ∀ k, v.ownBlock = some k → k ≠ bl ∧ k ≠ G), v.ownBlock = none ∨ v.ownBlock ≠ some G := by
    intro v hG
    cases e : v.ownBlock with
    | none => exact .inl rfl
    | some k => exact .inr fun e2 => by cases e2; exact (hG G e).2 rfl
  have ng' : ∀ k, v'.ownBlock = some k → k ≠ bl ∧ k ≠ G := by
    intro k hk
    rcases hnew k hk with e | e
    · exact h.ng i k hi e
    · have a1 := h.sl.lt
      have a2 := h.sg.lt
      exact ⟨by omega, by omega⟩
  have hrow' : RowX eT w' base v' (zs i ++ [x]) := by
    show OX _ _ _ _ _ _
    simpa using h1
  have rowsg : (gs i).ownBlock ≠ some bl ∧ (gs i).ownBlock ≠ some G := ⟨fun e => (h.ng i bl hi e).1 rfl, fun e => (h.ng i G hi e).2 rfl⟩
  refine ⟨⟨?_, ?_, h.vv, ?_, ?_, (h.sl.grown h2 (Ne.symm rowsg.1)).grown hgr (by intro e; cases e; exact h.ne rfl), (h.sg.grown h2 (Ne.symm rowsg.2)).set i hi _, h.nv, ?_, h.ne, h.bG, ?_⟩, ?_, ?_⟩
  · intro j hj
    by_cases e : j = i
    · subst e; exact hvi.kept hgr (notG _ (fun k hk => h.nv j k hj hk))
    · exact ((h.rv j hj).kept h2 (h.gv i j hi hj (Ne.symm e)).symm.or).kept hgr (notG _ (fun k hk => h.nv j k hj hk))
  · intro j hj
    by_cases e : j = i
    · subst e; rw [upd_at, upd_at]; exact hrow'.kept hgr (notG _ ng')
    · rw [upd_ne _ _ _ _ e, upd_ne _ _ _ _ e]
      exact ((h.rg j hj).kept h2 (h.gg j i hj hi e).or).kept hgr (notG _ (fun k hk => h.ng j k hj hk))
  · intro j l hj hl hne
    by_cases e : j = i
    · subst e; rw [upd_at]; exact apv l hl (Ne.symm hne)
    · rw [upd_ne _ _ _ _ e]; exact h.gv j l hj hl hne
  · intro j l hj hl hne
    by_cases e : j = i
    · subst e; rw [upd_at, upd_ne _ _ _ _ (Ne.symm hne)]; exact apg l hl (Ne.symm hne)
    · rw [upd_ne _ _ _ _ e]
      by_cases e2 : l = i
      · subst e2; rw [upd_at]; exact (apg j hj e).symm
      · rw [upd_ne _ _ _ _ e2]; exact h.gg j l hj hl hne
  · intro j k hj
    by_cases e : j = i
    · subst e; rw [upd_at]; exact ng' k
    · rw [upd_ne _ _ _ _ e]; exact h.ng j k hj
  · have := h2.size
    have := h.bs
    simp [World.setCell]; omega
  · have hb1 : Below base w w' := (Below.refl _ _).grown h2 h.bs (fun k hk => ((h.rg i hi).lt k hk).1)
    exact hb1.trans ((Below.refl _ _).grown hgr (Nat.le_trans h.bs h2.size) (by intro j e; cases e; exact h.bG))
  · rcases h4 with ⟨g, c, e1, e2⟩ | ⟨g, e1, e2⟩
    · rcases hsh with hs | ⟨b, l, m, c2, a1, a2, a3, a4⟩
      · left
        rw [e2]
        rw [e1] at hs
        exact hs
      · right
        rw [e1] at a2
        cases a2
        exact ⟨g, l, _, c, a1, e2, by omega, by rw [List.take_append_of_le_length a3]; exact a4⟩
    · left
      intro k hk hk2
      rw [e1] at hk
      cases hk
      have := hvlt i g hi hk2
      omega
theorem row_shapeX {eT : TypeId} {w : World} {base : Nat} {v : Value} {ys : List Int} (h : RowX eT w base v ys) : ∃ a cap, v = .slice a ys.length cap ∧ ys.length ≤ cap ∧ (∀ k, k < ys.length → ∃ g, a = some ⟨g, 0, none⟩ ∧ w.cell? ⟨g, k, none⟩ = some (.int .u8 (ys.getD k 0)) ∧ w.frozen? ⟨g, k, none⟩ = false) := by
  rcases h.2 with ⟨rfl, h0⟩ | ⟨g, cap, cur, rfl, hb, hh, hc, _, _, ht⟩
  · exact ⟨none, 0, by rw [h0], by omega, fun k hk => by omega⟩
  · refine ⟨_, cap, rfl, hc, fun k hk => ⟨g, rfl, ?_, ?_⟩⟩
    · have := h.cells (g := g) k (.int .u8 (ys.getD k 0)) (by simp [List.getD, hk]); have hadd : (⟨g, 0, none⟩ : Addr).add k = ⟨g, k, none⟩ := (by unfold Addr.add; split <;> simp_all); rw [hadd] at this; exact this
    · simp [World.frozen?, hh]
theorem row_atX {eT : TypeId} {w : World} {base : Nat} {a : Option Addr} {m cp : Nat} {ys : List Int} (h : RowX eT w base (.slice a m cp) ys) (k : Nat) (hk : k < ys.length) : ∃ g, a = some ⟨g, 0, none⟩ ∧ w.cell? ⟨g, k, none⟩ = some (.int .u8 (ys.getD k 0)) ∧ w.frozen? ⟨g, k, none⟩ = false := by
  obtain ⟨a', cap', hv, _, hat⟩ := row_shapeX h
  cases hv
  exact hat k hk
set_option maxRecDepth 100000 in
set_option maxHeartbeats 2000000 in
theorem own_anyX (base bl n cap : Nat) (vs : Nat → Value) (ys : Nat → List Int) (w : World) (hn0 : 0 < n) (hn : n ≤ 1000) (hrv : ∀ i, i < n → RowX 5 w base (vs i) (ys i))
    (hvv : ∀ i j, i < n → j < n → i ≠ j → Ap (vs i).ownBlock (vs j).ownBlock) (hsl : Slots 22 w bl n vs) (hnv : ∀ i k, i < n → (vs i).ownBlock = some k → k ≠ bl) (hlen : ∀ i, i < n → (ys i).length ≤ 70368744177664) (hbs : base ≤ w.heap.size) :
    Calls Tryd.prog 52 #[.slice (some ⟨bl, 0, none⟩) n cap] w fun e w' => e = .returned (.bool true) ∧ Below base w w' := by
  obtain ⟨i0, hi, hz0, hz1, hz2⟩ := info_parts info_u8o
  obtain ⟨j0, hj, hy0, hy1, hy2⟩ := info_parts info_sl
  go_enter Tryd.func52, Tryd.ntmps52
  go_wp2_with (at_make; refine wpList_make_full _ rfl _ _ 173 rfl w.heap.size 22 j0 (.slice none 0 0) 1 Tryd.underlying173 hj hy0 hy1 .i64 .i64 _ _ n rfl rfl rfl rfl (by rw [hy2]; omega) (by unfold maxLen; omega) (Nat.le_refl _) ?_; intro w1 hown1 hgrow1)
  rw [Nat.mul_one, show (Value.slice none 0 0).cells = #[.slice none 0 0] from rfl, toList_madeCells_one] at hown1
  have hG := slots_made hown1 hn0
  have hb1 : Below base w w1 := (Below.refl _ _).grown hgrow1 hbs (by intro k e; cases e)
  have hos : OSX 5 22 w1 base bl w.heap.size n vs (fun _ => .slice none 0 0) ys (fun _ => []) := by
    refine ⟨fun i hi => (hrv i hi).kept hgrow1 ?_, fun i hi => OX.of (World.ownsRow_nil _ _ _ _), hvv, fun i j _ _ _ => Ap.none _, fun i j _ _ _ => Ap.none _, hsl.grown hgrow1 (by simp), hG, fun i k hi hk => ⟨hnv i k hi hk, ?_⟩, (fun i k _ hk => by cases hk), ?_, hbs, Nat.le_trans hbs hgrow1.size⟩
    · cases (vs i).ownBlock <;> simp
    · have := ((hrv i hi).lt k hk).2; omega
    · have := hsl.lt; omega
  clear hown1 hG hrv hsl
  generalize w.heap.size = G at *
  go_loopw [19] (fun i wr => ∃ k : Nat, k ≤ n ∧ i = .int .i64 k ∧ OSX 5 22 wr base bl G n vs (fun _ => .slice none 0 0) (markF k ys) (fun _ => []) ∧ Below base w wr) (fun i _ => n - (intOf i).toNat)
  case atStart => exact ⟨0, Nat.zero_le _, rfl, by rw [markF_zero]; exact hos, hb1⟩
  case round =>
    obtain ⟨k, hk, rfl, hst, hb⟩ := hrel
    by_cases hlt : k < n
    · have hlti : (k : Int) < (n : Int) := by omega
      have hc := hst.sl.cell k hlt
      obtain ⟨a, cp, hv, hcp, hat⟩ := row_shapeX (hst.rv k hlt)
      have hln := hlen k hlt
      have hm : markF k ys k = ys k := by simp [markF]
      rw [hm] at hv hcp hat
      rw [hv] at hc
      obtain ⟨wo, rfl⟩ : ∃ wo : World, wo = wr := ⟨_, rfl⟩
      clear hat
      have HV : Hid (vs k = .slice a (ys k).length cp) := hv
      clear hv hm hos hb1 hgrow1
      go_wp2
      go_loopw [26] (fun t wr => ∃ j : Nat, j ≤ (ys k).length ∧ t = .int .i64 j ∧ OSX 5 22 wr base bl G n vs (fun _ => .slice none 0 0) (pmF k j ys) (fun _ => []) ∧ Below base w wr) (fun t _ => (ys k).length - (intOf t).toNat)
      case atStart => exact ⟨0, Nat.zero_le _, rfl, by rw [pmF_zero]; exact hst, hb⟩
      case round =>
        obtain ⟨j, hj2, rfl, hst2, hb2⟩ := hrel
        by_cases hjl : j < (ys k).length
        · have hr := hst2.rv k hlt
          have hl2 := pmF_len k j ys hj2
          rw [HV.out] at hr
          obtain ⟨g, rfl, hcl, hfz⟩ := row_atX hr j (by omega)
          have hmk := hst2.mark k j g cp _ (((k : Int) + 7 * (j : Int)) % 256) hlt HV.out hjl (fun _ _ => rfl)
          rw [pmF_step k j ys hjl] at hmk
          have hji : (j : Int) < ((ys k).length : Int) := by omega
          clear hr hst2 hst hlen hc hvv hnv
          go_wp2
          go_roundw
          case rel => exact ⟨j + 1, by omega, by go_num, hmk.1, hb2.trans hmk.2⟩
          case measure => simp [intOf]; omega
        · obtain rfl : j = (ys k).length := by omega
          rw [pmF_end] at hst2
          clear hjl hst hc
          go_wp2
          go_roundw
          case rel => exact ⟨k + 1, by omega, by go_num, hst2, hb2⟩
          case measure => simp [intOf]; omega
    · obtain rfl : n = k := by omega
      clear hlt hk hos hb1 hgrow1 hnv hvv
      have hml : Hid (∀ i, (markF n ys i).length = (ys i).length) := fun i => markF_len n i ys
      go_wp2
      have HM : Hid (∀ i, i < n → markF n ys i = markL i (ys i).length) := fun i hi => markF_at n i ys hi
      generalize markF n ys = mk at *
      obtain ⟨wp, rfl⟩ : ∃ wp : World, wp = wr := ⟨_, rfl⟩
      go_loopw [41] (fun t wr => ∃ (k : Nat) (gs : Nat → Value) (zs : Nat → List Int), k ≤ n ∧ t = .int .i64 k ∧ OSX 5 22 wr base bl G n vs gs mk zs ∧ Below base w wr ∧ (∀ i, i < k → zs i = mk i ++ tailL i 24)) (fun t _ => n - (intOf t).toNat)
      case atStart => exact ⟨0, _, _, Nat.zero_le _, rfl, hst, hb, fun i hi => by omega⟩
      case round =>
        clear hst hb
        obtain ⟨k, gs, zs, hk, rfl, hst, hb, hzs⟩ := hrel
        by_cases hlt : k < n
        · have hlti : (k : Int) < (n : Int) := by omega
          have hln := hlen k hlt
          have hc := hst.sl.cell k hlt
          have hcg := hst.sg.cell k hlt
          have hfg := hst.sg.free k
          have hss := hst.start k hlt
          have hsh := SharesX.self (hst.rv k hlt)
          obtain ⟨a, cp, hv, hcp, _⟩ := row_shapeX (hst.rv k hlt)
          rw [hml.out k] at hv hcp
          rw [hv] at hc
          have HV : Hid (vs k = .slice a (ys k).length cp) := hv
          rw [hv] at hss
          obtain ⟨u, hu⟩ : ∃ u, u = gs k := ⟨_, rfl⟩
          rw [← hu] at hcg
          clear hu hv hst
          obtain ⟨wo, rfl⟩ : ∃ wo : World, wo = wr := ⟨_, rfl⟩
          have hsh0 : SharesX (.slice a (ys k).length cp) (.slice a (ys k).length cp) (mk k) (mk k) := by rw [← HV.out]; exact hsh
          clear hsh
          go_wp2
          go_loopw [9] (fun t wr => ∃ (j : Nat) (gs : Nat → Value) (zs : Nat → List Int), j ≤ 24 ∧ t = .int .i64 j ∧ OSX 5 22 wr base bl G n vs gs mk zs ∧ Below base w wr ∧ (∀ i, i < k → zs i = mk i ++ tailL i 24) ∧ zs k = mk k ++ tailL k j ∧ SharesX (vs k) (gs k) (mk k) (zs k)) (fun t _ => 24 - (intOf t).toNat)
          case atStart => exact ⟨0, _, _, by omega, rfl, hss.1, hb.trans hss.2, fun i hi => by rw [upd_ne _ _ _ _ (by omega)]; exact hzs i hi, by rw [upd_at]; simp [tailL], by rw [upd_at, upd_at, HV.out]; exact hsh0⟩
          case round =>
            clear hss hb hzs hsh0 hc hcg hfg
            obtain ⟨j, gs, zs, hj2, rfl, hst, hb, hzs, hzk, hsh⟩ := hrel
            by_cases hjl : j < 24
            · have hcg := hst.sg.cell k hlt
              have hrg := hst.rg k hlt
              obtain ⟨ga, gc, hgv, _, _⟩ := row_shapeX hrg
              have hzl : (zs k).length = (ys k).length + j := by rw [hzk]; simp [tailL_len, hml.out]
              have HZ : Hid (zs k = mk k ++ tailL k j) := hzk
              have HL : Hid ((zs k).length = (ys k).length + j) := hzl
              rw [hgv] at hcg
              have HG : Hid (gs k = .slice ga (zs k).length gc) := hgv
              have hszr := hst.bs
              have hrow : OX wr base 5 (.slice ga (zs k).length gc) (zs k).length ((zs k).map (Value.int .u8)) := by rw [← hgv]; exact hrg
              have hGne : some G ≠ (Value.slice ga (zs k).length gc).ownBlock := by rw [← hgv]; intro e; exact (hst.ng k G hlt e.symm).2 rfl
              have HGrow : Hid (∀ (w2 : World), wr.grownBy w2 (Value.slice ga (zs k).length gc).ownBlock → Slots 22 w2 G n gs) := fun w2 hg => hst.sg.grown hg hGne
              clear hzk hzl hgv hrg
              go_wp2_with (at_builtin; refine wpList_push_x rfl _ _ 22 rfl base 5 i0 (.int .u8 0) 1 Tryd.underlying22 hi hz0 hz1 hz2 rfl wr (.int .u8 (((k : Int) + 131 + 3 * (j : Int)) % 256)) rfl hrow rfl rfl (by rw [HL.out]; omega) (by rw [HL.out]; omega) hszr ?_; intro g2 c2 w2 p1 p2 p3 p4; have hcg2 := (HGrow.out w2 p2).cell k hlt; have hfg2 := (HGrow.out w2 p2).free k; rw [HG.out] at hcg2)
              have hps := hst.push k hlt (((k : Int) + 131 + 3 * (j : Int)) % 256) g2 c2 w2 hsh p1 (by rw [HG.out]; exact p2) (by rw [HG.out]; exact p3) (by rw [HG.out]; exact p4)
              go_roundw
              case rel => exact ⟨j + 1, _, _, by omega, by go_num, hps.1, hb.trans hps.2.1, fun i hi => by rw [upd_ne _ _ _ _ (by omega)]; exact hzs i hi, by rw [upd_at, HZ.out, tailL_succ, List.append_assoc], by rw [upd_at, upd_at]; exact hps.2.2⟩
              case measure => simp [intOf]; omega
            · obtain rfl : j = 24 := by omega
              clear hjl hsh
              go_wp2
              go_roundw
              case rel => exact ⟨k + 1, gs, zs, by omega, by go_num, hst, hb, fun i hi => by
                by_cases e : i = k
                · subst e; exact hzk
                · exact hzs i (by omega)⟩
              case measure => simp [intOf]; omega
        · obtain rfl : n = k := by omega
          clear hlt hk
          go_wp2
          go_loop [72] (fun t => ∃ k : Nat, k ≤ n ∧ t = .int .i64 k) (fun t => n - (intOf t).toNat)
          case atStart => exact ⟨0, Nat.zero_le _, rfl⟩
          case round =>
            obtain ⟨k, hk, rfl⟩ := hrel
            by_cases hlt : k < n
            · have hlti : (k : Int) < (n : Int) := by omega
              have hln := hlen k hlt
              have hc := hst.sl.cell k hlt
              have hcg := hst.sg.cell k hlt
              have hrv := hst.rv k hlt
              have hrg := hst.rg k hlt
              obtain ⟨a, cp, hv, hcp, _⟩ := row_shapeX hrv
              obtain ⟨ga, gc, hgv, hgc, _⟩ := row_shapeX hrg
              have hzl : (zs k).length = (ys k).length + 24 := by rw [hzs k hlt]; simp [tailL_len, hml.out]
              rw [hml.out k] at hv hcp
              rw [hzl] at hgv hgc
              rw [hv] at hc hrv
              rw [hgv] at hcg hrg
              have HB : Hid (∀ j, j < (ys k).length → ∃ g, a = some ⟨g, 0, none⟩ ∧ wr.cell? ⟨g, j, none⟩ = some (.int .u8 (((k : Int) + 7 * (j : Int)) % 256))) := by
                intro j hj
                obtain ⟨g, h1, h2, _⟩ := row_atX hrv j (by rw [hml.out]; exact hj)
                rw [HM.out k hlt, markL_get _ _ _ hj] at h2
                exact ⟨g, h1, h2⟩
              have HT : Hid (∀ j, j < 24 → ∃ g, ga = some ⟨g, 0, none⟩ ∧ wr.cell? ⟨g, (ys k).length + j, none⟩ = some (.int .u8 (((k : Int) + 131 + 3 * (j : Int)) % 256))) := by
                intro j hj
                obtain ⟨g, h1, h2, _⟩ := row_atX hrg ((ys k).length + j) (by omega)
                rw [hzs k hlt] at h2
                have e : (mk k ++ tailL k 24).getD ((ys k).length + j) 0 = ((k : Int) + 131 + 3 * (j : Int)) % 256 := by
                  have hmk := hml.out k
                  rw [List.getD, List.getElem?_append_right (by omega), show (ys k).length + j - (mk k).length = j by omega]
                  exact tailL_get k 24 j hj
                rw [e] at h2
                exact ⟨g, h1, h2⟩
              clear hrv hrg hv hgv hzl
              go_wp2
              go_loop [79] (fun t => ∃ j : Nat, j ≤ (ys k).length ∧ t = .int .i64 j) (fun t => (ys k).length - (intOf t).toNat)
              case atStart => exact ⟨0, Nat.zero_le _, rfl⟩
              case round =>
                obtain ⟨j, hj2, rfl⟩ := hrel
                by_cases hjl : j < (ys k).length
                · have hji : (j : Int) < ((ys k).length : Int) := by omega
                  obtain ⟨g, rfl, hcl⟩ := HB.out j hjl
                  go_wp2
                  go_round
                  case rel => exact ⟨j + 1, by omega, by go_num⟩
                  case measure => simp [intOf]; omega
                · obtain rfl : j = (ys k).length := by omega
                  clear hjl hj2
                  go_wp2
                  go_loop [13] (fun t => ∃ j : Nat, j ≤ 24 ∧ t = .int .i64 j) (fun t => 24 - (intOf t).toNat)
                  case atStart => exact ⟨0, by omega, rfl⟩
                  case round =>
                    obtain ⟨j, hj2, rfl⟩ := hrel
                    by_cases hjl : j < 24
                    · obtain ⟨g, rfl, hcl⟩ := HT.out j hjl
                      have hji : ((ys k).length : Int) + (j : Int) < ((ys k).length : Int) + 24 := by omega
                      go_wp2
                      go_round
                      case rel => exact ⟨j + 1, by omega, by go_num⟩
                      case measure => simp [intOf]; omega
                    · obtain rfl : j = 24 := by omega
                      go_wp2
                      go_round
                      case rel => exact ⟨k + 1, by omega, by go_num⟩
                      case measure => simp [intOf]; omega
            · obtain rfl : n = k := by omega
              clear hlt hk
              go_wp2
              go_ret
              exact ⟨rfl, hb⟩
theorem own_twoX (base : Nat) (x z : Value) (xs zs : List Int) (w : World) (hx : RowX 5 w base x xs) (hz : RowX 5 w base z zs) (hap : Ap x.ownBlock z.ownBlock) (lx : xs.length ≤ 70368744177664) (lz : zs.length ≤ 70368744177664) (hb : base ≤ w.heap.size) :
    Calls Tryd.prog 52 #[.slice (some ⟨w.heap.size, 0, none⟩) 2 2] (w.alloc (.cells #[x, z] 22)) fun e w' => e = .returned (.bool true) ∧ Below base w w' := by
  have hb0 : Below base w (w.alloc (.cells #[x, z] 22)) := (Below.refl _ _).alloc hb _
  have hbs : Below w.heap.size w (w.alloc (.cells #[x, z] 22)) := (Below.refl _ _).alloc (Nat.le_refl _) _
  refine (own_anyX base w.heap.size 2 2 (two x z) (two xs zs) (w.alloc (.cells #[x, z] 22)) (by decide) (by decide) ?_ ?_ ?_ ?_ ?_ (by simp; omega)).mono ?_
  · intro i hi
    match i, hi with
    | 0, _ => exact hx.below hbs
    | 1, _ => exact hz.below hbs
  · intro i j hi hj hne
    match i, j, hi, hj with
    | 0, 0, _, _ => exact absurd rfl hne
    | 0, 1, _, _ => exact hap
    | 1, 0, _, _ => exact hap.symm
    | 1, 1, _, _ => exact absurd rfl hne
  · refine ⟨#[x, z], heap_alloc_new w _, rfl, fun i hi => ?_⟩
    match i, hi with
    | 0, _ => rfl
    | 1, _ => rfl
  · intro i k hi hk
    match i, hi with
    | 0, _ => have := (hx.lt k hk).2; omega
    | 1, _ => have := (hz.lt k hk).2; omega
  · intro i hi
    match i, hi with
    | 0, _ => exact lx
    | 1, _ => exact lz
  · rintro e w' ⟨rfl, hb1⟩
    exact ⟨rfl, hb0.trans hb1⟩

end Go.Proofs.YtmjlpfmacblcpaaDoor

namespace Go.Proofs.YtmjlpfmacblcpaaDoor
open Go.ChangeShapes Go.WideShapes Go.ChangeAt Go.RowKit
set_option linter.unusedVariables false
/-- A slice of whole numbers that came in: what lies there, and how it was read. -/
theorem open_seg {H : Type} {enc : TypeId × Value → H} {P : Program} {W : World} {T e : TypeId} {k : IntKind} {M : Int} {a : Option Addr} {len cap : Nat} {d : DataW H} {p : List MemPlace}
    (hT : P.underlying T = some (.slice e)) (he : P.underlying e = some (.int k)) (hc : P.cellsOf e = 1) (hM : 0 ≤ M) (hwf : ∀ n, (Lit.int k n).wf = true → 0 ≤ n ∧ n ≤ M)
    (h : DataW.Trod enc P W 0 (fun _ => true) true T (.slice a len cap) d p) :
    ∃ zs : List Int, zs.length = len ∧ SegK k M W a zs ∧ len ≤ cap ∧ (a = none → cap = 0) ∧ ((d = .nil ∧ len = 0) ∨ ∃ elems spare, d = .slice elems spare ∧ elems.length = len) := by
  obtain ⟨fuel, hf⟩ := h
  rcases open_ints hT he hc hf with ⟨hcs, hx⟩ | ⟨x, l, c, zs, hcs, _, hl, hm, hz, hx, hcell, hwz⟩
  · simp [Value.cells] at hcs
    obtain ⟨rfl, rfl, rfl⟩ := hcs
    simp only [Prod.mk.injEq] at hx
    exact ⟨[], rfl, SegK.nil hM _ _, Nat.le_refl _, fun _ => rfl, Or.inl ⟨hx.1, rfl⟩⟩
  · simp [Value.cells] at hcs
    obtain ⟨rfl, rfl, rfl⟩ := hcs
    simp only [Prod.mk.injEq] at hx
    simp only [if_true] at hz
    refine ⟨zs.take len, by simp; omega, ⟨fun i hi => ?_, hM, getD_bd hM ?_⟩, hl, (by intro h; cases h), Or.inr ⟨_, _, hx.1, by simp [ChangeShapes.lits]; omega⟩⟩
    · simp at hi
      have hi2 : i < len := by omega
      have h1 := hcell i (by omega)
      obtain ⟨b, off, spot⟩ := x
      have hs : spot = none := by
        have := hcell 0 (by omega)
        simpa [Addr.add] using World.cell?_spot this
      subst hs
      refine ⟨b, off, rfl, ?_⟩
      have hadd : (⟨b, off, none⟩ : Addr).add i = ⟨b, off + i, none⟩ := by unfold Addr.add; split <;> simp_all
      rw [hadd] at h1
      rw [h1]
      simp [List.getD, hi2]
    · intro z hz1
      exact hwf z (hwz z (List.mem_of_mem_take hz1))
end Go.Proofs.YtmjlpfmacblcpaaDoor
