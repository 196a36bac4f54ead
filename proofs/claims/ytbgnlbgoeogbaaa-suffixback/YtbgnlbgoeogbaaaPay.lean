import Derived.Test.YtbgnlbgoeogbaaaProg
import Derived.Test.YtbgnlbgoeogbaaaPax
import Derived.WalkKit
import Derived.WalkSpells
import Derived.WalkLawsBesides
import Derived.Test.YtbgnlbgoeogbaaaPaa
import Derived.Test.YtbgnlbgoeogbaaaPaw
import Derived.Test.YtbgnlbgoeogbaaaPas
import Derived.Test.YtbgnlbgoeogbaaaPar
namespace Go.Proofs.Ytbgnlbgoeogbaaa
open Go.RowKit
set_option linter.unusedVariables false

theorem info_sl : (Try.prog.info? 41).map (fun i => (i.zero, i.size, i.bytes)) = some (some (.slice none 0 0), 1, 24) := by kernel_rfl
theorem info_u8o : (Try.prog.info? 5).map (fun i => (i.zero, i.size, i.bytes)) = some (some (.int .u8 0), 1, 1) := by kernel_rfl

set_option maxRecDepth 100000 in
set_option maxHeartbeats 2000000 in
theorem own_any (base bl n cap : Nat) (vs : Nat → Value) (ys : Nat → List Int) (w : World) (hn0 : 0 < n) (hn : n ≤ 1000) (hrv : ∀ i, i < n → Row 5 w base (vs i) (ys i))
    (hvv : ∀ i j, i < n → j < n → i ≠ j → Ap (vs i).ownBlock (vs j).ownBlock) (hsl : Slots 41 w bl n vs) (hnv : ∀ i k, i < n → (vs i).ownBlock = some k → k ≠ bl) (hlen : ∀ i, i < n → (ys i).length ≤ 70368744177664) (hbs : base ≤ w.heap.size) :
    Calls Try.prog 28 #[.slice (some ⟨bl, 0, none⟩) n cap] w fun e w' => e = .returned (.bool true) ∧ Below base w w' := by
  obtain ⟨i0, hi, hz0, hz1, hz2⟩ := info_parts info_u8o
  obtain ⟨j0, hj, hy0, hy1, hy2⟩ := info_parts info_sl
  go_enter Try.func28, Try.ntmps28
  go_wp2_with (at_make; refine wpList_make_full _ rfl _ _ 76 rfl w.heap.size 41 j0 (.slice none 0 0) 1 Try.underlying76 hj hy0 hy1 .i64 .i64 _ _ n rfl rfl rfl rfl (by rw [hy2]; omega) (by unfold maxLen; omega) (Nat.le_refl _) ?_; intro w1 hown1 hgrow1)
  rw [Nat.mul_one, show (Value.slice none 0 0).cells = #[.slice none 0 0] from rfl, toList_madeCells_one] at hown1
  have hG := slots_made hown1 hn0
  have hb1 : Below base w w1 := (Below.refl _ _).grown hgrow1 hbs (by intro k e; cases e)
  have hos : OS 5 41 w1 base bl w.heap.size n vs (fun _ => .slice none 0 0) ys (fun _ => []) := by
    refine ⟨fun i hi => (hrv i hi).kept hgrow1 ?_, fun i hi => World.ownsRow_nil _ _ _ _, hvv, fun i j _ _ _ => Ap.none _, fun i j _ _ _ => Ap.none _, hsl.grown hgrow1 (by simp), hG, fun i k hi hk => ⟨hnv i k hi hk, ?_⟩, (fun i k _ hk => by cases hk), ?_, hbs, Nat.le_trans hbs hgrow1.size⟩
    · cases (vs i).ownBlock <;> simp
    · have := ((hrv i hi).lt k hk).2; omega
    · have := hsl.lt; omega
  clear hown1 hG hrv hsl
  generalize w.heap.size = G at *
  go_loopw [19] (fun i wr => ∃ k : Nat, k ≤ n ∧ i = .int .i64 k ∧ OS 5 41 wr base bl G n vs (fun _ => .slice none 0 0) (markF k ys) (fun _ => []) ∧ Below base w wr) (fun i _ => n - (intOf i).toNat)
  case atStart => exact ⟨0, Nat.zero_le _, rfl, by rw [markF_zero]; exact hos, hb1⟩
  case round =>
    obtain ⟨k, hk, rfl, hst, hb⟩ := hrel
    by_cases hlt : k < n
    · have hlti : (k : Int) < (n : Int) := by omega
      have hc := hst.sl.cell k hlt
      obtain ⟨a, cp, hv, hcp, hat⟩ := row_shape (hst.rv k hlt)
      have hln := hlen k hlt
      have hm : markF k ys k = ys k := by simp [markF]
      rw [hm] at hv hcp hat
      rw [hv] at hc
      obtain ⟨wo, rfl⟩ : ∃ wo : World, wo = wr := ⟨_, rfl⟩
      clear hat
      have HV : Hid (vs k = .slice a (ys k).length cp) := hv
      clear hv hm hos hb1 hgrow1
      go_wp2
      go_loopw [26] (fun t wr => ∃ j : Nat, j ≤ (ys k).length ∧ t = .int .i64 j ∧ OS 5 41 wr base bl G n vs (fun _ => .slice none 0 0) (pmF k j ys) (fun _ => []) ∧ Below base w wr) (fun t _ => (ys k).length - (intOf t).toNat)
      case atStart => exact ⟨0, Nat.zero_le _, rfl, by rw [pmF_zero]; exact hst, hb⟩
      case round =>
        obtain ⟨j, hj2, rfl, hst2, hb2⟩ := hrel
        by_cases hjl : j < (ys k).length
        · have hr := hst2.rv k hlt
          have hl2 := pmF_len k j ys hj2
          rw [HV.out] at hr
          obtain ⟨g, rfl, hcl, hfz⟩ := row_at hr j (by omega)
          have hmk := hst2.mark k j g cp _ (((k : Int) + 7 * (j : Int)) % 256) hlt HV.out hjl (fun _ _ => rfl)
          rw [pmF_step k j ys hjl] at hmk
          have hji : (j : Int) < ((ys k).length : Int) := by omega
          clear hr hst2 hst hlen hc hvv hnv
          go_wp2
          go_roundw
          case rel => exact ⟨j + 1, by omega, by go_num, hmk.1, hb2.trans hmk.2⟩
          case measure => simp [intOf]; omega
        · obtain rfl : j = (ys k).length := by omega
          rw [pmF_end] at hst2
          clear hjl hst hc
          go_wp2
          go_roundw
          case rel => exact ⟨k + 1, by omega, by go_num, hst2, hb2⟩
          case measure => simp [intOf]; omega
    · obtain rfl : n = k := by omega
      clear hlt hk hos hb1 hgrow1 hnv hvv
      have hml : Hid (∀ i, (markF n ys i).length = (ys i).length) := fun i => markF_len n i ys
      go_wp2
      have HM : Hid (∀ i, i < n → markF n ys i = markL i (ys i).length) := fun i hi => markF_at n i ys hi
      generalize markF n ys = mk at *
      obtain ⟨wp, rfl⟩ : ∃ wp : World, wp = wr := ⟨_, rfl⟩
      go_loopw [41] (fun t wr => ∃ (k : Nat) (gs : Nat → Value) (zs : Nat → List Int), k ≤ n ∧ t = .int .i64 k ∧ OS 5 41 wr base bl G n vs gs mk zs ∧ Below base w wr ∧ (∀ i, i < k → zs i = mk i ++ tailL i 24)) (fun t _ => n - (intOf t).toNat)
      case atStart => exact ⟨0, _, _, Nat.zero_le _, rfl, hst, hb, fun i hi => by omega⟩
      case round =>
        clear hst hb
        obtain ⟨k, gs, zs, hk, rfl, hst, hb, hzs⟩ := hrel
        by_cases hlt : k < n
        · have hlti : (k : Int) < (n : Int) := by omega
          have hln := hlen k hlt
          have hc := hst.sl.cell k hlt
          have hcg := hst.sg.cell k hlt
          have hfg := hst.sg.free k
          have hss := hst.start k hlt
          have hsh := Shares.self (hst.rv k hlt)
          obtain ⟨a, cp, hv, hcp, _⟩ := row_shape (hst.rv k hlt)
          rw [hml.out k] at hv hcp
          rw [hv] at hc
          have HV : Hid (vs k = .slice a (ys k).length cp) := hv
          rw [hv] at hss
          obtain ⟨u, hu⟩ : ∃ u, u = gs k := ⟨_, rfl⟩
          rw [← hu] at hcg
          clear hu hv hst
          obtain ⟨wo, rfl⟩ : ∃ wo : World, wo = wr := ⟨_, rfl⟩
          have hsh0 : Shares (.slice a (ys k).length cp) (.slice a (ys k).length cp) (mk k) (mk k) := by rw [← HV.out]; exact hsh
          clear hsh
          go_wp2
          go_loopw [9] (fun t wr => ∃ (j : Nat) (gs : Nat → Value) (zs : Nat → List Int), j ≤ 24 ∧ t = .int .i64 j ∧ OS 5 41 wr base bl G n vs gs mk zs ∧ Below base w wr ∧ (∀ i, i < k → zs i = mk i ++ tailL i 24) ∧ zs k = mk k ++ tailL k j ∧ Shares (vs k) (gs k) (mk k) (zs k)) (fun t _ => 24 - (intOf t).toNat)
          case atStart => exact ⟨0, _, _, by omega, rfl, hss.1, hb.trans hss.2, fun i hi => by rw [upd_ne _ _ _ _ (by omega)]; exact hzs i hi, by rw [upd_at]; simp [tailL], by rw [upd_at, upd_at, HV.out]; exact hsh0⟩
          case round =>
            clear hss hb hzs hsh0 hc hcg hfg
            obtain ⟨j, gs, zs, hj2, rfl, hst, hb, hzs, hzk, hsh⟩ := hrel
            by_cases hjl : j < 24
            · have hcg := hst.sg.cell k hlt
              have hrg := hst.rg k hlt
              obtain ⟨ga, gc, hgv, _, _⟩ := row_shape hrg
              have hzl : (zs k).length = (ys k).length + j := by rw [hzk]; simp [tailL_len, hml.out]
              have HZ : Hid (zs k = mk k ++ tailL k j) := hzk
              have HL : Hid ((zs k).length = (ys k).length + j) := hzl
              rw [hgv] at hcg
              have HG : Hid (gs k = .slice ga (zs k).length gc) := hgv
              have hszr := hst.bs
              have hrow : wr.ownsRow base 5 1 (.slice ga (zs k).length gc) (zs k).length ((zs k).map (Value.int .u8)) := by rw [← hgv]; exact hrg
              have hGne : some G ≠ (Value.slice ga (zs k).length gc).ownBlock := by rw [← hgv]; intro e; exact (hst.ng k G hlt e.symm).2 rfl
              have HGrow : Hid (∀ (w2 : World), wr.grownBy w2 (Value.slice ga (zs k).length gc).ownBlock → Slots 41 w2 G n gs) := fun w2 hg => hst.sg.grown hg hGne
              clear hzk hzl hgv hrg
              go_wp2_with (at_builtin; refine wpList_push_st rfl _ _ 41 rfl base 5 i0 (.int .u8 0) 1 Try.underlying41 hi hz0 hz1 hz2 rfl wr (.int .u8 (((k : Int) + 131 + 3 * (j : Int)) % 256)) rfl hrow rfl rfl (by rw [HL.out]; omega) (by rw [HL.out]; omega) hszr ?_; intro g2 c2 w2 p1 p2 p3 p4; have hcg2 := (HGrow.out w2 p2).cell k hlt; have hfg2 := (HGrow.out w2 p2).free k; rw [HG.out] at hcg2)
              have hps := hst.push k hlt (((k : Int) + 131 + 3 * (j : Int)) % 256) g2 c2 w2 hsh p1 (by rw [HG.out]; exact p2) (by rw [HG.out]; exact p3) (by rw [HG.out]; exact p4)
              go_roundw
              case rel => exact ⟨j + 1, _, _, by omega, by go_num, hps.1, hb.trans hps.2.1, fun i hi => by rw [upd_ne _ _ _ _ (by omega)]; exact hzs i hi, by rw [upd_at, HZ.out, tailL_succ, List.append_assoc], by rw [upd_at, upd_at]; exact hps.2.2⟩
              case measure => simp [intOf]; omega
            · obtain rfl : j = 24 := by omega
              clear hjl hsh
              go_wp2
              go_roundw
              case rel => exact ⟨k + 1, gs, zs, by omega, by go_num, hst, hb, fun i hi => by
                by_cases e : i = k
                · subst e; exact hzk
                · exact hzs i (by omega)⟩
              case measure => simp [intOf]; omega
        · obtain rfl : n = k := by omega
          clear hlt hk
          go_wp2
          go_loop [72] (fun t => ∃ k : Nat, k ≤ n ∧ t = .int .i64 k) (fun t => n - (intOf t).toNat)
          case atStart => exact ⟨0, Nat.zero_le _, rfl⟩
          case round =>
            obtain ⟨k, hk, rfl⟩ := hrel
            by_cases hlt : k < n
            · have hlti : (k : Int) < (n : Int) := by omega
              have hln := hlen k hlt
              have hc := hst.sl.cell k hlt
              have hcg := hst.sg.cell k hlt
              have hrv := hst.rv k hlt
              have hrg := hst.rg k hlt
              obtain ⟨a, cp, hv, hcp, _⟩ := row_shape hrv
              obtain ⟨ga, gc, hgv, hgc, _⟩ := row_shape hrg
              have hzl : (zs k).length = (ys k).length + 24 := by rw [hzs k hlt]; simp [tailL_len, hml.out]
              rw [hml.out k] at hv hcp
              rw [hzl] at hgv hgc
              rw [hv] at hc hrv
              rw [hgv] at hcg hrg
              have HB : Hid (∀ j, j < (ys k).length → ∃ g, a = some ⟨g, 0, none⟩ ∧ wr.cell? ⟨g, j, none⟩ = some (.int .u8 (((k : Int) + 7 * (j : Int)) % 256))) := by
                intro j hj
                obtain ⟨g, h1, h2, _⟩ := row_at hrv j (by rw [hml.out]; exact hj)
                rw [HM.out k hlt, markL_get _ _ _ hj] at h2
                exact ⟨g, h1, h2⟩
              have HT : Hid (∀ j, j < 24 → ∃ g, ga = some ⟨g, 0, none⟩ ∧ wr.cell? ⟨g, (ys k).length + j, none⟩ = some (.int .u8 (((k : Int) + 131 + 3 * (j : Int)) % 256))) := by
                intro j hj
                obtain ⟨g, h1, h2, _⟩ := row_at hrg ((ys k).length + j) (by omega)
                rw [hzs k hlt] at h2
                have e : (mk k ++ tailL k 24).getD ((ys k).length + j) 0 = ((k : Int) + 131 + 3 * (j : Int)) % 256 := by
                  have hmk := hml.out k
                  rw [List.getD, List.getElem?_append_right (by omega), show (ys k).length + j - (mk k).length = j by omega]
                  exact tailL_get k 24 j hj
                rw [e] at h2
                exact ⟨g, h1, h2⟩
              clear hrv hrg hv hgv hzl
              go_wp2
              go_loop [79] (fun t => ∃ j : Nat, j ≤ (ys k).length ∧ t = .int .i64 j) (fun t => (ys k).length - (intOf t).toNat)
              case atStart => exact ⟨0, Nat.zero_le _, rfl⟩
              case round =>
                obtain ⟨j, hj2, rfl⟩ := hrel
                by_cases hjl : j < (ys k).length
                · have hji : (j : Int) < ((ys k).length : Int) := by omega
                  obtain ⟨g, rfl, hcl⟩ := HB.out j hjl
                  go_wp2
                  go_round
                  case rel => exact ⟨j + 1, by omega, by go_num⟩
                  case measure => simp [intOf]; omega
                · obtain rfl : j = (ys k).length := by omega
                  clear hjl hj2
                  go_wp2
                  go_loop [13] (fun t => ∃ j : Nat, j ≤ 24 ∧ t = .int .i64 j) (fun t => 24 - (intOf t).toNat)
                  case atStart => exact ⟨0, by omega, rfl⟩
                  case round =>
                    obtain ⟨j, hj2, rfl⟩ := hrel
                    by_cases hjl : j < 24
                    · obtain ⟨g, rfl, hcl⟩ := HT.out j hjl
                      have hji : ((ys k).length : Int) + (j : Int) < ((ys k).length : Int) + 24 := by omega
                      go_wp2
                      go_round
                      case rel => exact ⟨j + 1, by omega, by go_num⟩
                      case measure => simp [intOf]; omega
                    · obtain rfl : j = 24 := by omega
                      go_wp2
                      go_round
                      case rel => exact ⟨k + 1, by omega, by go_num⟩
                      case measure => simp [intOf]; omega
            · obtain rfl : n = k := by omega
              clear hlt hk
              go_wp2
              go_ret
              exact ⟨rfl, hb⟩
end Go.Proofs.Ytbgnlbgoeogbaaa

namespace Go.Proofs.Ytbgnlbgoeogbaaa
open Go.RowKit
set_option linter.unusedVariables false

def two {α : Type} (x y : α) : Nat → α := fun i => if i = 0 then x else y
def three {α : Type} (x y z : α) : Nat → α := fun i => if i = 0 then x else if i = 1 then y else z

theorem row_below {eT : TypeId} {w w' : World} {base : Nat} {v : Value} {ys : List Int} (h : Row eT w base v ys) (hb : Below w.heap.size w w') : Row eT w' base v ys := own_below h hb
theorem row_base {eT : TypeId} {w : World} {base base' : Nat} {v : Value} {ys : List Int} (h : Row eT w base v ys) (hb : base' ≤ base) : Row eT w base' v ys := own_base h hb
theorem row_seg {eT : TypeId} {w : World} {base : Nat} {a : Option Addr} {n cap : Nat} {ys : List Int} (h : Row eT w base (.slice a n cap) ys) (hb : ∀ z ∈ ys, 0 ≤ z ∧ z ≤ 255) : Seg w a ys ∧ ys.length ≤ cap ∧ (a = none → cap = 0) := by
  obtain ⟨_, a', c', hv, hs, hx, hc, _⟩ := own_seg h (M := 255) (by decide) hb
  cases hv
  refine ⟨hs, hc, fun e => ?_⟩
  subst e
  rcases h.2 with ⟨h0, _⟩ | ⟨g, cp, cur, h0, _⟩
  · simp at h0; exact h0.2
  · simp at h0
theorem ap_of {eT : TypeId} {w : World} {base base' m : Nat} {v u : Value} {xs ys : List Int} {w0 : World} (h : Row eT w0 base v xs) (h0 : w0.heap.size ≤ m) (k : Row eT w base' u ys) (hm : m ≤ base') : Ap v.ownBlock u.ownBlock := by
  intro j h1 h2
  have := (h.lt j h1).2
  have := (k.lt j h2).1
  omega

/-- 'Own' of two lists that lie apart. -/
theorem own_two (base : Nat) (x z : Value) (xs zs : List Int) (w : World) (hx : Row 5 w base x xs) (hz : Row 5 w base z zs) (hap : Ap x.ownBlock z.ownBlock) (lx : xs.length ≤ 70368744177664) (lz : zs.length ≤ 70368744177664) (hb : base ≤ w.heap.size) :
    Calls Try.prog 28 #[.slice (some ⟨w.heap.size, 0, none⟩) 2 2] (w.alloc (.cells #[x, z] 41)) fun e w' => e = .returned (.bool true) ∧ Below base w w' := by
  have hb0 : Below base w (w.alloc (.cells #[x, z] 41)) := (Below.refl _ _).alloc hb _
  have hbs : Below w.heap.size w (w.alloc (.cells #[x, z] 41)) := (Below.refl _ _).alloc (Nat.le_refl _) _
  refine (own_any base w.heap.size 2 2 (two x z) (two xs zs) (w.alloc (.cells #[x, z] 41)) (by decide) (by decide) ?_ ?_ ?_ ?_ ?_ (by simp; omega)).mono ?_
  · intro i hi
    match i, hi with
    | 0, _ => exact row_below hx hbs
    | 1, _ => exact row_below hz hbs
  · intro i j hi hj hne
    match i, j, hi, hj with
    | 0, 0, _, _ => exact absurd rfl hne
    | 0, 1, _, _ => exact hap
    | 1, 0, _, _ => exact hap.symm
    | 1, 1, _, _ => exact absurd rfl hne
  · refine ⟨#[x, z], heap_alloc_new w _, rfl, fun i hi => ?_⟩
    match i, hi with
    | 0, _ => rfl
    | 1, _ => rfl
  · intro i k hi hk
    match i, hi with
    | 0, _ => have := (hx.lt k hk).2; omega
    | 1, _ => have := (hz.lt k hk).2; omega
  · intro i hi
    match i, hi with
    | 0, _ => exact lx
    | 1, _ => exact lz
  · rintro e w' ⟨rfl, hb1⟩
    exact ⟨rfl, hb0.trans hb1⟩

/-- 'Own' of three lists that lie apart. -/
theorem own_three (base : Nat) (x y z : Value) (xs ys zs : List Int) (w : World) (hx : Row 5 w base x xs) (hy : Row 5 w base y ys) (hz : Row 5 w base z zs) (hxy : Ap x.ownBlock y.ownBlock) (hxz : Ap x.ownBlock z.ownBlock) (hyz : Ap y.ownBlock z.ownBlock)
    (lx : xs.length ≤ 70368744177664) (ly : ys.length ≤ 70368744177664) (lz : zs.length ≤ 70368744177664) (hb : base ≤ w.heap.size) :
    Calls Try.prog 28 #[.slice (some ⟨w.heap.size, 0, none⟩) 3 3] (w.alloc (.cells #[x, y, z] 41)) fun e w' => e = .returned (.bool true) ∧ Below base w w' := by
  have hb0 : Below base w (w.alloc (.cells #[x, y, z] 41)) := (Below.refl _ _).alloc hb _
  have hbs : Below w.heap.size w (w.alloc (.cells #[x, y, z] 41)) := (Below.refl _ _).alloc (Nat.le_refl _) _
  refine (own_any base w.heap.size 3 3 (three x y z) (three xs ys zs) (w.alloc (.cells #[x, y, z] 41)) (by decide) (by decide) ?_ ?_ ?_ ?_ ?_ (by simp; omega)).mono ?_
  · intro i hi
    match i, hi with
    | 0, _ => exact row_below hx hbs
    | 1, _ => exact row_below hy hbs
    | 2, _ => exact row_below hz hbs
  · intro i j hi hj hne
    match i, j, hi, hj with
    | 0, 0, _, _ => exact absurd rfl hne
    | 0, 1, _, _ => exact hxy
    | 0, 2, _, _ => exact hxz
    | 1, 0, _, _ => exact hxy.symm
    | 1, 1, _, _ => exact absurd rfl hne
    | 1, 2, _, _ => exact hyz
    | 2, 0, _, _ => exact hxz.symm
    | 2, 1, _, _ => exact hyz.symm
    | 2, 2, _, _ => exact absurd rfl hne
  · refine ⟨#[x, y, z], heap_alloc_new w _, rfl, fun i hi => ?_⟩
    match i, hi with
    | 0, _ => rfl
    | 1, _ => rfl
    | 2, _ => rfl
  · intro i k hi hk
    match i, hi with
    | 0, _ => have := (hx.lt k hk).2; omega
    | 1, _ => have := (hy.lt k hk).2; omega
    | 2, _ => have := (hz.lt k hk).2; omega
  · intro i hi
    match i, hi with
    | 0, _ => exact lx
    | 1, _ => exact ly
    | 2, _ => exact lz
  · rintro e w' ⟨rfl, hb1⟩
    exact ⟨rfl, hb0.trans hb1⟩
end Go.Proofs.Ytbgnlbgoeogbaaa

namespace Go.Proofs.Ytbgnlbgoeogbaaa
open Go.RowKit
set_option linter.unusedVariables false

/-! SuffixTurns. -/
set_option maxRecDepth 100000 in
theorem pturnn13 (a : Option Addr) (n cap : Nat) (w : World) (hb : 16777216 < n) (hb2 : n ≤ 9223372036854775807) :
    Calls Try.prog 24 #[.slice a n cap] w fun en w' => en = .returned (.tuple #[.slice none 0 0, .int .i64 0, .int .i64 130]) ∧ w' = w := by
  have HSO := psortn13 a n cap w hb hb2
  go_enter Try.func24, Try.ntmps24
  go_wp2_with (first
    | (go_at_call 43; refine HSO.mono ?_; rintro e1 w1 ⟨rfl, hw1⟩; subst hw1))
  go_ret3
  exact ⟨rfl, rfl⟩
set_option maxRecDepth 100000 in
theorem rturnn13 (a : Option Addr) (n cap : Nat) (w : World) (hb : 16777216 < n) (hb2 : n ≤ 9223372036854775807) :
    Calls Try.prog 25 #[.slice a n cap] w fun en w' => en = .returned (.tuple #[.slice none 0 0, .int .i64 0, .int .i64 130]) ∧ w' = w := by
  have h24 : (16777216 : Int) < (n : Int) := by omega
  go_enter Try.func25, Try.ntmps25
  go_wp2_with fail
  go_ret3
  exact ⟨rfl, rfl⟩
set_option maxRecDepth 100000 in
theorem runtn13 (a : Option Addr) (n cap : Nat) (e : Int) (w : World) (hb : 16777216 < n) (hb2 : n ≤ 9223372036854775807) :
    Calls Try.prog 30 #[.slice a n cap, .int .i64 e] w fun en w' => en = .returned (.tuple #[.slice none 0 0, .int .i64 130]) ∧ w' = w := by
  have h24 : (16777216 : Int) < (n : Int) := by omega
  go_enter Try.func30, Try.ntmps30
  go_wp2_with fail
  refine bodyPost_ret (results_tmp2 rfl _ _ _) rfl ?_
  exact ⟨rfl, rfl⟩
set_option maxRecDepth 100000 in
theorem runte13 (a : Option Addr) (n cap : Nat) (e : Int) (w : World) (hb : n ≤ 16777216) (he : e < 0 ∨ (0 ≤ e ∧ (n : Int) < e)) :
    Calls Try.prog 30 #[.slice a n cap, .int .i64 e] w fun en w' => en = .returned (.tuple #[.slice none 0 0, .int .i64 132]) ∧ w' = w := by
  have h24 : ¬ (16777216 : Int) < (n : Int) := by omega
  rcases he with h1 | ⟨h1, h2⟩
  · go_enter Try.func30, Try.ntmps30
    go_wp2_with fail
    refine bodyPost_ret (results_tmp2 rfl _ _ _) rfl ?_
    exact ⟨rfl, rfl⟩
  · have h3 : ¬ e < 0 := by omega
    go_enter Try.func30, Try.ntmps30
    go_wp2_with fail
    refine bodyPost_ret (results_tmp2 rfl _ _ _) rfl ?_
    exact ⟨rfl, rfl⟩
/-- What Turn answers of bytes. -/
def TV13 (z : List Int) (n : Nat) (x : List Int) (te er : Int) : Prop :=
  (n ≤ 16777216 ∧ ∃ A, Ar12 n (S12 z) A ∧ x = tn13 z (n :: A) ∧ te = ((te13 n A : Nat) : Int) ∧ er = 0) ∨ (16777216 < n ∧ x = [] ∧ te = 0 ∧ er = 130)
theorem TV13.unique {z : List Int} {n : Nat} {x x' : List Int} {te te' er er' : Int} (h : TV13 z n x te er) (h' : TV13 z n x' te' er') : x = x' ∧ te = te' ∧ er = er' := by
  rcases h with ⟨h1, A, h2, rfl, rfl, rfl⟩ | ⟨h1, rfl, rfl, rfl⟩
  · rcases h' with ⟨h1', A', h2', rfl, rfl, rfl⟩ | ⟨h1', rfl, rfl, rfl⟩
    · obtain rfl := h2.unique h2'
      exact ⟨rfl, rfl, rfl⟩
    · omega
  · rcases h' with ⟨h1', A', h2', rfl, rfl, rfl⟩ | ⟨h1', rfl, rfl, rfl⟩
    · omega
    · exact ⟨rfl, rfl, rfl⟩
theorem tn13_all {z : List Int} {n : Nat} {S : Nat → Int} {A : List Nat} (h : Ar12 n S A) : (tn13 z (n :: A)).length = n := by
  have h1 := tn13_len (z := z) h (n + 1) (Nat.le_refl _)
  rw [List.take_of_length_le (by simp [h.len])] at h1
  rw [h1]
  exact la13_all (te13_le h)
theorem TV13.len {z : List Int} {n : Nat} {x : List Int} {te er : Int} (h : TV13 z n x te er) : x.length ≤ n := by
  rcases h with ⟨h1, A, h2, rfl, rfl, rfl⟩ | ⟨h1, rfl, rfl, rfl⟩
  · exact Nat.le_of_eq (tn13_all h2)
  · exact Nat.zero_le _
theorem TV13.bd {z : List Int} {n : Nat} {x : List Int} {te er : Int} (h : TV13 z n x te er) (hz : ∀ y ∈ z, 0 ≤ y ∧ y ≤ 255) : ∀ y ∈ x, 0 ≤ y ∧ y ≤ 255 := by
  rcases h with ⟨h1, A, h2, rfl, rfl, rfl⟩ | ⟨h1, rfl, rfl, rfl⟩
  · exact tn13_bd hz _
  · intro y hy; simp at hy
def TuQ13 (w : World) (x : List Int) (te er : Int) (e : Ending) (w' : World) : Prop := ∃ ra rc, e = .returned (.tuple #[.slice ra x.length rc, .int .i64 te, .int .i64 er]) ∧ w'.ownsRow w.heap.size 5 1 (.slice ra x.length rc) x.length (x.map (Value.int .u8)) ∧ Below w.heap.size w w'
def TuP13 (w : World) (z : List Int) (n : Nat) (e : Ending) (w' : World) : Prop := ∃ x te er, TV13 z n x te er ∧ TuQ13 w x te er e w'
theorem pturnU13 (a : Option Addr) (z : List Int) (n cap : Nat) (w : World) (hs : Seg w a z) (hn : Hid (z.length = n)) (hb : n ≤ 140737488351232) :
    Calls Try.prog 24 #[.slice a n cap] w (TuP13 w z n) := by
  by_cases h : n ≤ 16777216
  · refine (pturn13 a z n cap w hs hn h).mono ?_
    rintro e w' ⟨A, hA, ra, rc, rfl, o, B⟩
    refine ⟨tn13 z (n :: A), _, 0, Or.inl ⟨h, A, hA, rfl, rfl, rfl⟩, ra, rc, ?_, ?_, B⟩
    · rw [tn13_all hA]
    · rw [tn13_all hA]; exact o
  · refine (pturnn13 a n cap w (by omega) (by omega)).mono ?_
    rintro e w' ⟨rfl, rfl⟩
    exact ⟨[], 0, 130, Or.inr ⟨by omega, rfl, rfl, rfl⟩, none, 0, rfl, World.ownsRow_nil _ _ _ _, Below.refl _ _⟩
theorem rturnU13 (a : Option Addr) (z : List Int) (n cap : Nat) (x : List Int) (te er : Int) (w : World) (hs : Seg w a z) (hc : n ≤ cap) (hn : Hid (z.length = n)) (hb : n ≤ 140737488351232) (hT : TV13 z n x te er) :
    Calls Try.prog 25 #[.slice a n cap] w (TuQ13 w x te er) := by
  rcases hT with ⟨h, A, hA, rfl, rfl, rfl⟩ | ⟨h, rfl, rfl, rfl⟩
  · refine (rturn13 a z n cap A w hs hc hn hA h).mono ?_
    rintro e w' ⟨ra, rc, rfl, o, B⟩
    refine ⟨ra, rc, ?_, ?_, B⟩
    · rw [tn13_all hA]
    · rw [tn13_all hA]; exact o
  · refine (rturnn13 a n cap w h (by omega)).mono ?_
    rintro e w' ⟨rfl, rfl⟩
    exact ⟨none, 0, rfl, World.ownsRow_nil _ _ _ _, Below.refl _ _⟩
def UuQ13 (w : World) (x : List Int) (er : Int) (e : Ending) (w' : World) : Prop := ∃ ra rc, e = .returned (.tuple #[.slice ra x.length rc, .int .i64 er]) ∧ w'.ownsRow w.heap.size 5 1 (.slice ra x.length rc) x.length (x.map (Value.int .u8)) ∧ Below w.heap.size w w'
theorem Rd13.unique {B : Nat → Int} {n e : Nat} {x y : List Int} (h : Rd13 B n e x) (k : Rd13 B n e y) : x = y := by
  refine List.ext_getElem (h.len.trans k.len.symm) fun i h1 h2 => ?_
  have hi : i < n := by rw [← h.len]; exact h1
  have e1 := h.at_ (n - 1 - i) (by omega)
  have e2 := k.at_ (n - 1 - i) (by omega)
  rw [show n - 1 - (n - 1 - i) = i by omega] at e1 e2
  have g1 : x.getD i 0 = x[i] := by simp [List.getD, h1]
  have g2 : y.getD i 0 = y[i] := by simp [List.getD, h2]
  rw [g1] at e1
  rw [g2] at e2
  rw [e1, e2]
noncomputable def ux13 (B : Nat → Int) (n e : Nat) : List Int := (List.range n).map fun i => rc13 B n e (n - 1 - i)
theorem ux13_rd (B : Nat → Int) (n e : Nat) : Rd13 B n e (ux13 B n e) := by
  refine ⟨by simp [ux13], fun k hk => ?_⟩
  have : n - 1 - k < n := by omega
  simp [ux13, List.getD, this]
  rw [show n - 1 - (n - 1 - k) = k by omega]
theorem sbd13 {b : List Int} (hv : ∀ y ∈ b, 0 ≤ y ∧ y ≤ 255) (i : Nat) : 0 ≤ S12 b i ∧ S12 b i ≤ 255 := by
  unfold S12
  by_cases c : i < b.length
  · have g1 : b.getD i 0 = b[i] := by simp [List.getD, c]
    rw [g1]; exact hv _ (List.getElem_mem c)
  · have g1 : b.getD i 0 = 0 := by simp [List.getD, Nat.le_of_not_lt c]
    rw [g1]; omega
/-- Both sides' Unturn answer alike. -/
theorem unt13_all (b : List Int) (n : Nat) (hn : b.length = n) (hv : ∀ y ∈ b, 0 ≤ y ∧ y ≤ 255) (t : Int) (hb : n ≤ 140737488351232) : ∃ (x : List Int) (er : Int), x.length ≤ n ∧ (∀ y ∈ x, 0 ≤ y ∧ y ≤ 255) ∧ (∀ W a cap, Seg W a b → Calls Try.prog 29 #[.slice a n cap, .int .i64 t] W (UuQ13 W x er)) ∧ (∀ W a cap, Seg W a b → Calls Try.prog 30 #[.slice a n cap, .int .i64 t] W (UuQ13 W x er)) := by
  by_cases h : n ≤ 16777216
  · by_cases ht : 0 ≤ t ∧ t ≤ (n : Int)
    · obtain ⟨e, rfl⟩ := Int.eq_ofNat_of_zero_le ht.1
      have he : e ≤ n := by omega
      by_cases hW : Wk13 (S12 b) n e
      · have key : ∀ W en w', UnQ13 W b n e en w' → UuQ13 W (ux13 (S12 b) n e) 0 en w' := by
          rintro W en w' (⟨hN, _⟩ | ⟨_, ra, rc, x, rfl, hx, _, o, B⟩)
          · exact absurd hW hN
          · obtain rfl := hx.unique (ux13_rd _ _ _)
            refine ⟨ra, rc, ?_, ?_, B⟩
            · rw [hx.len]
            · rw [hx.len]; exact o
        refine ⟨ux13 (S12 b) n e, 0, Nat.le_of_eq (ux13_rd _ _ _).len, ?_, fun W a cap hs => (punt13 a b n cap e W hs hn h he).mono (key W), fun W a cap hs => (runt13 a b n cap e W hs hn h he).mono (key W)⟩
        intro y hy
        unfold ux13 at hy
        rw [List.mem_map] at hy
        obtain ⟨i, hi, rfl⟩ := hy
        rw [List.mem_range] at hi
        exact sbd13 hv _
      · have key : ∀ W en w', UnQ13 W b n e en w' → UuQ13 W [] 131 en w' := by
          rintro W en w' (⟨_, rfl, B⟩ | ⟨h1, _⟩)
          · exact ⟨none, 0, rfl, World.ownsRow_nil _ _ _ _, B⟩
          · exact absurd h1 hW
        exact ⟨[], 131, Nat.zero_le _, fun y hy => by simp at hy, fun W a cap hs => (punt13 a b n cap e W hs hn h he).mono (key W), fun W a cap hs => (runt13 a b n cap e W hs hn h he).mono (key W)⟩
    · have he : t < 0 ∨ (0 ≤ t ∧ (n : Int) < t) := by omega
      have key : ∀ W en w', (en = .returned (.tuple #[.slice none 0 0, .int .i64 132]) ∧ w' = W) → UuQ13 W [] 132 en w' := by
        rintro W en w' ⟨rfl, rfl⟩
        exact ⟨none, 0, rfl, World.ownsRow_nil _ _ _ _, Below.refl _ _⟩
      exact ⟨[], 132, Nat.zero_le _, fun y hy => by simp at hy, fun W a cap hs => (punte13 a n cap t W h he).mono (key W), fun W a cap hs => (runte13 a n cap t W h he).mono (key W)⟩
  · have key : ∀ W en w', (en = .returned (.tuple #[.slice none 0 0, .int .i64 130]) ∧ w' = W) → UuQ13 W [] 130 en w' := by
      rintro W en w' ⟨rfl, rfl⟩
      exact ⟨none, 0, rfl, World.ownsRow_nil _ _ _ _, Below.refl _ _⟩
    exact ⟨[], 130, Nat.zero_le _, fun y hy => by simp at hy, fun W a cap hs => (puntn13 a n cap t W (by omega) (by omega)).mono (key W), fun W a cap hs => (runtn13 a n cap t W (by omega) (by omega)).mono (key W)⟩
end Go.Proofs.Ytbgnlbgoeogbaaa
