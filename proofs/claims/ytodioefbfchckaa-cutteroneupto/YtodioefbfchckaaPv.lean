import Derived.Test.YtodioefbfchckaaProg
import Derived.Test.YtodioefbfchckaaPu
import Derived.WalkKit
import Derived.WalkSpells
import Derived.WalkLawsBesides
import Derived.Test.YtodioefbfchckaaPa
import Derived.Test.YtodioefbfchckaaPt
import Derived.Test.YtodioefbfchckaaPo
import Derived.Test.YtodioefbfchckaaPp
import Derived.Test.YtodioefbfchckaaPl
import Derived.Test.YtodioefbfchckaaPk
namespace Go.Proofs.Ytodioefbfchckaa
open Go.RowKit
set_option linter.unusedVariables false

theorem info_sl : (Try.prog.info? 23).map (fun i => (i.zero, i.size, i.bytes)) = some (some (.slice none 0 0), 1, 24) := by kernel_rfl
theorem info_u8o : (Try.prog.info? 5).map (fun i => (i.zero, i.size, i.bytes)) = some (some (.int .u8 0), 1, 1) := by kernel_rfl

set_option maxRecDepth 100000 in
set_option maxHeartbeats 2000000 in
theorem own_any (base bl n cap : Nat) (vs : Nat → Value) (ys : Nat → List Int) (w : World) (hn0 : 0 < n) (hn : n ≤ 1000) (hrv : ∀ i, i < n → Row 5 w base (vs i) (ys i))
    (hvv : ∀ i j, i < n → j < n → i ≠ j → Ap (vs i).ownBlock (vs j).ownBlock) (hsl : Slots 23 w bl n vs) (hnv : ∀ i k, i < n → (vs i).ownBlock = some k → k ≠ bl) (hlen : ∀ i, i < n → (ys i).length ≤ 70368744177664) (hbs : base ≤ w.heap.size) :
    Calls Try.prog 24 #[.slice (some ⟨bl, 0, none⟩) n cap] w fun e w' => e = .returned (.bool true) ∧ Below base w w' := by
  obtain ⟨i0, hi, hz0, hz1, hz2⟩ := info_parts info_u8o
  obtain ⟨j0, hj, hy0, hy1, hy2⟩ := info_parts info_sl
  go_enter Try.func24, Try.ntmps24
  go_wp2_with (at_make; refine wpList_make_full _ rfl _ _ 107 rfl w.heap.size 23 j0 (.slice none 0 0) 1 Try.underlying107 hj hy0 hy1 .i64 .i64 _ _ n rfl rfl rfl rfl (by rw [hy2]; omega) (by unfold maxLen; omega) (Nat.le_refl _) ?_; intro w1 hown1 hgrow1)
  rw [Nat.mul_one, show (Value.slice none 0 0).cells = #[.slice none 0 0] from rfl, toList_madeCells_one] at hown1
  have hG := slots_made hown1 hn0
  have hb1 : Below base w w1 := (Below.refl _ _).grown hgrow1 hbs (by intro k e; cases e)
  have hos : OS 5 23 w1 base bl w.heap.size n vs (fun _ => .slice none 0 0) ys (fun _ => []) := by
    refine ⟨fun i hi => (hrv i hi).kept hgrow1 ?_, fun i hi => World.ownsRow_nil _ _ _ _, hvv, fun i j _ _ _ => Ap.none _, fun i j _ _ _ => Ap.none _, hsl.grown hgrow1 (by simp), hG, fun i k hi hk => ⟨hnv i k hi hk, ?_⟩, (fun i k _ hk => by cases hk), ?_, hbs, Nat.le_trans hbs hgrow1.size⟩
    · cases (vs i).ownBlock <;> simp
    · have := ((hrv i hi).lt k hk).2; omega
    · have := hsl.lt; omega
  clear hown1 hG hrv hsl
  generalize w.heap.size = G at *
  go_loopw [19] (fun i wr => ∃ k : Nat, k ≤ n ∧ i = .int .i64 k ∧ OS 5 23 wr base bl G n vs (fun _ => .slice none 0 0) (markF k ys) (fun _ => []) ∧ Below base w wr) (fun i _ => n - (intOf i).toNat)
  case atStart => exact ⟨0, Nat.zero_le _, rfl, by rw [markF_zero]; exact hos, hb1⟩
  case round =>
    obtain ⟨k, hk, rfl, hst, hb⟩ := hrel
    by_cases hlt : k < n
    · have hlti : (k : Int) < (n : Int) := by omega
      have hc := hst.sl.cell k hlt
      obtain ⟨a, cp, hv, hcp, hat⟩ := row_shape (hst.rv k hlt)
      have hln := hlen k hlt
      have hm : markF k ys k = ys k := by simp [markF]
      rw [hm] at hv hcp hat
      rw [hv] at hc
      obtain ⟨wo, rfl⟩ : ∃ wo : World, wo = wr := ⟨_, rfl⟩
      clear hat
      have HV : Hid (vs k = .slice a (ys k).length cp) := hv
      clear hv hm hos hb1 hgrow1
      go_wp2
      go_loopw [26] (fun t wr => ∃ j : Nat, j ≤ (ys k).length ∧ t = .int .i64 j ∧ OS 5 23 wr base bl G n vs (fun _ => .slice none 0 0) (pmF k j ys) (fun _ => []) ∧ Below base w wr) (fun t _ => (ys k).length - (intOf t).toNat)
      case atStart => exact ⟨0, Nat.zero_le _, rfl, by rw [pmF_zero]; exact hst, hb⟩
      case round =>
        obtain ⟨j, hj2, rfl, hst2, hb2⟩ := hrel
        by_cases hjl : j < (ys k).length
        · have hr := hst2.rv k hlt
          have hl2 := pmF_len k j ys hj2
          rw [HV.out] at hr
          obtain ⟨g, rfl, hcl, hfz⟩ := row_at hr j (by omega)
          have hmk := hst2.mark k j g cp _ (((k : Int) + 7 * (j : Int)) % 256) hlt HV.out hjl (fun _ _ => rfl)
          rw [pmF_step k j ys hjl] at hmk
          have hji : (j : Int) < ((ys k).length : Int) := by omega
          clear hr hst2 hst hlen hc hvv hnv
          go_wp2
          go_roundw
          case rel => exact ⟨j + 1, by omega, by go_num, hmk.1, hb2.trans hmk.2⟩
          case measure => simp [intOf]; omega
        · obtain rfl : j = (ys k).length := by omega
          rw [pmF_end] at hst2
          clear hjl hst hc
          go_wp2
          go_roundw
          case rel => exact ⟨k + 1, by omega, by go_num, hst2, hb2⟩
          case measure => simp [intOf]; omega
    · obtain rfl : n = k := by omega
      clear hlt hk hos hb1 hgrow1 hnv hvv
      have hml : Hid (∀ i, (markF n ys i).length = (ys i).length) := fun i => markF_len n i ys
      go_wp2
      have HM : Hid (∀ i, i < n → markF n ys i = markL i (ys i).length) := fun i hi => markF_at n i ys hi
      generalize markF n ys = mk at *
      obtain ⟨wp, rfl⟩ : ∃ wp : World, wp = wr := ⟨_, rfl⟩
      go_loopw [41] (fun t wr => ∃ (k : Nat) (gs : Nat → Value) (zs : Nat → List Int), k ≤ n ∧ t = .int .i64 k ∧ OS 5 23 wr base bl G n vs gs mk zs ∧ Below base w wr ∧ (∀ i, i < k → zs i = mk i ++ tailL i 24)) (fun t _ => n - (intOf t).toNat)
      case atStart => exact ⟨0, _, _, Nat.zero_le _, rfl, hst, hb, fun i hi => by omega⟩
      case round =>
        clear hst hb
        obtain ⟨k, gs, zs, hk, rfl, hst, hb, hzs⟩ := hrel
        by_cases hlt : k < n
        · have hlti : (k : Int) < (n : Int) := by omega
          have hln := hlen k hlt
          have hc := hst.sl.cell k hlt
          have hcg := hst.sg.cell k hlt
          have hfg := hst.sg.free k
          have hss := hst.start k hlt
          have hsh := Shares.self (hst.rv k hlt)
          obtain ⟨a, cp, hv, hcp, _⟩ := row_shape (hst.rv k hlt)
          rw [hml.out k] at hv hcp
          rw [hv] at hc
          have HV : Hid (vs k = .slice a (ys k).length cp) := hv
          rw [hv] at hss
          obtain ⟨u, hu⟩ : ∃ u, u = gs k := ⟨_, rfl⟩
          rw [← hu] at hcg
          clear hu hv hst
          obtain ⟨wo, rfl⟩ : ∃ wo : World, wo = wr := ⟨_, rfl⟩
          have hsh0 : Shares (.slice a (ys k).length cp) (.slice a (ys k).length cp) (mk k) (mk k) := by rw [← HV.out]; exact hsh
          clear hsh
          go_wp2
          go_loopw [9] (fun t wr => ∃ (j : Nat) (gs : Nat → Value) (zs : Nat → List Int), j ≤ 24 ∧ t = .int .i64 j ∧ OS 5 23 wr base bl G n vs gs mk zs ∧ Below base w wr ∧ (∀ i, i < k → zs i = mk i ++ tailL i 24) ∧ zs k = mk k ++ tailL k j ∧ Shares (vs k) (gs k) (mk k) (zs k)) (fun t _ => 24 - (intOf t).toNat)
          case atStart => exact ⟨0, _, _, by omega, rfl, hss.1, hb.trans hss.2, fun i hi => by rw [upd_ne _ _ _ _ (by omega)]; exact hzs i hi, by rw [upd_at]; simp [tailL], by rw [upd_at, upd_at, HV.out]; exact hsh0⟩
          case round =>
            clear hss hb hzs hsh0 hc hcg hfg
            obtain ⟨j, gs, zs, hj2, rfl, hst, hb, hzs, hzk, hsh⟩ := hrel
            by_cases hjl : j < 24
            · have hcg := hst.sg.cell k hlt
              have hrg := hst.rg k hlt
              obtain ⟨ga, gc, hgv, _, _⟩ := row_shape hrg
              have hzl : (zs k).length = (ys k).length + j := by rw [hzk]; simp [tailL_len, hml.out]
              have HZ : Hid (zs k = mk k ++ tailL k j) := hzk
              have HL : Hid ((zs k).length = (ys k).length + j) := hzl
              rw [hgv] at hcg
              have HG : Hid (gs k = .slice ga (zs k).length gc) := hgv
              have hszr := hst.bs
              have hrow : wr.ownsRow base 5 1 (.slice ga (zs k).length gc) (zs k).length ((zs k).map (Value.int .u8)) := by rw [← hgv]; exact hrg
              have hGne : some G ≠ (Value.slice ga (zs k).length gc).ownBlock := by rw [← hgv]; intro e; exact (hst.ng k G hlt e.symm).2 rfl
              have HGrow : Hid (∀ (w2 : World), wr.grownBy w2 (Value.slice ga (zs k).length gc).ownBlock → Slots 23 w2 G n gs) := fun w2 hg => hst.sg.grown hg hGne
              clear hzk hzl hgv hrg
              go_wp2_with (at_builtin; refine wpList_push_st rfl _ _ 23 rfl base 5 i0 (.int .u8 0) 1 Try.underlying23 hi hz0 hz1 hz2 rfl wr (.int .u8 (((k : Int) + 131 + 3 * (j : Int)) % 256)) rfl hrow rfl rfl (by rw [HL.out]; omega) (by rw [HL.out]; omega) hszr ?_; intro g2 c2 w2 p1 p2 p3 p4; have hcg2 := (HGrow.out w2 p2).cell k hlt; have hfg2 := (HGrow.out w2 p2).free k; rw [HG.out] at hcg2)
              have hps := hst.push k hlt (((k : Int) + 131 + 3 * (j : Int)) % 256) g2 c2 w2 hsh p1 (by rw [HG.out]; exact p2) (by rw [HG.out]; exact p3) (by rw [HG.out]; exact p4)
              go_roundw
              case rel => exact ⟨j + 1, _, _, by omega, by go_num, hps.1, hb.trans hps.2.1, fun i hi => by rw [upd_ne _ _ _ _ (by omega)]; exact hzs i hi, by rw [upd_at, HZ.out, tailL_succ, List.append_assoc], by rw [upd_at, upd_at]; exact hps.2.2⟩
              case measure => simp [intOf]; omega
            · obtain rfl : j = 24 := by omega
              clear hjl hsh
              go_wp2
              go_roundw
              case rel => exact ⟨k + 1, gs, zs, by omega, by go_num, hst, hb, fun i hi => by
                by_cases e : i = k
                · subst e; exact hzk
                · exact hzs i (by omega)⟩
              case measure => simp [intOf]; omega
        · obtain rfl : n = k := by omega
          clear hlt hk
          go_wp2
          go_loop [72] (fun t => ∃ k : Nat, k ≤ n ∧ t = .int .i64 k) (fun t => n - (intOf t).toNat)
          case atStart => exact ⟨0, Nat.zero_le _, rfl⟩
          case round =>
            obtain ⟨k, hk, rfl⟩ := hrel
            by_cases hlt : k < n
            · have hlti : (k : Int) < (n : Int) := by omega
              have hln := hlen k hlt
              have hc := hst.sl.cell k hlt
              have hcg := hst.sg.cell k hlt
              have hrv := hst.rv k hlt
              have hrg := hst.rg k hlt
              obtain ⟨a, cp, hv, hcp, _⟩ := row_shape hrv
              obtain ⟨ga, gc, hgv, hgc, _⟩ := row_shape hrg
              have hzl : (zs k).length = (ys k).length + 24 := by rw [hzs k hlt]; simp [tailL_len, hml.out]
              rw [hml.out k] at hv hcp
              rw [hzl] at hgv hgc
              rw [hv] at hc hrv
              rw [hgv] at hcg hrg
              have HB : Hid (∀ j, j < (ys k).length → ∃ g, a = some ⟨g, 0, none⟩ ∧ wr.cell? ⟨g, j, none⟩ = some (.int .u8 (((k : Int) + 7 * (j : Int)) % 256))) := by
                intro j hj
                obtain ⟨g, h1, h2, _⟩ := row_at hrv j (by rw [hml.out]; exact hj)
                rw [HM.out k hlt, markL_get _ _ _ hj] at h2
                exact ⟨g, h1, h2⟩
              have HT : Hid (∀ j, j < 24 → ∃ g, ga = some ⟨g, 0, none⟩ ∧ wr.cell? ⟨g, (ys k).length + j, none⟩ = some (.int .u8 (((k : Int) + 131 + 3 * (j : Int)) % 256))) := by
                intro j hj
                obtain ⟨g, h1, h2, _⟩ := row_at hrg ((ys k).length + j) (by omega)
                rw [hzs k hlt] at h2
                have e : (mk k ++ tailL k 24).getD ((ys k).length + j) 0 = ((k : Int) + 131 + 3 * (j : Int)) % 256 := by
                  have hmk := hml.out k
                  rw [List.getD, List.getElem?_append_right (by omega), show (ys k).length + j - (mk k).length = j by omega]
                  exact tailL_get k 24 j hj
                rw [e] at h2
                exact ⟨g, h1, h2⟩
              clear hrv hrg hv hgv hzl
              go_wp2
              go_loop [79] (fun t => ∃ j : Nat, j ≤ (ys k).length ∧ t = .int .i64 j) (fun t => (ys k).length - (intOf t).toNat)
              case atStart => exact ⟨0, Nat.zero_le _, rfl⟩
              case round =>
                obtain ⟨j, hj2, rfl⟩ := hrel
                by_cases hjl : j < (ys k).length
                · have hji : (j : Int) < ((ys k).length : Int) := by omega
                  obtain ⟨g, rfl, hcl⟩ := HB.out j hjl
                  go_wp2
                  go_round
                  case rel => exact ⟨j + 1, by omega, by go_num⟩
                  case measure => simp [intOf]; omega
                · obtain rfl : j = (ys k).length := by omega
                  clear hjl hj2
                  go_wp2
                  go_loop [13] (fun t => ∃ j : Nat, j ≤ 24 ∧ t = .int .i64 j) (fun t => 24 - (intOf t).toNat)
                  case atStart => exact ⟨0, by omega, rfl⟩
                  case round =>
                    obtain ⟨j, hj2, rfl⟩ := hrel
                    by_cases hjl : j < 24
                    · obtain ⟨g, rfl, hcl⟩ := HT.out j hjl
                      have hji : ((ys k).length : Int) + (j : Int) < ((ys k).length : Int) + 24 := by omega
                      go_wp2
                      go_round
                      case rel => exact ⟨j + 1, by omega, by go_num⟩
                      case measure => simp [intOf]; omega
                    · obtain rfl : j = 24 := by omega
                      go_wp2
                      go_round
                      case rel => exact ⟨k + 1, by omega, by go_num⟩
                      case measure => simp [intOf]; omega
            · obtain rfl : n = k := by omega
              clear hlt hk
              go_wp2
              go_ret
              exact ⟨rfl, hb⟩
end Go.Proofs.Ytodioefbfchckaa

namespace Go.Proofs.Ytodioefbfchckaa
open Go.RowKit
set_option linter.unusedVariables false

def two {α : Type} (x y : α) : Nat → α := fun i => if i = 0 then x else y
def three {α : Type} (x y z : α) : Nat → α := fun i => if i = 0 then x else if i = 1 then y else z

theorem row_below {eT : TypeId} {w w' : World} {base : Nat} {v : Value} {ys : List Int} (h : Row eT w base v ys) (hb : Below w.heap.size w w') : Row eT w' base v ys := own_below h hb
theorem row_base {eT : TypeId} {w : World} {base base' : Nat} {v : Value} {ys : List Int} (h : Row eT w base v ys) (hb : base' ≤ base) : Row eT w base' v ys := own_base h hb
theorem row_seg {eT : TypeId} {w : World} {base : Nat} {a : Option Addr} {n cap : Nat} {ys : List Int} (h : Row eT w base (.slice a n cap) ys) (hb : ∀ z ∈ ys, 0 ≤ z ∧ z ≤ 255) : Seg w a ys ∧ ys.length ≤ cap ∧ (a = none → cap = 0) := by
  obtain ⟨_, a', c', hv, hs, hx, hc, _⟩ := own_seg h (M := 255) (by decide) hb
  cases hv
  refine ⟨hs, hc, fun e => ?_⟩
  subst e
  rcases h.2 with ⟨h0, _⟩ | ⟨g, cp, cur, h0, _⟩
  · simp at h0; exact h0.2
  · simp at h0
theorem ap_of {eT : TypeId} {w : World} {base base' m : Nat} {v u : Value} {xs ys : List Int} {w0 : World} (h : Row eT w0 base v xs) (h0 : w0.heap.size ≤ m) (k : Row eT w base' u ys) (hm : m ≤ base') : Ap v.ownBlock u.ownBlock := by
  intro j h1 h2
  have := (h.lt j h1).2
  have := (k.lt j h2).1
  omega

/-- 'Own' of two lists that lie apart. -/
theorem own_two (base : Nat) (x z : Value) (xs zs : List Int) (w : World) (hx : Row 5 w base x xs) (hz : Row 5 w base z zs) (hap : Ap x.ownBlock z.ownBlock) (lx : xs.length ≤ 70368744177664) (lz : zs.length ≤ 70368744177664) (hb : base ≤ w.heap.size) :
    Calls Try.prog 24 #[.slice (some ⟨w.heap.size, 0, none⟩) 2 2] (w.alloc (.cells #[x, z] 23)) fun e w' => e = .returned (.bool true) ∧ Below base w w' := by
  have hb0 : Below base w (w.alloc (.cells #[x, z] 23)) := (Below.refl _ _).alloc hb _
  have hbs : Below w.heap.size w (w.alloc (.cells #[x, z] 23)) := (Below.refl _ _).alloc (Nat.le_refl _) _
  refine (own_any base w.heap.size 2 2 (two x z) (two xs zs) (w.alloc (.cells #[x, z] 23)) (by decide) (by decide) ?_ ?_ ?_ ?_ ?_ (by simp; omega)).mono ?_
  · intro i hi
    match i, hi with
    | 0, _ => exact row_below hx hbs
    | 1, _ => exact row_below hz hbs
  · intro i j hi hj hne
    match i, j, hi, hj with
    | 0, 0, _, _ => exact absurd rfl hne
    | 0, 1, _, _ => exact hap
    | 1, 0, _, _ => exact hap.symm
    | 1, 1, _, _ => exact absurd rfl hne
  · refine ⟨#[x, z], heap_alloc_new w _, rfl, fun i hi => ?_⟩
    match i, hi with
    | 0, _ => rfl
    | 1, _ => rfl
  · intro i k hi hk
    match i, hi with
    | 0, _ => have := (hx.lt k hk).2; omega
    | 1, _ => have := (hz.lt k hk).2; omega
  · intro i hi
    match i, hi with
    | 0, _ => exact lx
    | 1, _ => exact lz
  · rintro e w' ⟨rfl, hb1⟩
    exact ⟨rfl, hb0.trans hb1⟩

/-- 'Own' of three lists that lie apart. -/
theorem own_three (base : Nat) (x y z : Value) (xs ys zs : List Int) (w : World) (hx : Row 5 w base x xs) (hy : Row 5 w base y ys) (hz : Row 5 w base z zs) (hxy : Ap x.ownBlock y.ownBlock) (hxz : Ap x.ownBlock z.ownBlock) (hyz : Ap y.ownBlock z.ownBlock)
    (lx : xs.length ≤ 70368744177664) (ly : ys.length ≤ 70368744177664) (lz : zs.length ≤ 70368744177664) (hb : base ≤ w.heap.size) :
    Calls Try.prog 24 #[.slice (some ⟨w.heap.size, 0, none⟩) 3 3] (w.alloc (.cells #[x, y, z] 23)) fun e w' => e = .returned (.bool true) ∧ Below base w w' := by
  have hb0 : Below base w (w.alloc (.cells #[x, y, z] 23)) := (Below.refl _ _).alloc hb _
  have hbs : Below w.heap.size w (w.alloc (.cells #[x, y, z] 23)) := (Below.refl _ _).alloc (Nat.le_refl _) _
  refine (own_any base w.heap.size 3 3 (three x y z) (three xs ys zs) (w.alloc (.cells #[x, y, z] 23)) (by decide) (by decide) ?_ ?_ ?_ ?_ ?_ (by simp; omega)).mono ?_
  · intro i hi
    match i, hi with
    | 0, _ => exact row_below hx hbs
    | 1, _ => exact row_below hy hbs
    | 2, _ => exact row_below hz hbs
  · intro i j hi hj hne
    match i, j, hi, hj with
    | 0, 0, _, _ => exact absurd rfl hne
    | 0, 1, _, _ => exact hxy
    | 0, 2, _, _ => exact hxz
    | 1, 0, _, _ => exact hxy.symm
    | 1, 1, _, _ => exact absurd rfl hne
    | 1, 2, _, _ => exact hyz
    | 2, 0, _, _ => exact hxz.symm
    | 2, 1, _, _ => exact hyz.symm
    | 2, 2, _, _ => exact absurd rfl hne
  · refine ⟨#[x, y, z], heap_alloc_new w _, rfl, fun i hi => ?_⟩
    match i, hi with
    | 0, _ => rfl
    | 1, _ => rfl
    | 2, _ => rfl
  · intro i k hi hk
    match i, hi with
    | 0, _ => have := (hx.lt k hk).2; omega
    | 1, _ => have := (hy.lt k hk).2; omega
    | 2, _ => have := (hz.lt k hk).2; omega
  · intro i hi
    match i, hi with
    | 0, _ => exact lx
    | 1, _ => exact ly
    | 2, _ => exact lz
  · rintro e w' ⟨rfl, hb1⟩
    exact ⟨rfl, hb0.trans hb1⟩
end Go.Proofs.Ytodioefbfchckaa

namespace Go.Proofs.Ytodioefbfchckaa
open Go.RowKit Go.Shelf
set_option linter.unusedVariables false

/-! CutterApplies: what is asked of Apply, in one form. -/
theorem w17_len {pos : Int} {S : List St16} {m k : Nat} {old size : Int} (h : W17 pos S m k old size) : S.length ≤ 65536 := by
  obtain ⟨_, hsa, hsc, hmk, _⟩ := w17_ok h
  have key : ∀ i, i ≤ S.length → i ≤ sa16 S i + sc16 S i := by
    intro i
    induction i with
    | zero => intro _; omega
    | succ i ih =>
      intro hi
      have := ih (by omega)
      obtain ⟨g1, g2, g3, _⟩ := h.2.2.1 i (by omega)
      simp only [sa16, sc16, ad16, cp16]
      omega
  have := key S.length (Nat.le_refl _)
  omega
open Classical in
noncomputable def al17 (z : List Int) (pos : Int) (S : List St16) (D X : List Int) (size : Int) : List Int := if W17 pos S D.length X.length (z.length : Int) size then aw17 z pos S D X else []
/-- What Apply answers. -/
def ArQ17 (w : World) (L : List Int) (er : Int) (e : Ending) (w' : World) : Prop := ∃ ra rc, e = .returned (.tuple #[.slice ra L.length rc, .int .i64 er]) ∧ w'.ownsRow w.heap.size 5 1 (.slice ra L.length rc) L.length (L.map (Value.int .u8)) ∧ Below w.heap.size w w'
theorem papl17_all (pos size : Int) {za : Option Addr} {zc : Nat} {z : List Int} {sa : Option Addr} {sc : Nat} {da : Option Addr} {dc : Nat} {xa : Option Addr} {xc : Nat} {S : List St16} {D X : List Int} (w : World) (h : Ed17 w sa S.length S da D.length D xa X.length X) (hz : Seg w za z) (hzl : z.length ≤ 140737488351232) (hdc : D.length ≤ dc) (hxc : X.length ≤ xc) :
    Calls Try.prog 30 #[.slice za z.length zc, wn17 pos sa S.length sc da D.length dc xa X.length xc, .int .i64 size] w (ArQ17 w (al17 z pos S D X size) (cc17 pos S D.length X.length (z.length : Int) size)) := by
  by_cases hW : W17 pos S D.length X.length (z.length : Int) size
  · have e1 : al17 z pos S D X size = aw17 z pos S D X := by unfold al17; rw [if_pos hW]
    have hl := w17_len hW
    obtain ⟨_, _, _, hmk, _⟩ := w17_ok hW
    obtain ⟨sz, hsz⟩ : ∃ sz : Nat, (sz : Int) = size := ⟨size.toNat, by have := hW.1; omega⟩
    subst hsz
    rw [e1, cc17_ok hW]
    exact papl17 pos sz w ⟨h.ss, h.sd, h.sx, rfl, rfl, rfl, by omega, by omega, by omega⟩ hz rfl hdc hxc hW
  · have e1 : al17 z pos S D X size = [] := by unfold al17; rw [if_neg hW]
    rw [e1, cc17_no hW]
    refine (papl17_no pos size w h.ss rfl (by have := h.ln; omega) (by have := h.lm; omega) (by have := h.lk; omega) (by omega) hW).mono ?_
    rintro e w' ⟨rfl, hb⟩
    exact ⟨none, 0, rfl, ⟨by simp, .inl ⟨rfl, rfl⟩⟩, hb⟩
/-- The window that was faced, in memory. -/
theorem wn17_ed {base : Nat} {v1 v2 v3 : Value} {S : List St16} {D X : List Int} {w : World} (h : Wn17 base (v1, v2, v3) (pt17 S D X) w) (hf : ∀ t ∈ S, Fit16 t) (hd : ∀ t ∈ D, 0 ≤ t ∧ t ≤ 255) (hx : ∀ t ∈ X, 0 ≤ t ∧ t ≤ 255) (l1 : S.length ≤ 5864062014804) (l2 : D.length ≤ 140737488351232) (l3 : X.length ≤ 140737488351232) : ∃ sa sc da dc xa xc, v1 = .slice sa S.length sc ∧ v2 = .slice da D.length dc ∧ v3 = .slice xa X.length xc ∧ Ed17 w sa S.length S da D.length D xa X.length X ∧ D.length ≤ dc ∧ X.length ≤ xc := by
  obtain ⟨sa, sc, da, dc, xa, xc, e1, e2, e3, hs⟩ := wn17_seg h hf
  have h2 := h.oD
  have h3 := h.oX
  simp only at h2 h3
  rw [e2] at h2
  rw [e3] at h3
  obtain ⟨-, a2, c2, hv2, s2, -, k2, -⟩ := own_seg h2 (M := 255) (by decide) hd
  obtain ⟨-, a3, c3, hv3, s3, -, k3, -⟩ := own_seg h3 (M := 255) (by decide) hx
  injection hv2 with q1 q2 q3
  injection hv3 with r1 r2 r3
  subst q1; subst q3; subst r1; subst r3
  exact ⟨sa, sc, da, dc, xa, xc, e1, e2, e3, ⟨hs, s2, s3, rfl, rfl, rfl, l1, l2, l3⟩, k2, k3⟩
end Go.Proofs.Ytodioefbfchckaa

namespace Go.Proofs.Ytodioefbfchckaa
open Go.RowKit Go.Shelf
set_option linter.unusedVariables false

/-! CutterControls. -/
theorem cn17_bd (S : List St16) : ∀ z ∈ cn17 S, 0 ≤ z ∧ z ≤ 255 := by
  unfold cn17
  split
  · rename_i h
    exact encA_bd _ (nm17_bd (fun s hs => List.all_eq_true.1 h s hs))
  · intro z hz; simp at hz
theorem cn17_len (S : List St16) : (cn17 S).length ≤ 30 * S.length := by
  unfold cn17
  split
  · have := (encA_len (nm17 S)).2
    rw [nm17_len] at this
    omega
  · simp
theorem fit_cok17 {s : St16} (h : cok17 s = true) : Fit16 s := by
  have := (cok17_iff s).1 h
  unfold Fit16
  omega
theorem un17_len : ∀ (f : Nat) (b : List Int) (acc : List St16), (un17 f b acc).2.length ≤ acc.length + f
  | 0, b, acc => by simp [un17]
  | f + 1, b, acc => by
    by_cases hb : b = []
    · subst hb; rw [un17_nil]; show acc.length ≤ _; omega
    · by_cases ht : (th17 [] b 3).1 = 0
      · rw [un17_ok hb ht]
        have := un17_len f (th17 [] b 3).2.2 (acc ++ [sp17 (th17 [] b 3).2.1])
        rw [List.length_append] at this
        simp only [List.length_singleton] at this
        omega
      · rw [un17_no hb ht]; simp
/-- What Control answers, as a row. -/
theorem cnq17_row {w w' : World} {S : List St16} {e : Ending} (h : CnQ17 w S e w') : ∃ p c, e = .returned (.tuple #[.slice p (cn17 S).length c, .int .i64 (ce17 S)]) ∧ w'.ownsRow w.heap.size 5 1 (.slice p (cn17 S).length c) (cn17 S).length ((cn17 S).map (Value.int .u8)) ∧ Seg w' p (cn17 S) ∧ Below w.heap.size w w' := by
  obtain ⟨v, rfl, o, b⟩ := h
  obtain ⟨p, c, rfl⟩ := own_sl17 o
  obtain ⟨-, a, c2, hv, sg, -, -, -⟩ := own_seg o (M := 255) (by decide) (cn17_bd S)
  injection hv with h1 h2 h3
  subst h1
  exact ⟨p, c, rfl, o, sg, b⟩
theorem ucq17_row {ty : TypeId} {w w' : World} {z : List Int} {e : Ending} (h : UcQ17 ty w z e w') : ∃ p c, e = .returned (.tuple #[.slice p (un17 z.length z []).2.length c, .int .i64 (un17 z.length z []).1]) ∧ SegS w' p (un17 z.length z []).2 ∧ Below w.heap.size w w' := by
  obtain ⟨v, rfl, o, b, k⟩ := h
  obtain ⟨p, c, rfl⟩ := own_sl17 o
  exact ⟨p, c, rfl, own_segS17 o rfl (fun t ht => fit_cok17 (k t ht)), b⟩
theorem plq17_row {w w' : World} {S : List St16} {v2 v3 : Value} {e : Ending} (hf : ∀ t ∈ S, Fit16 t) (h : PlQ17 w S v2 v3 e w') : ∃ p c, e = .returned (.agg #[.slice p S.length c, v2, v3]) ∧ SegS w' p S ∧ Below w.heap.size w w' := by
  obtain ⟨v, rfl, o, b⟩ := h
  obtain ⟨p, c, rfl⟩ := own_sl17 o
  exact ⟨p, c, rfl, own_segS17 o rfl hf, b⟩
theorem un17_fit {f : Nat} {z : List Int} {w w' : World} {e : Ending} {ty : TypeId} (h : UcQ17 ty w z e w') : ∀ t ∈ (un17 z.length z []).2, Fit16 t := by
  obtain ⟨v, rfl, o, b, k⟩ := h
  exact fun t ht => fit_cok17 (k t ht)
set_option maxRecDepth 100000 in
set_option maxHeartbeats 16000000 in
theorem cutterControls_walk {sa : Option Addr} {sc : Nat} {S : List St16} {za : Option Addr} {zc : Nat} {z : List Int} (w : World) (hs : SegS w sa S) (hz : Seg w za z) (zn : za = none → zc = 0) (hzc : z.length ≤ zc) (hl1 : S.length ≤ 1048576) (hl2 : z.length ≤ 1048576) :
    Calls Try.prog 5 #[.slice sa S.length sc, .slice za z.length zc] w fun e w' => e = .returned (.bool true) ∧ Below w.heap.size w w' := by
  have hfd : ∀ (x : Option Addr) (n c : Nat) (y v : Value) (W : World), (Instr.field 25 (.agg #[.slice x n c, y, v]) 0).run Try.prog W = .ok (.slice x n c) W := fun _ _ _ _ _ _ => by kernel_rfl
  have HC1 := pfs17 sa S.length sc S w hs rfl (by omega)
  have HS : Hid (∀ W, Below w.heap.size w W → SegS W sa S) := fun W h => hs.old h
  have HZ : Hid (∀ W, Below w.heap.size w W → Seg W za z) := fun W h => hz.old h
  have HF : Hid (∀ t ∈ S, Fit16 t) := hs.fit
  have HL : Hid ((cn17 S).length ≤ 31457280) := by
    show _ ≤ _
    have := cn17_len S; omega
  have HZB : Hid (∀ t ∈ z, 0 ≤ t ∧ t ≤ 255) := hz.mem
  have HSL : Hid (S.length ≤ 1048576) := hl1
  have HZL : Hid (z.length ≤ 1048576) := hl2
  have HZN : Hid (za = none → zc = 0) := zn
  have HZC : Hid (z.length ≤ zc) := hzc
  clear hs hz hl1 hl2 zn hzc
  go_enter Try.func5, Try.ntmps5
  go_wp2_with fail
  refine HC1.mono ?_
  rintro e1 w1 ⟨v1, rfl, o1, b1⟩
  obtain ⟨ga, gc, hv1⟩ := own_sl17 o1
  subst hv1
  have HG : Hid (∀ W, Below w1.heap.size w1 W → SegS W ga S) := fun W h => (own_segS17 o1 rfl HF.out).old h
  clear o1 HC1
  have HW1 : Hid (Below w.heap.size w w1) := b1
  clear b1
  have HP := fun W (hW : Below w1.heap.size w1 W) => pctl17 ga S.length gc S W (HG.out W hW) rfl (by have := HSL.out; omega)
  have HP : Hid (∀ W, Below w1.heap.size w1 W → Calls Try.prog 20 #[.slice ga S.length gc] W (CnQ17 W S)) := HP
  go_wp2_with fail
  refine (HP.out w1 (Below.refl _ _)).mono ?_
  intro e2 w2 h2
  obtain ⟨p2, c2, rfl, o2, s2, b2⟩ := cnq17_row h2
  have HB2 : Hid (Below w1.heap.size w1 w2) := b2
  clear h2 b2
  go_wp2_with fail
  refine (HP.out w2 HB2.out).mono ?_
  intro e3 w3 h3
  obtain ⟨p3, c3, rfl, o3, s3, b3⟩ := cnq17_row h3
  have HB23 : Hid (Below w2.heap.size w2 w3) := b3
  have HB3 : Hid (Below w1.heap.size w1 w3) := HB2.out.trans (b3.mono HB2.out.size)
  clear h3 b3
  have HR := rctl17 sa S.length sc S w3 (HS.out w3 (HW1.out.trans (HB3.out.mono HW1.out.size))) rfl (by have := HSL.out; omega)
  go_wp2_with fail
  refine HR.mono ?_
  intro e4 w4 h4
  obtain ⟨p4, c4, rfl, o4, s4, b4⟩ := cnq17_row h4
  have HB34 : Hid (Below w3.heap.size w3 w4) := b4
  have HB4 : Hid (Below w1.heap.size w1 w4) := HB3.out.trans (b4.mono HB3.out.size)
  have h24 : Below w2.heap.size w2 w4 := HB23.out.trans (b4.mono HB23.out.size)
  have S1 := bsame_any p2 p4 _ _ c2 c4 w4 (s2.old h24) s4
  have S2 := bsame_any p3 p4 _ _ c3 c4 w4 (s3.old b4) s4
  rw [show (cn17 S == cn17 S) = true by simp] at S1 S2
  have O2 : Hid (w4.ownsRow w1.heap.size 5 1 (.slice p2 (cn17 S).length c2) (cn17 S).length ((cn17 S).map (Value.int .u8))) := own_below o2 h24
  have O3 : Hid (w4.ownsRow w1.heap.size 5 1 (.slice p3 (cn17 S).length c3) (cn17 S).length ((cn17 S).map (Value.int .u8))) := own_base (own_below o3 b4) HB2.out.size
  have HAP : Hid (Ap (Value.slice p2 (cn17 S).length c2).ownBlock (Value.slice p3 (cn17 S).length c3).ownBlock) := fun t x y => by
    have := (o2.lt t x).2
    have := (o3.lt t y).1
    omega
  clear h4 b4 h24 o2 o3 o4 s2 s3 s4 HR HB23 HB34 HB3 HB2
  have PL := pplain17 (sa := ga) (n := S.length) (sc := gc) (da := none) (m := 0) (dc := 0) (xa := none) (k := 0) (xc := 0) w4 (HG.out w4 HB4.out) rfl (by have := HSL.out; omega)
  have PL : Hid (Calls Try.prog 13 #[.agg #[.slice ga S.length gc, .slice none 0 0, .slice none 0 0]] w4 (PlQ17 w4 S (.slice none 0 0) (.slice none 0 0))) := PL
  generalize ce17 S = er at *
  generalize cn17 S = L at *
  go_wp2_with fail
  refine S1.mono ?_
  rintro e9 w9 ⟨rfl, hw9⟩
  subst w9
  clear S1
  go_wp2_with fail
  refine S2.mono ?_
  rintro e9 w9 ⟨rfl, hw9⟩
  subst w9
  clear S2
  go_wp2_with fail
  refine PL.out.mono ?_
  intro e5 w5 h5
  obtain ⟨p5, c5, rfl, s5, b5⟩ := plq17_row HF.out h5
  have HB5 : Hid (Below w1.heap.size w1 w5) := HB4.out.trans (b5.mono HB4.out.size)
  have SS := rsst17 p5 sa S.length c5 sc S w5 s5 (HS.out w5 (HW1.out.trans (HB5.out.mono HW1.out.size))) rfl (by have := HSL.out; omega)
  have HB45 : Hid (Below w4.heap.size w4 w5) := b5
  clear h5 s5 b5 PL
  go_wp2_with fail
  refine SS.mono ?_
  rintro e6 w6 ⟨rfl, b6⟩
  have HB46 : Hid (Below w4.heap.size w4 w6) := HB45.out.trans (b6.mono HB45.out.size)
  have HB6 : Hid (Below w1.heap.size w1 w6) := HB5.out.trans (b6.mono HB5.out.size)
  have OW := own_two w1.heap.size (.slice p2 L.length c2) (.slice p3 L.length c3) L L w6 (own_below O2.out HB46.out) (own_below O3.out HB46.out) HAP.out (by have := HL.out; omega) (by have := HL.out; omega) HB6.out.size
  clear b6 SS HB45 HB5 O2 O3 HAP HB4
  go_wp2_with fail
  refine OW.mono ?_
  rintro e7 w7 ⟨rfl, b7⟩
  have HB7 : Hid (Below w1.heap.size w1 w7) := HB6.out.trans b7
  have HW7 : Hid (Below w.heap.size w w7) := HW1.out.trans (HB7.out.mono HW1.out.size)
  clear b7 OW HB46 HB6 HB7 HG HP HW1 HS
  have LD := lend_any za z zc w7 (HZ.out w7 HW7.out) HZN.out (by have := HZL.out; omega)
  go_wp2_with fail
  refine LD.mono ?_
  rintro e8 w8 ⟨gl, cl, rfl, ol, b8⟩
  obtain ⟨-, al, cl2, hvl, sl, -, hcl, -⟩ := own_seg ol (M := 255) (by decide) (lent_bd HZB.out)
  injection hvl with ql1 ql2 ql3
  subst ql1; subst ql3
  have hsz : Seg w8 (some ⟨gl, 0, none⟩) z := by
    have := sl.take z.length
    have e : (lentL z).take z.length = z := by unfold lentL; simp
    rw [e] at this
    exact this
  have UC := puc17 (some ⟨gl, 0, none⟩) z.length cl z w8 hsz rfl (by omega) (by intro h; cases h) (by have := HZL.out; omega)
  have HW8 : Hid (Below w.heap.size w w8) := HW7.out.trans (b8.mono HW7.out.size)
  have HSL8 : Hid (Seg w8 (some ⟨gl, 0, none⟩) (lentL z)) := sl
  clear LD ol b8 sl hcl hsz ql2 HW7
  go_wp2_with fail
  refine UC.mono ?_
  intro e10 w10 h10
  have hfit := un17_fit (f := 0) h10
  obtain ⟨p10, c10, rfl, s10, b10⟩ := ucq17_row h10
  have HW10 : Hid (Below w.heap.size w w10) := HW8.out.trans (b10.mono HW8.out.size)
  have HSL10 : Hid (Seg w10 (some ⟨gl, 0, none⟩) (lentL z)) := HSL8.out.old b10
  have RC := ruc17 za z.length zc z w10 (HZ.out w10 HW10.out) rfl HZC.out HZN.out (by have := HZL.out; omega)
  have HS10 : Hid (SegS w10 p10 (un17 z.length z []).2) := s10
  have HFI : Hid (∀ t ∈ (un17 z.length z []).2, Fit16 t) := hfit
  have HTL : Hid ((un17 z.length z []).2.length ≤ 5864062014804) := by
    show _ ≤ _
    have := un17_len z.length z []
    have := HZL.out
    simp only [List.length_nil] at *
    omega
  clear h10 s10 b10 UC hfit HSL8 HW8
  go_wp2_with fail
  refine RC.mono ?_
  intro e11 w11 h11
  obtain ⟨p11, c11, rfl, s11, b11⟩ := ucq17_row h11
  have HW11 : Hid (Below w.heap.size w w11) := HW10.out.trans (b11.mono HW10.out.size)
  have sA : SegS w11 p10 (un17 z.length z []).2 := HS10.out.old b11
  have HSL11 : Hid (Seg w11 (some ⟨gl, 0, none⟩) (lentL z)) := HSL10.out.old b11
  clear h11 RC b11
  generalize un17 z.length z [] = T at *
  obtain ⟨te, T⟩ := T
  simp only at *
  have PL := pplain17 (sa := p10) (n := T.length) (sc := c10) (da := none) (m := 0) (dc := 0) (xa := none) (k := 0) (xc := 0) w11 sA rfl (by have := HTL.out; omega)
  have PL : Hid (Calls Try.prog 13 #[.agg #[.slice p10 T.length c10, .slice none 0 0, .slice none 0 0]] w11 (PlQ17 w11 T (.slice none 0 0) (.slice none 0 0))) := PL
  have HS11 : Hid (SegS w11 p11 T) := s11
  clear sA s11
  go_wp2_with fail
  refine PL.out.mono ?_
  intro e12 w12 h12
  obtain ⟨p12, c12, rfl, s12, b12⟩ := plq17_row HFI.out h12
  have HW12 : Hid (Below w.heap.size w w12) := HW11.out.trans (b12.mono HW11.out.size)
  have SS := rsst17 p12 p11 T.length c12 c11 T w12 s12 (HS11.out.old b12) rfl (by have := HTL.out; omega)
  have HSL12 : Hid (Seg w12 (some ⟨gl, 0, none⟩) (lentL z)) := HSL11.out.old b12
  clear h12 s12 b12 PL
  go_wp2_with fail
  refine SS.mono ?_
  rintro e13 w13 ⟨rfl, b13⟩
  have HW13 : Hid (Below w.heap.size w w13) := HW12.out.trans (b13.mono HW12.out.size)
  have KE := kept_any za (some ⟨gl, 0, none⟩) (lentL z) z cl zc w13 (HSL12.out.old b13) (HZ.out w13 HW13.out) HZN.out (by have := HZL.out; omega)
  rw [show (lentL z == lentL z) = true by simp, show (lentL z).length = z.length + 5 by simp [lentL]] at KE
  clear b13 SS HSL12
  go_wp2_with fail
  refine KE.mono ?_
  rintro e14 w14 ⟨rfl, b14⟩
  have HW14 : Hid (Below w.heap.size w w14) := HW13.out.trans (b14.mono HW13.out.size)
  clear b14 KE
  go_wp2_with fail
  refine (plives17 w14).mono ?_
  rintro e15 w15 ⟨rfl, b15⟩
  go_wp2_with fail
  go_ret
  exact ⟨rfl, HW14.out.trans (b15.mono HW14.out.size)⟩
end Go.Proofs.Ytodioefbfchckaa

namespace Go.Proofs.Ytodioefbfchckaa
open Go.RowKit
set_option linter.unusedVariables false

/-- What was written is taken up, whatever stands behind. -/
theorem dec_enc : ∀ (f c : Nat) (u v : Int) (rest : List Int), c + f = 9 → 0 ≤ v → v < 2 * 128 ^ f → (c = 0 ∨ 0 < v) → decL u c (encL f v ++ rest) = (u + v * 128 ^ c, (c : Int) + ((encL f v).length : Int), 0)
  | 0, c, u, v, rest, hc, h0, h1, h2 => by
    obtain rfl : c = 9 := by omega
    simp at h1
    have hv : 0 < v := by rcases h2 with h | h; · omega
                          · exact h
    obtain rfl : v = 1 := by omega
    simp [encL, decL, tkErr, tkVal]
  | f + 1, c, u, v, rest, hc, h0, h1, h2 => by
    have hp := pow128_pos f
    have h3 : (128 : Int) ^ (f + 1) = 128 ^ f * 128 := Int.pow_succ _ _
    have hc9 : c ≠ 9 := by omega
    by_cases h7 : 127 < v
    · have ih := dec_enc f (c + 1) (tkVal u c (v % 128 + 128)) (v / 128) rest (by omega) (by omega) (by omega) (Or.inr (by omega))
      have ht : tkErr c (v % 128 + 128) = 0 := by
        unfold tkErr
        rw [if_neg (by omega), if_neg (by omega)]
      have e : encL (f + 1) v = (v % 128 + 128) :: encL f (v / 128) := by rw [encL, if_pos h7]
      rw [e, List.cons_append, decL, if_neg (by simp [ht]), if_neg (by omega), ih]
      have e2 : (v % 128 + 128) % 128 = v % 128 := by omega
      have e3 : v / 128 * 128 ^ (c + 1) = (v / 128 * 128) * 128 ^ c := by rw [Int.pow_succ, Int.mul_assoc, Int.mul_comm 128, ← Int.mul_assoc]
      have e4 : v % 128 * 128 ^ c + v / 128 * 128 ^ (c + 1) = v * 128 ^ c := by
        rw [e3, ← Int.add_mul]
        congr 1
        omega
      have e5 : tkVal u c (v % 128 + 128) + v / 128 * 128 ^ (c + 1) = u + v * 128 ^ c := by
        unfold tkVal
        rw [e2, Int.add_assoc, e4]
      rw [e5]
      simp only [List.length_cons, Prod.mk.injEq, true_and, and_true]
      omega
    · have e : encL (f + 1) v = [v] := by rw [encL, if_neg h7]
      have ht : tkErr c v = 0 := by
        unfold tkErr
        rw [if_neg (by omega), if_neg (by omega)]
      rw [e, List.singleton_append, decL, if_neg (by simp [ht]), if_pos (by omega)]
      have e2 : v % 128 = v := by omega
      simp [tkVal, e2]
theorem dec_encI (v : Int) (rest : List Int) (h0 : 0 ≤ v) (h1 : v ≤ 18446744073709551615) : decL 0 0 (encI v ++ rest) = (v, ((encI v).length : Int), 0) := by
  have := dec_enc 9 0 0 v rest rfl h0 (by rw [pow9]; omega) (Or.inl rfl)
  simp at this
  exact this

theorem encA_drop (zs : List Int) (k : Nat) (h : k < zs.length) (rest : List Int) : (encA zs ++ rest).drop (encA (zs.take k)).length = encI (zs.getD k 0) ++ (encA (zs.drop (k + 1)) ++ rest) := by
  have e : zs = zs.take k ++ (zs.getD k 0 :: zs.drop (k + 1)) := by rw [← drop_cons h, List.take_append_drop]
  have e2 : encA zs = encA (zs.take k) ++ (encI (zs.getD k 0) ++ encA (zs.drop (k + 1))) := by
    conv => lhs; rw [e]
    rw [encA_append]; rfl
  rw [e2, List.append_assoc, List.drop_left, List.append_assoc]
theorem encA_take_lt (zs : List Int) (k : Nat) (h : k < zs.length) : (encA (zs.take k)).length + (encI (zs.getD k 0)).length ≤ (encA zs).length := by
  have := congrArg List.length (encA_drop zs k h [])
  simp only [List.length_drop, List.length_append, List.append_nil] at this
  have := (encI_len (zs.getD k 0)).1
  omega
end Go.Proofs.Ytodioefbfchckaa

namespace Go.Proofs.Ytodioefbfchckaa
open Go.RowKit
set_option linter.unusedVariables false

/-- What is taken is just what is written. -/
theorem dec_ok : ∀ (zs : List Int) (c : Nat) (u w n : Int), c ≤ 9 → 0 ≤ u → u < 128 ^ c → (∀ z ∈ zs, 0 ≤ z ∧ z ≤ 255) → decL u c zs = (w, n, 0) →
    ∃ (m : Nat) (v : Int), 1 ≤ m ∧ m ≤ zs.length ∧ n = (c : Int) + (m : Int) ∧ 0 ≤ v ∧ v < 2 * 128 ^ (9 - c) ∧ w = u + v * 128 ^ c ∧ zs.take m = encL (9 - c) v ∧ (0 < c → 0 < v)
  | [], c, u, w, n, _, _, _, _, h => by simp [decL] at h
  | x :: r, c, u, w, n, hc, hu0, hu1, hz, h => by
    have hx := hz x (by simp)
    have hp := pow128_pos c
    rw [decL] at h
    by_cases he : tkErr c x = 0
    · rw [if_neg (by simp [he])] at h
      have h9 := tkErr_nine he
      have hne : 0 < c → x ≠ 0 := by
        intro h1 h2
        subst h2
        unfold tkErr at he
        split at he
        · cases he
        · rw [if_pos ⟨h1, rfl⟩] at he; cases he
      by_cases h7 : x < 128
      · rw [if_pos h7] at h
        simp only [Prod.mk.injEq, and_true] at h
        obtain ⟨rfl, rfl⟩ := h
        have e2 : x % 128 = x := by omega
        have hp9 := pow128_pos (9 - c)
        refine ⟨1, x, by omega, by simp, by omega, hx.1, ?_, by unfold tkVal; rw [e2], ?_, fun h1 => by have := hne h1; omega⟩
        · by_cases e : c = 9
          · subst e; have := h9 rfl; simp; omega
          · have h1 : (128 : Int) ^ 1 ≤ 128 ^ (9 - c) := pow128_mono (by omega)
            simp at h1
            omega
        · cases 9 - c with
          | zero => simp [encL]
          | succ f => rw [encL, if_neg (by omega)]; simp
      · rw [if_neg h7] at h
        have hc8 := tk_more_le hc he (by omega)
        have hbd := tkVal_bd u c x hu0 hu1 hx.1
        obtain ⟨m, v, h1, h2, h3, h4, h5, h6, h8, h10⟩ := dec_ok r (c + 1) (tkVal u c x) w n (by omega) hbd.1 hbd.2 (fun z hz' => hz z (by simp [hz'])) h
        have hv := h10 (by omega)
        obtain ⟨f, hf⟩ : ∃ f, 9 - c = f + 1 := ⟨9 - c - 1, by omega⟩
        have hf2 : 9 - (c + 1) = f := by omega
        rw [hf2] at h5 h8
        have e3 : (128 : Int) ^ (f + 1) = 128 ^ f * 128 := Int.pow_succ _ _
        have hpf := pow128_pos f
        have d1 : (x % 128 + v * 128) / 128 = v := by omega
        have d2 : (x % 128 + v * 128) % 128 + 128 = x := by omega
        refine ⟨m + 1, x % 128 + v * 128, by omega, by simp; omega, by omega, by omega, by rw [hf, e3]; omega, ?_, ?_, fun _ => by omega⟩
        · rw [h6]
          unfold tkVal
          rw [Int.add_mul, Int.pow_succ, Int.add_assoc, Int.mul_assoc, Int.mul_comm 128]
        · rw [hf, encL, if_pos (by omega), d1, d2, List.take_succ_cons, h8]
    · rw [if_pos (by simp [he])] at h
      simp at h
      exact absurd h.2.2 he

theorem decI_ok (zs : List Int) (w n : Int) (hz : ∀ z ∈ zs, 0 ≤ z ∧ z ≤ 255) (h : decL 0 0 zs = (w, n, 0)) : ∃ m : Nat, 1 ≤ m ∧ m ≤ zs.length ∧ n = (m : Int) ∧ 0 ≤ w ∧ w ≤ 18446744073709551615 ∧ zs.take m = encI w := by
  obtain ⟨m, v, h1, h2, h3, h4, h5, h6, h7, _⟩ := dec_ok zs 0 0 w n (by omega) (by omega) (by decide) hz h
  have := pow9
  simp only [Nat.sub_zero, Int.pow_zero, Int.mul_one, Int.zero_add] at h5 h6 h7
  subst h6
  exact ⟨m, h1, h2, by omega, h4, by omega, h7⟩

theorem dec_bad : ∀ (zs : List Int) (c : Nat) (u : Int), (decL u c zs).2.2 ≠ 0 → (decL u c zs).1 = 0 ∧ (decL u c zs).2.1 = 0
  | [], c, u, h => by simp [decL]
  | x :: r, c, u, h => by
    rw [decL] at h ⊢
    by_cases he : tkErr c x = 0
    · rw [if_neg (by simp [he])] at h ⊢
      by_cases h7 : x < 128
      · rw [if_pos h7] at h; simp at h
      · rw [if_neg h7] at h ⊢; exact dec_bad r _ _ h
    · rw [if_pos (by simp [he])]; simp

/-- No number's form begins another one's. -/
theorem enc_prefix (u v : Int) (hu0 : 0 ≤ u) (hu1 : u ≤ 18446744073709551615) (hv0 : 0 ≤ v) (hv1 : v ≤ 18446744073709551615) (h : encI u = (encI v).take (encI u).length) : u = v := by
  have h1 := dec_encI v [] hv0 hv1
  have h2 := dec_encI u ((encI v).drop (encI u).length) hu0 hu1
  have e : encI u ++ (encI v).drop (encI u).length = encI v := by
    conv => lhs; arg 1; rw [h]
    exact List.take_append_drop _ _
  rw [e] at h2
  rw [List.append_nil] at h1
  rw [h1] at h2
  simp at h2
  exact h2.1.symm
end Go.Proofs.Ytodioefbfchckaa
