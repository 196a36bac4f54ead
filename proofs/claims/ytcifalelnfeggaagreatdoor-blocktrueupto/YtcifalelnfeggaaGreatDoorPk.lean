import Derived.Test.YtcifalelnfeggaaGreatDoorPj
import Derived.Laws.MakeOwn
import Derived.Deep.RegionLaw
import Derived.Deep.AppendLies
import Derived.Test.YtcifalelnfeggaaGreatDoorPa
import Derived.Test.YtcifalelnfeggaaGreatDoorPc
import Derived.Laws.EntriesVeiled
import Derived.Test.YtcifalelnfeggaaGreatDoorPb
import Derived.Deep.OwnRows
namespace Go.Proofs.YtcifalelnfeggaaGreatDoor
open Go.RowKit
set_option linter.unusedVariables false

theorem own_RL {w : World} {base n cap : Nat} {e : TypeId} {b : Option Addr} {L : List Im} (h : w.ownsRow base e 4 (.slice b n cap) n (flatI L)) (hl : L.length = n) : RL w b L := by
  refine ⟨fun k hk => ?_⟩
  obtain ⟨g, c, hv, _⟩ := own_shape4 h (by omega)
  simp only [Value.slice.injEq] at hv
  obtain ⟨rfl, _, rfl⟩ := hv
  have := (own_row4 h hl).it (k := k) (by omega)
  exact ⟨g, 0, rfl, by rw [Nat.zero_add]; exact this⟩
theorem own_facts4 {w : World} {base n cap : Nat} {e : TypeId} {b : Option Addr} {xs : List Value} (h : w.ownsRow base e 4 (.slice b n cap) n xs) : n ≤ cap ∧ (b = none → cap = 0) ∧ ∀ x, b = some x → base ≤ x.block := by
  rcases h.2 with ⟨h1, h2⟩ | ⟨g, cp, cur, h1, h2, h3, h4, _⟩
  · simp only [Value.slice.injEq] at h1
    obtain ⟨rfl, _, rfl⟩ := h1
    exact ⟨by omega, (fun _ => rfl), (fun x h => by cases h)⟩
  · simp only [Value.slice.injEq] at h1
    obtain ⟨rfl, _, rfl⟩ := h1
    exact ⟨h4, (fun h => by cases h), (fun x h => by cases h; exact h2)⟩
def Gw (G : Nat → Prop) (a : Option Addr) : Nat → Prop := fun k => G k ∨ ∃ o, a = some ⟨k, o, none⟩

set_option maxRecDepth 100000 in
set_option maxHeartbeats 2000000 in
theorem packed_any (a : Option Addr) (n cap d : Nat) (L : List Im) (ts : List It) (G : Nat → Prop) (w : World) (hn : Hid (L.length = n)) (hR : RL w a L) (hM : ML G w d L ts) (hG : ∀ b, G b → b < w.heap.size) (hb : ∀ t ∈ ts, t.1 ≤ 1152921504606846976) (hl : n ≤ 100000) :
    Calls Tryz.prog 119 #[.slice a n cap] w fun e w' => ∃ b c' L', e = .returned (.slice b L'.length c') ∧ L'.length = n / 2 ∧ (L'.length ≤ c' ∧ (b = none → c' = 0)) ∧ RL w' b L' ∧ ML (Gw G a) w' (d + 1) L' (pk ts) ∧ Below w.heap.size w w' := by
  obtain ⟨i0, hi, hz0, hz1, hz2⟩ := info_parts info_item
  obtain ⟨H, hH⟩ : ∃ H, H = n / 2 := ⟨_, rfl⟩
  have rH : (n : Int).tdiv 2 = (H : Int) := by rw [Int.tdiv_eq_ediv_of_nonneg (by omega)]; omega
  have HH : Hid (H = n / 2) := hH
  have hHb : H ≤ 100000 := by omega
  obtain ⟨w1, hr, own1, gr1⟩ := run_make_own (P := Tryz.prog) w w.heap.size 154 158 i0 _ 4 Tryz.underlying154 hi hz0 hz1 .i64 .i64 H (by rw [hz2]; omega) (by unfold maxLen; omega) (Nat.le_refl _)
  have B1 : Below w.heap.size w w1 := ⟨gr1.os, gr1.tape, gr1.output, gr1.size, fun i hi => gr1.block i hi (by simp)⟩
  clear hH gr1
  go_enter Tryz.func119, Tryz.ntmps119
  go_wp2_with fail
  go_loopw [3, 4] (fun to ti wr => ∃ (k c : Nat) (b : Option Addr) (P : List Im), 2 * k ≤ n ∧ ti = .int .i64 (2 * (k : Int) + 1) ∧ to = .slice b k c ∧ Hid (P.length = k) ∧ wr.ownsRow w.heap.size 158 4 (.slice b k c) k (flatI P) ∧ Below w.heap.size w wr ∧ Hid (ML (Gw G a) wr (d + 1) P (pk (ts.take (2 * k))))) (fun _ ti _ => n + 2 - (intOf ti).toNat)
  case atStart => exact ⟨0, H, _, [], by omega, by simp, rfl, (rfl : _ = _), own1, B1, (by simpa [pk] using ML.nil _ _ _ : ML _ _ _ _ _)⟩
  case round =>
    obtain ⟨k, c, b, P, hk, rfl, rfl, HPk, OR, BR, HML⟩ := hrel
    by_cases h1 : 2 * k + 1 < n
    · have h1i : 2 * (k : Int) + 1 < (n : Int) := by omega
      obtain ⟨p, hp⟩ : ∃ p, p = 2 * k := ⟨_, rfl⟩
      obtain ⟨q, hq⟩ : ∃ q, q = 2 * k + 1 := ⟨_, rfl⟩
      obtain ⟨g, off, rfl, x⟩ := hR.at_ p (by have := hn.out; omega)
      obtain ⟨g', off', e, y⟩ := hR.at_ q (by have := hn.out; omega)
      cases e
      have x2 := x.of_block (BR.block g x.lt)
      have y2 := y.of_block (BR.block g x.lt)
      have m1 := hM.mn p (by have := hn.out; omega)
      have m2 := hM.mn q (by have := hn.out; omega)
      have hlt := hM.len
      have hb1 : (ts.getD p it0).1 ≤ 1152921504606846976 := hb _ (by have := hn.out; simp [List.getD, show p < ts.length by omega])
      have hb2 : (ts.getD q it0).1 ≤ 1152921504606846976 := hb _ (by have := hn.out; simp [List.getD, show q < ts.length by omega])
      have HPK : Hid (pk (ts.take (2 * (k + 1))) = pk (ts.take (2 * k)) ++ [((ts.getD p it0).1 + (ts.getD q it0).1, (ts.getD p it0).2 ++ (ts.getD q it0).2)]) := by
        rw [hp, hq]; exact pk_snoc ts k (by have := hn.out; omega)
      generalize ts.getD p it0 = s at *
      generalize ts.getD q it0 = u at *
      generalize L.getD p im0 = X at *
      generalize L.getD q im0 = Y at *
      have e1 := m1.wt
      have e2 := m2.wt
      obtain ⟨X0, X1, X2, X3⟩ := X
      obtain ⟨Y0, Y1, Y2, Y3⟩ := Y
      simp only at e1 e2
      subst e1 e2
      have HMN : Hid (∀ W, Below w.heap.size w W → Mn (Gw G (some ⟨g, off, none⟩)) W (d + 1) ⟨((s.1 + u.1 : Nat) : Int), 0, some ⟨g, off + p * 4, none⟩, some ⟨g, off + q * 4, none⟩⟩ (s.1 + u.1, s.2 ++ u.2)) := fun W hW => by
        refine .inr ⟨g, off + p * 4, g, off + q * 4, _, _, s, u, rfl, rfl, .inr ⟨off, rfl⟩, .inr ⟨off, rfl⟩, x.of_block (hW.block g x.lt), y.of_block (hW.block g x.lt), ?_, ?_, rfl, rfl⟩
        · exact Mn.mono (fun b hb => .inl hb) _ _ _ (Mn.keep (fun b hb => hW.block b (hG b hb)) _ _ _ m1)
        · exact Mn.mono (fun b hb => .inl hb) _ _ _ (Mn.keep (fun b hb => hW.block b (hG b hb)) _ _ _ m2)
      have HKP : Hid (∀ W, Below w.heap.size w W → ML (Gw G (some ⟨g, off, none⟩)) W (d + 1) P (pk (ts.take (2 * k)))) := fun W hW => HML.out.keep (fun b hb => by
        have hlt2 : b < w.heap.size := by
          rcases hb with hb | ⟨o, e⟩
          · exact hG b hb
          · cases e; exact x.lt
        rw [hW.block b hlt2, BR.block b hlt2])
      have xc := x2.c0
      have yc := y2.c0
      simp only at xc yc
      have r1 : 2 * (k : Int) + 1 = (q : Int) := by omega
      have r2 : (q : Int) - 1 = (p : Int) := by omega
      obtain ⟨sm, hsm⟩ : ∃ sm, sm = s.1 + u.1 := ⟨_, rfl⟩
      have r3 : (s.1 : Int) + (u.1 : Int) = (sm : Int) := by omega
      have HSM : Hid (sm = s.1 + u.1) := hsm
      have HQ : Hid (q = 2 * k + 1 ∧ p = 2 * k) := ⟨hq, hp⟩
      have z1 : (p : Int) < (n : Int) := by omega
      have z2 : (q : Int) < (n : Int) := by omega
      have z3 : (0 : Int) ≤ (p : Int) := by omega
      have z4 : (0 : Int) ≤ (q : Int) := by omega
      have zs : sm ≤ 2305843009213693952 := by omega
      rw [r1]
      clear hsm hq hp x y x2 y2 m1 m2 HML h1i r1
      go_wp2_with fail
      go_region
      have OR1 : wr.drew.ownsRow w.heap.size 158 4 (.slice b k c) k (flatI P) := OR
      have BR1 : Below w.heap.size w wr.drew := BR.drew
      have xc1 : wr.drew.cell? ⟨g, off + p * 4, none⟩ = some (.int .i64 (s.1 : Int)) := xc
      have yc1 : wr.drew.cell? ⟨g, off + q * 4, none⟩ = some (.int .i64 (u.1 : Int)) := yc
      clear OR BR xc yc
      generalize wr.drew = w2 at *
      have hw2s := BR1.size
      have hwp : IntKind.i64.wrap (sm : Int) = (sm : Int) := IntWalk.i64_in _ (by omega)
      go_wp2_with fail
      go_region_law
        (refine step_append_lies _ (by rfl) _ _ _ (by rfl) w.heap.size 158 i0 _ 4 32 Tryz.underlying154 hi hz0 hz1 hz2 rfl (by omega) (.slice b k c) k (flatI P) (by rfl) ((OR1.alloc _).drew)
            ⟨w2.heap.size, 0, none⟩ 1 1 [.int .i64 (sm : Int), .int .i64 0, .pointer (some ⟨g, off + p * 4, none⟩), .pointer (some ⟨g, off + q * 4, none⟩)] (by rfl) (by rfl) (World.news_of_block (cs := #[.int .i64 (sm : Int), .int .i64 0, .pointer (some ⟨g, off + p * 4, none⟩), .pointer (some ⟨g, off + q * 4, none⟩)]) (t := 158) (fr := (0, 0)) (heap_alloc_new w2 _)) (by simp [Value.oneCell'])
            (by omega) (by unfold maxLen; omega) (by omega) (by simp; omega) (w2.heap.size + 1) (by simp) ?_; intro gg cap2 w3 hown2 hgrow hat hlt2)
      all_goals
        have BA : Below w.heap.size w (w2.alloc (.cells #[.int .i64 (sm : Int), .int .i64 0, .pointer (some ⟨g, off + p * 4, none⟩), .pointer (some ⟨g, off + q * 4, none⟩)] 158)).drew := (BR1.alloc hw2s _).drew
        have B3 : Below w.heap.size w w3 := BA.trans ((Below.refl _ _).grown hgrow BA.size (fun j hj => (OR1.lt j hj).1))
        have OR3 : w3.ownsRow w.heap.size 158 4 (.slice (some ⟨gg, 0, none⟩) (k + 1) cap2) (k + 1) (flatI (P ++ [⟨(sm : Int), 0, some ⟨g, off + p * 4, none⟩, some ⟨g, off + q * 4, none⟩⟩])) := by
          rw [flatI_app]; exact hown2
        have HM3 : Hid (ML (Gw G (some ⟨g, off, none⟩)) w3 (d + 1) (P ++ [⟨(sm : Int), 0, some ⟨g, off + p * 4, none⟩, some ⟨g, off + q * 4, none⟩⟩]) (pk (ts.take (2 * (k + 1))))) := by
          rw [HPK.out, HSM.out]
          exact (HKP.out w3 B3).app (ML.one (HMN.out w3 B3))
        have HPL : Hid ((P ++ [(⟨(sm : Int), 0, some ⟨g, off + p * 4, none⟩, some ⟨g, off + q * 4, none⟩⟩ : Im)]).length = k + 1) := by
          have h9 := HPk.out
          show _ = _
          rw [List.length_append, h9]; rfl
        clear hown2 hgrow hat hlt2 BA OR1 BR1 HKP HMN
        go_wp2
        go_roundw
        case rel => exact ⟨k + 1, cap2, some ⟨gg, 0, none⟩, P ++ [⟨(sm : Int), 0, some ⟨g, off + p * 4, none⟩, some ⟨g, off + q * 4, none⟩⟩], by omega, by have := HQ.out.1; congr 1; omega, rfl, HPL, OR3, B3, HM3⟩
        case measure => have := HQ.out.1; simp [intOf]; omega
    · have h1i : ¬ 2 * (k : Int) + 1 < (n : Int) := by omega
      have hk2 : k = n / 2 := by omega
      have HK2 : Hid (k = n / 2) := hk2
      have HPW : Hid (pk (ts.take (2 * k)) = pk ts) := pk_whole ts k (by have := hM.len; have := hn.out; omega) (by have := hM.len; have := hn.out; omega)
      clear hk2
      go_wp2
      go_ret
      have hPk := HPk.out
      have hml := HML.out
      rw [HPW.out] at hml
      exact ⟨b, c, P, by rw [hPk]; rfl, by rw [hPk]; exact HK2.out, (by have := own_facts4 OR; rw [hPk]; exact ⟨this.1, this.2.1⟩), own_RL OR hPk, hml, BR⟩
end Go.Proofs.YtcifalelnfeggaaGreatDoor

namespace Go.Proofs.YtcifalelnfeggaaGreatDoor
open Go.RowKit
set_option linter.unusedVariables false

/-- Items that lie somewhere (or none), behind a row of the call's own. -/
theorem wpList_app4o {P : Program} {ops : Array Oper} {rest : List Oper} {o : Oper} {a : Act} {Q : Exit → Act → World → Prop} (hgd : o.guard = none) (s x : Operand) (t : TypeId)
    (ho : o.op = .call { callee := .builtin .append, args := #[s, x], argTypes := #[t, t] })
    (base : Nat) (e : TypeId) (i : TypeInfo) (z : Value) (bytes : Nat) (ht : P.underlying t = some (.slice e)) (hi : P.info? e = some i) (hz : i.zero = some z)
    (hsize : i.size = 4) (hby : i.bytes = bytes) (hzs : z.cells.size = 4)
    {w : World} {ra : Option Addr} {n rc : Nat} {l : List Im} (hown : w.ownsRow base e 4 (.slice ra n rc) n (flatI l)) {ad : Option Addr} {m cap : Nat} {r : List Im} (hl : Hid (r.length = m)) (hr : RL w ad r) (hnil : ad = none → cap = 0)
    (hs : a.eval s = .slice ra n rc) (hx : a.eval x = .slice ad m cap)
    (h63 : n + m ≤ 140737488355328) (hbytes : (n + m) * bytes ≤ 140737488355328) (hbase : base ≤ w.heap.size)
    (h : ∀ (b : Option Addr) (c : Nat) (w' : World), w'.ownsRow base e 4 (.slice b (n + m) c) (n + m) (flatI (l ++ r)) → Below base w w' → wpList P ops Q rest (a.put o.dst (.slice b (n + m) c)) w') : wpList P ops Q (o :: rest) a w := by
  cases ad with
  | none =>
    have hz : r = [] := by
      cases r with
      | nil => rfl
      | cons z r => obtain ⟨b, off, hx, _⟩ := hr.at_ 0 (by simp); cases hx
    subst hz
    have hm0 : m = 0 := by have := hl.out; simpa using this.symm
    subst hm0
    rw [hnil rfl] at hx
    refine wpList_append_own_none hgd s x t ho base e i 4 ht hi _ n (flatI l) hs hown hx ?_
    have := h ra rc w (by simpa using hown) (Below.refl _ _)
    simpa using this
  | some ad =>
    exact wpList_app4 hgd s x t ho base e i z bytes ht hi hz hsize hby hzs hown hl.out hr.cells hs hx h63 hbytes hbase (fun b c w' h1 _ h3 => h b c w' h1 h3)

set_option maxRecDepth 100000 in
set_option maxHeartbeats 2000000 in
theorem merged_any (a b : Option Addr) (n m ca cb d : Nat) (L M : List Im) (ts us : List It) (G : Nat → Prop) (w : World) (hn : Hid (L.length = n)) (hm : Hid (M.length = m)) (hR : RL w a L) (hS : RL w b M) (hL : ML G w d L ts) (hM : ML G w d M us)
    (hG : ∀ k, G k → k < w.heap.size) (hl : n ≤ 100000) (hl2 : m ≤ 100000) (hca : n ≤ ca) (hcb : m ≤ cb) (hna : a = none → ca = 0) (hnb : b = none → cb = 0) :
    Calls Tryz.prog 118 #[.slice a n ca, .slice b m cb] w fun e w' => ∃ b' c' R, e = .returned (.slice b' R.length c') ∧ R.length = n + m ∧ R.length ≤ c' ∧ (b' = none → c' = 0) ∧ RL w' b' R ∧ (∀ x, b' = some x → w.heap.size ≤ x.block) ∧ ML G w' d R (List.merge ts us leI) ∧ Below w.heap.size w w' := by
  obtain ⟨i0, hi, hz0, hz1, hz2⟩ := info_parts info_item
  obtain ⟨H, hH⟩ : ∃ H, H = n + m := ⟨_, rfl⟩
  have rH : (n : Int) + (m : Int) = (H : Int) := by omega
  have HH : Hid (H = n + m) := hH
  have hHb : H ≤ 200000 := by omega
  obtain ⟨w1, hr, own1, gr1⟩ := run_make_own (P := Tryz.prog) w w.heap.size 154 158 i0 _ 4 Tryz.underlying154 hi hz0 hz1 .i64 .i64 H (by rw [hz2]; omega) (by unfold maxLen; omega) (Nat.le_refl _)
  have B1 : Below w.heap.size w w1 := ⟨gr1.os, gr1.tape, gr1.output, gr1.size, fun i hi => gr1.block i hi (by simp)⟩
  clear hH gr1
  go_enter Tryz.func118, Tryz.ntmps118
  go_wp2_with fail
  go_loopw [0, 1, 5] (fun tl tp to wr => ∃ (p q k ca cb co : Nat) (a b o : Option Addr) (L M R : List Im) (xs ys zs : List It), tl = .slice a p ca ∧ tp = .slice b q cb ∧ to = .slice o k co ∧ Hid (L.length = p) ∧ Hid (M.length = q) ∧ Hid (R.length = k) ∧ p ≤ ca ∧ q ≤ cb ∧ p ≤ 100000 ∧ q ≤ 100000 ∧ k ≤ 200000 ∧ (a = none → ca = 0) ∧ (b = none → cb = 0) ∧ RL w a L ∧ RL w b M ∧ wr.ownsRow w.heap.size 158 4 (.slice o k co) k (flatI R) ∧ Below w.heap.size w wr ∧ Hid (ML G w d L xs ∧ ML G w d M ys ∧ ML G w d R zs ∧ zs ++ List.merge xs ys leI = List.merge ts us leI ∧ k + p + q = H)) (fun tl tp _ _ => (match tl with | .slice _ p _ => p | _ => 0) + (match tp with | .slice _ q _ => q | _ => 0))
  case atStart => exact ⟨n, m, 0, ca, cb, H, a, b, _, L, M, [], ts, us, [], rfl, rfl, rfl, hn, hm, (rfl : _ = _), hca, hcb, hl, hl2, by omega, hna, hnb, hR, hS, own1, B1, (⟨hL, hM, ML.nil _ _ _, rfl, by have := HH.out; omega⟩ : _ ∧ _)⟩
  case round =>
    obtain ⟨p, q, k, ca, cb, co, a, b, o, L, M, R, xs, ys, zs, rfl, rfl, rfl, hp, hq, hk, hpa, hqb, hp5, hq5, hk5, hna, hnb, rl, rm, OR, BR, HX⟩ := hrel
    by_cases hp0 : 0 < p
    · by_cases hq0 : 0 < q
      · have hp0i : (0 : Int) < (p : Int) := by omega
        have hq0i : (0 : Int) < (q : Int) := by omega
        obtain ⟨g1, o1, rfl, x⟩ := rl.at_ 0 (by have := hp.out; omega)
        obtain ⟨g2, o2, rfl, y⟩ := rm.at_ 0 (by have := hq.out; omega)
        have x2 := x.of_block (BR.block g1 x.lt)
        have y2 := y.of_block (BR.block g2 y.lt)
        obtain ⟨X, L', rfl⟩ : ∃ X L', L = X :: L' := by
          have := hp.out
          match L, this with
          | [], h => simp at h; omega
          | X :: L', _ => exact ⟨X, L', rfl⟩
        obtain ⟨Y, M', rfl⟩ : ∃ Y M', M = Y :: M' := by
          have := hq.out
          match M, this with
          | [], h => simp at h; omega
          | Y :: M', _ => exact ⟨Y, M', rfl⟩
        obtain ⟨s, xs', rfl⟩ : ∃ s xs', xs = s :: xs' := by
          have := HX.out.1.len
          match xs, this with
          | [], h => simp at h
          | s :: xs', _ => exact ⟨s, xs', rfl⟩
        obtain ⟨u, ys', rfl⟩ : ∃ u ys', ys = u :: ys' := by
          have := HX.out.2.1.len
          match ys, this with
          | [], h => simp at h
          | u :: ys', _ => exact ⟨u, ys', rfl⟩
        obtain ⟨mx, tx⟩ := HX.out.1.tail
        obtain ⟨my, ty⟩ := HX.out.2.1.tail
        have e1 : Hid _ := mx.wt
        have e2 : Hid _ := my.wt
        have gx : (X :: L').getD 0 im0 = X := rfl
        have gy : (Y :: M').getD 0 im0 = Y := rfl
        rw [gx] at x x2
        rw [gy] at y y2
        obtain ⟨x0, x1, x2', x3⟩ := x2
        obtain ⟨y0, y1, y2', y3⟩ := y2
        simp only [Nat.zero_mul, Nat.add_zero] at x0 x1 x2' x3 y0 y1 y2' y3
        by_cases hc : X.wt ≤ Y.wt
        · skip
          go_wp2_with fail
          go_region
          have ORd : wr.drew.ownsRow w.heap.size 158 4 (.slice o k co) k (flatI R) := OR
          have BRd : Below w.heap.size w wr.drew := BR.drew
          have x0d : wr.drew.cell? ⟨g1, o1, none⟩ = some (.int .i64 X.wt) := x0
          have x1d : wr.drew.cell? ⟨g1, o1 + 1, none⟩ = some (.int .i64 X.sy) := x1
          have x2d : wr.drew.cell? ⟨g1, o1 + 2, none⟩ = some (.pointer X.fs) := x2'
          have x3d : wr.drew.cell? ⟨g1, o1 + 3, none⟩ = some (.pointer X.sn) := x3
          clear OR BR x0 x1 x2' x3 y0 y1 y2' y3
          generalize wr.drew = w2 at *
          have hbs := BRd.size
          have hp1 : (1 : Int) ≤ (p : Int) := by omega
          have hp2 : (1 : Int) ≤ (ca : Int) := by omega
          have hpa2 : (p : Int) ≤ (ca : Int) := by omega
          go_wp2_with (at_builtin; refine wpList_app4 rfl (.tmp 29) (.tmp 33) 154 rfl w.heap.size 158 i0 _ 32 Tryz.underlying154 hi hz0 hz1 hz2 rfl (ORd.alloc _) (m := 1) (r := [X]) rfl (new_cells w2 X) rfl rfl (by omega) (by omega) (by simp; omega) ?_; intro b2 c2 w3 OR2 hg2 B2)
          have B3 : Below w.heap.size w w3 := BRd.trans (((Below.refl _ _).alloc hbs _).trans B2)
          have hlen := hp.out
          have hkl := hk.out
          have HTL : Hid (L'.length = p - 1) := by show _ = _; rw [← hlen]; simp
          have HRL : Hid (RL w (if ca = 1 then some ⟨g1, o1, none⟩ else some ⟨g1, o1 + 4, none⟩) L') := by
            split
            · refine ⟨fun j hj => ?_⟩
              have := HTL.out
              omega
            · exact rl.tail
          have HNN : Hid ((if ca = 1 then some (⟨g1, o1, none⟩ : Addr) else some ⟨g1, o1 + 4, none⟩) = none → ca - 1 = 0) := by
            intro h
            split at h <;> cases h
          have HMG : Hid ((zs ++ [s]) ++ List.merge xs' (u :: ys') leI = List.merge ts us leI) := by
            have := HX.out.2.2.2.1
            rw [List.cons_merge_cons, if_pos (show leI s u = true by have := e1.out; have := e2.out; simp [leI]; omega)] at this
            show _ = _
            rw [← this]; simp
          have HRk : Hid ((R ++ [X]).length = k + 1) := by show _ = _; rw [List.length_append, hkl]; rfl
          clear hlen hkl hg2 B2 ORd
          go_roundw
          case rel => exact ⟨p - 1, q, k + 1, ca - 1, cb, c2, _, _, b2, L', Y :: M', R ++ [X], xs', u :: ys', zs ++ [s], rfl, rfl, rfl, HTL, hq, HRk, by omega, by omega, by omega, by omega, by have := HX.out.2.2.2.2; omega, HNN.out, hnb, HRL.out, rm, OR2, B3, (⟨tx, HX.out.2.1, HX.out.2.2.1.app (ML.one mx), HMG.out, by have := HX.out.2.2.2.2; omega⟩ : _ ∧ _)⟩
          case measure => simp only; omega
        · skip
          go_wp2_with fail
          go_region
          have ORd : wr.drew.ownsRow w.heap.size 158 4 (.slice o k co) k (flatI R) := OR
          have BRd : Below w.heap.size w wr.drew := BR.drew
          have x0d : wr.drew.cell? ⟨g2, o2, none⟩ = some (.int .i64 Y.wt) := y0
          have x1d : wr.drew.cell? ⟨g2, o2 + 1, none⟩ = some (.int .i64 Y.sy) := y1
          have x2d : wr.drew.cell? ⟨g2, o2 + 2, none⟩ = some (.pointer Y.fs) := y2'
          have x3d : wr.drew.cell? ⟨g2, o2 + 3, none⟩ = some (.pointer Y.sn) := y3
          clear OR BR x0 x1 x2' x3 y0 y1 y2' y3
          generalize wr.drew = w2 at *
          have hbs := BRd.size
          have hp1 : (1 : Int) ≤ (q : Int) := by omega
          have hp2 : (1 : Int) ≤ (cb : Int) := by omega
          have hpa2 : (q : Int) ≤ (cb : Int) := by omega
          go_wp2_with (at_builtin; refine wpList_app4 rfl (.tmp 37) (.tmp 41) 154 rfl w.heap.size 158 i0 _ 32 Tryz.underlying154 hi hz0 hz1 hz2 rfl (ORd.alloc _) (m := 1) (r := [Y]) rfl (new_cells w2 Y) rfl rfl (by omega) (by omega) (by simp; omega) ?_; intro b2 c2 w3 OR2 hg2 B2)
          have B3 : Below w.heap.size w w3 := BRd.trans (((Below.refl _ _).alloc hbs _).trans B2)
          have hlen := hq.out
          have hkl := hk.out
          have HTL : Hid (M'.length = q - 1) := by show _ = _; rw [← hlen]; simp
          have HRL : Hid (RL w (if cb = 1 then some ⟨g2, o2, none⟩ else some ⟨g2, o2 + 4, none⟩) M') := by
            split
            · refine ⟨fun j hj => ?_⟩
              have := HTL.out
              omega
            · exact rm.tail
          have HNN : Hid ((if cb = 1 then some (⟨g2, o2, none⟩ : Addr) else some ⟨g2, o2 + 4, none⟩) = none → cb - 1 = 0) := by
            intro h
            split at h <;> cases h
          have HMG : Hid ((zs ++ [u]) ++ List.merge (s :: xs') ys' leI = List.merge ts us leI) := by
            have := HX.out.2.2.2.1
            rw [List.cons_merge_cons, if_neg (show ¬ leI s u = true by have := e1.out; have := e2.out; simp [leI]; omega)] at this
            show _ = _
            rw [← this]; simp
          have HRk : Hid ((R ++ [Y]).length = k + 1) := by show _ = _; rw [List.length_append, hkl]; rfl
          clear hlen hkl hg2 B2 ORd
          go_roundw
          case rel => exact ⟨p, q - 1, k + 1, ca, cb - 1, c2, _, _, b2, X :: L', M', R ++ [Y], s :: xs', ys', zs ++ [u], rfl, rfl, rfl, hp, HTL, HRk, by omega, by omega, by omega, by omega, by have := HX.out.2.2.2.2; omega, hna, HNN.out, rl, HRL.out, OR2, B3, (⟨HX.out.1, ty, HX.out.2.2.1.app (ML.one my), HMG.out, by have := HX.out.2.2.2.2; omega⟩ : _ ∧ _)⟩
          case measure => simp only; omega
      · have hq0i : ¬ (0 : Int) < (q : Int) := by omega
        have hp0i : (0 : Int) < (p : Int) := by omega
        have HFIN : Hid ((zs ++ xs) ++ ys = List.merge ts us leI) := by
          obtain ⟨h1, h2, h3, h4, h5⟩ := HX.out
          show _ = _
          rw [← h4]
          have hy : ys = [] := List.eq_nil_of_length_eq_zero (by have := h2.len; have := hq.out; omega)
          rw [hy]; simp
        have rlr := rl.old (w' := wr) ⟨BR.os, BR.tape, BR.output, BR.size, BR.block⟩
        have rmr := rm.old (w' := wr) ⟨BR.os, BR.tape, BR.output, BR.size, BR.block⟩
        have hbs := BR.size
        have hsum : k + p + q = H := HX.out.2.2.2.2
        have HSUM : Hid (k + p + q = H) := hsum
        clear hsum
        go_wp2_with (first
          | (at_builtin; refine wpList_app4o rfl (.tmp 45) (.tmp 46) 154 rfl w.heap.size 158 i0 _ 32 Tryz.underlying154 hi hz0 hz1 hz2 rfl OR hp rlr hna rfl rfl (by omega) (by omega) hbs ?_; intro b2 c2 w2 OR2 B2; have rm2 := rm.old (w' := w2) (BR.trans B2); have hbs2 := (BR.trans B2).size)
          | (at_builtin; refine wpList_app4o rfl (.tmp 48) (.tmp 49) 154 rfl w.heap.size 158 i0 _ 32 Tryz.underlying154 hi hz0 hz1 hz2 rfl OR2 hq rm2 hnb rfl rfl (by omega) (by omega) hbs2 ?_; intro b3 c3 w3 OR3 B3))
        go_ret
        have BF : Below w.heap.size w w3 := BR.trans (B2.trans B3)
        have hlen : (R ++ L ++ M).length = k + p + q := by rw [List.length_append, List.length_append, hk.out, hp.out, hq.out]
        have hml := ((HX.out.2.2.1.app HX.out.1).app HX.out.2.1).keep (w' := w3) (fun b hb => BF.block b (hG b hb))
        rw [HFIN.out] at hml
        have hcap : k + p + q ≤ c3 ∧ (b3 = none → c3 = 0) ∧ ∀ x, b3 = some x → w.heap.size ≤ x.block := by
          rcases OR3.2 with ⟨h1, h2⟩ | ⟨g, cp, cur, h1, h2, h3, h4, _⟩
          · simp only [Value.slice.injEq] at h1
            obtain ⟨rfl, _, rfl⟩ := h1
            exact ⟨by omega, (fun _ => rfl), (fun x h => by cases h)⟩
          · simp only [Value.slice.injEq] at h1
            obtain ⟨rfl, _, rfl⟩ := h1
            exact ⟨h4, (fun h => by cases h), (fun x h => by cases h; exact h2)⟩
        refine ⟨b3, c3, R ++ L ++ M, by rw [hlen]; rfl, by rw [hlen, HSUM.out]; exact HH.out, by rw [hlen]; exact hcap.1, hcap.2.1, own_RL OR3 hlen, hcap.2.2, hml, BF⟩
    · have hp0i : ¬ (0 : Int) < (p : Int) := by omega
      have HFIN : Hid ((zs ++ xs) ++ ys = List.merge ts us leI) := by
        obtain ⟨h1, h2, h3, h4, h5⟩ := HX.out
        show _ = _
        rw [← h4]
        have hy : xs = [] := List.eq_nil_of_length_eq_zero (by have := h1.len; have := hp.out; omega)
        rw [hy]; simp
      have rlr := rl.old (w' := wr) ⟨BR.os, BR.tape, BR.output, BR.size, BR.block⟩
      have rmr := rm.old (w' := wr) ⟨BR.os, BR.tape, BR.output, BR.size, BR.block⟩
      have hbs := BR.size
      have hsum : k + p + q = H := HX.out.2.2.2.2
      have HSUM : Hid (k + p + q = H) := hsum
      clear hsum
      go_wp2_with (first
        | (at_builtin; refine wpList_app4o rfl (.tmp 45) (.tmp 46) 154 rfl w.heap.size 158 i0 _ 32 Tryz.underlying154 hi hz0 hz1 hz2 rfl OR hp rlr hna rfl rfl (by omega) (by omega) hbs ?_; intro b2 c2 w2 OR2 B2; have rm2 := rm.old (w' := w2) (BR.trans B2); have hbs2 := (BR.trans B2).size)
        | (at_builtin; refine wpList_app4o rfl (.tmp 48) (.tmp 49) 154 rfl w.heap.size 158 i0 _ 32 Tryz.underlying154 hi hz0 hz1 hz2 rfl OR2 hq rm2 hnb rfl rfl (by omega) (by omega) hbs2 ?_; intro b3 c3 w3 OR3 B3))
      go_ret
      have BF : Below w.heap.size w w3 := BR.trans (B2.trans B3)
      have hlen : (R ++ L ++ M).length = k + p + q := by rw [List.length_append, List.length_append, hk.out, hp.out, hq.out]
      have hml := ((HX.out.2.2.1.app HX.out.1).app HX.out.2.1).keep (w' := w3) (fun b hb => BF.block b (hG b hb))
      rw [HFIN.out] at hml
      have hcap : k + p + q ≤ c3 ∧ (b3 = none → c3 = 0) ∧ ∀ x, b3 = some x → w.heap.size ≤ x.block := by
        rcases OR3.2 with ⟨h1, h2⟩ | ⟨g, cp, cur, h1, h2, h3, h4, _⟩
        · simp only [Value.slice.injEq] at h1
          obtain ⟨rfl, _, rfl⟩ := h1
          exact ⟨by omega, (fun _ => rfl), (fun x h => by cases h)⟩
        · simp only [Value.slice.injEq] at h1
          obtain ⟨rfl, _, rfl⟩ := h1
          exact ⟨h4, (fun h => by cases h), (fun x h => by cases h; exact h2)⟩
      refine ⟨b3, c3, R ++ L ++ M, by rw [hlen]; rfl, by rw [hlen, HSUM.out]; exact HH.out, by rw [hlen]; exact hcap.1, hcap.2.1, own_RL OR3 hlen, hcap.2.2, hml, BF⟩
end Go.Proofs.YtcifalelnfeggaaGreatDoor

namespace Go.Proofs.YtcifalelnfeggaaGreatDoor
open Go.RowKit
set_option linter.unusedVariables false

theorem pk_le (M : Nat) : ∀ l : List It, (∀ t ∈ l, t.1 ≤ M) → ∀ t ∈ pk l, t.1 ≤ 2 * M
  | [], _ => by simp [pk]
  | [_], _ => by simp [pk]
  | a :: b :: r, h => by
    intro t ht
    simp only [pk, List.mem_cons] at ht
    rcases ht with rfl | ht
    · have := h a (by simp)
      have := h b (by simp)
      simp only
      omega
    · exact pk_le M r (fun x hx => h x (by simp [hx])) t ht
theorem row_le (F : List It) (M : Nat) (h : ∀ t ∈ F, t.1 ≤ M) : ∀ k, ∀ t ∈ row F k, t.1 ≤ M * 2 ^ k
  | 0, t, ht => by simpa using h t ht
  | k + 1, t, ht => by
    have ih := pk_le (M * 2 ^ k) (row F k) (row_le F M h k)
    simp only [row] at ht
    rcases List.mem_append.1 ((List.merge_perm_append _).mem_iff.1 ht) with ht | ht
    · have := h t ht
      exact Nat.le_trans this (Nat.le_mul_of_pos_right _ (Nat.two_pow_pos _))
    · have := ih t ht
      rw [Nat.pow_succ]
      have e : M * (2 ^ k * 2) = 2 * (M * 2 ^ k) := by rw [Nat.mul_comm (2 ^ k) 2, Nat.mul_left_comm]
      rw [e]; exact this
theorem row_len_le (F : List It) : ∀ k, (row F k).length ≤ 2 * F.length
  | 0 => by simp [row]; omega
  | k + 1 => by have := row_len_le F k; rw [row_len]; omega
def Gq (o : Nat) (W : World) : Nat → Prop := fun k => k ≠ o ∧ k < W.heap.size
theorem pow14 : ∀ j : Fin 15, 2 ^ j.val ≤ 16384 := by decide

set_option maxRecDepth 100000 in
set_option maxHeartbeats 600000 in
theorem lastRow_any (a : Option Addr) (n ca lim o : Nat) (L : List Im) (F : List It) (w : World) (hn : Hid (L.length = n)) (hR : RL w a L) (hL : ML (Gq o w) w 0 L F) (hao : ∀ x, a = some x → x.block ≠ o) (ho : o < w.heap.size)
    (hF : ∀ t ∈ F, t.1 ≤ 1099511627776) (hl : n ≤ 288) (hca : n ≤ ca) (hna : a = none → ca = 0) (h1 : 1 ≤ lim) (h15 : lim ≤ 15) :
    Calls Tryz.prog 95 #[.slice a n ca, .int .i64 lim] w fun e w' => ∃ b c R, e = .returned (.slice b R.length c) ∧ R.length ≤ c ∧ RL w' b R ∧ (∀ x, b = some x → x.block ≠ o) ∧ ML (Gq o w') w' (lim - 1) R (row F (lim - 1)) ∧ Below w.heap.size w w' := by
  obtain ⟨J, hJ⟩ : ∃ J, lim = J + 1 := ⟨lim - 1, by omega⟩
  have rJ : (lim : Int) - 1 = (J : Int) := by omega
  have HJ : Hid (lim = J + 1) := hJ
  have hJ14 : J ≤ 14 := by omega
  clear hJ
  have hFl := hL.len
  have HFl : Hid (F.length = n) := by have := hn.out; show _ = _; omega
  have HRL : Hid (∀ j, (row F j).length ≤ 576) := fun j => by have := row_len_le F j; have := HFl.out; omega
  have HRB : Hid (∀ j, j ≤ 14 → ∀ t ∈ row F j, t.1 ≤ 1152921504606846976) := fun j hj t ht => by
    have h2 := row_le F 1099511627776 hF j t ht
    have h3 := pow14 ⟨j, by omega⟩
    simp only at h3
    exact Nat.le_trans h2 (Nat.le_trans (Nat.mul_le_mul_left _ h3) (by decide))
  clear hFl
  go_enter Tryz.func95, Tryz.ntmps95
  go_wp2_with fail
  go_loopw [5, 9] (fun tr ti wr => ∃ (j m c : Nat) (b : Option Addr) (R : List Im), j ≤ J ∧ ti = .int .i64 (j : Int) ∧ tr = .slice b m c ∧ Hid (R.length = m) ∧ m ≤ c ∧ RL wr b R ∧ Below w.heap.size w wr ∧ Hid ((∀ x, b = some x → x.block ≠ o) ∧ ML (Gq o wr) wr j R (row F j))) (fun _ ti _ => J - (intOf ti).toNat)
  case atStart => exact ⟨0, n, ca, a, L, Nat.zero_le _, rfl, rfl, hn, hca, hR, Below.refl _ _, (⟨hao, hL⟩ : _ ∧ _)⟩
  case round =>
    obtain ⟨j, m, c, b, R, hj, rfl, rfl, hm, hmc, rr, BR, HX⟩ := hrel
    by_cases hjJ : j < J
    · have hjJi : (j : Int) < (J : Int) := by omega
      have hm576 : m ≤ 576 := by have := HX.out.2.len; have := hm.out; have := HRL.out j; omega
      have CP := packed_any b m c j R (row F j) (Gq o wr) wr hm rr HX.out.2 (fun k hk => hk.2) (HRB.out j (by omega)) (by omega)
      go_wp2_with fail
      refine CP.mono ?_
      rintro e w2 ⟨b2, c2, P, rfl, hPl, ⟨hPc, hPn⟩, rp, mp, B2⟩
      have Bw2 : Below w.heap.size w w2 := BR.trans (B2.mono BR.size)
      have ho2 : o < w2.heap.size := Nat.lt_of_lt_of_le ho Bw2.size
      have rl2 := hR.old Bw2
      have ml2 : ML (Gq o w2) w2 (j + 1) L F := by
        refine ⟨hL.len, fun k hk => ?_⟩
        have := hL.mn k hk
        exact Mn.leaf this _
      have mp2 : ML (Gq o w2) w2 (j + 1) P (pk (row F j)) := by
        by_cases hR0 : 0 < R.length
        · refine mp.mono (fun k hk => ?_)
          rcases hk with ⟨h2, h3⟩ | ⟨off, e⟩
          · exact ⟨h2, Nat.lt_of_lt_of_le h3 B2.size⟩
          · refine ⟨HX.out.1 _ e, ?_⟩
            obtain ⟨b', off', e2, it⟩ := rr.at_ 0 hR0
            rw [e] at e2
            cases e2
            exact Nat.lt_of_lt_of_le it.lt B2.size
        · refine ⟨mp.len, fun k hk => ?_⟩
          have := hm.out
          omega
      obtain ⟨pl, hpl⟩ : ∃ pl, P.length = pl := ⟨_, rfl⟩
      have HPL : Hid (P.length = pl) := hpl
      rw [hpl] at hPc hPl ⊢
      have hpl2 : pl ≤ 576 := by omega
      clear hPl hpl
      have CM := merged_any a b2 n pl ca c2 (j + 1) L P F (pk (row F j)) (Gq o w2) w2 hn HPL rl2 rp ml2 mp2 (fun k hk => hk.2) (by omega) (by omega) hca hPc hna hPn
      clear CP
      go_wp2_with fail
      refine CM.mono ?_
      rintro e w3 ⟨b3, c3, R3, rfl, hR3, hRc3, hRn3, rr3, hb3, m3, B3⟩
      have HX3 : Hid ((∀ x, b3 = some x → x.block ≠ o) ∧ ML (Gq o w3) w3 (j + 1) R3 (row F (j + 1))) := ⟨fun x hx => by have := hb3 x hx; omega, m3.mono (fun k hk => ⟨hk.1, Nat.lt_of_lt_of_le hk.2 B3.size⟩)⟩
      clear CM hR3
      go_wp2
      go_roundw
      case rel => exact ⟨j + 1, R3.length, c3, b3, R3, by omega, by go_num, rfl, (rfl : _ = _), hRc3, rr3, Bw2.trans (B3.mono Bw2.size), HX3.out⟩
      case measure => simp [intOf]; omega
    · obtain rfl : j = J := by omega
      go_wp2
      go_ret
      have e := hm.out
      have ej := HJ.out
      have ej2 : lim - 1 = j := by omega
      rw [ej2]
      exact ⟨b, c, R, by rw [e]; rfl, by rw [e]; exact hmc, rr, HX.out.1, HX.out.2, BR⟩
end Go.Proofs.YtcifalelnfeggaaGreatDoor

namespace Go.Proofs.YtcifalelnfeggaaGreatDoor
set_option linter.unusedVariables false

/-! A row of numbers of which two change places; heaps. -/
def swp (zs : List Int) (i j : Nat) : List Int := (zs.set i (zs.getD j 0)).set j (zs.getD i 0)
theorem swp_len (zs : List Int) (i j : Nat) : (swp zs i j).length = zs.length := by simp [swp]
theorem swp_getD (zs : List Int) (i j k : Nat) (hi : i < zs.length) (hj : j < zs.length) : (swp zs i j).getD k 0 = if k = j then zs.getD i 0 else if k = i then zs.getD j 0 else zs.getD k 0 := by
  unfold swp
  simp only [List.getD, List.getElem?_set, List.length_set]
  by_cases h1 : j = k
  · subst h1; simp [hj]
  · have h1' : ¬ k = j := fun e => h1 e.symm
    by_cases h2 : i = k
    · subst h2; simp [h1, h1', hi]
    · have h2' : ¬ k = i := fun e => h2 e.symm
      simp [h1, h1', h2, h2']
theorem set_perm : ∀ (zs : List Int) (i : Nat) (x : Int), i < zs.length → (zs.getD i 0 :: zs.set i x).Perm (x :: zs)
  | [], _, _, h => by simp at h
  | z :: r, 0, x, _ => by simpa using List.Perm.swap x z r
  | z :: r, i + 1, x, h => by
    have := set_perm r i x (by simpa using h)
    simp only [List.getD_cons_succ, List.set_cons_succ]
    exact (List.Perm.swap z (r.getD i 0) (r.set i x)).trans ((this.cons z).trans (List.Perm.swap x z r))
theorem swp_perm (zs : List Int) (i j : Nat) (hi : i < zs.length) (hj : j < zs.length) : (swp zs i j).Perm zs := by
  unfold swp
  have h1 := set_perm zs i (zs.getD j 0) hi
  have h2 := set_perm (zs.set i (zs.getD j 0)) j (zs.getD i 0) (by simpa using hj)
  have h3 : (zs.set i (zs.getD j 0)).getD j 0 = zs.getD j 0 := by
    simp only [List.getD, List.getElem?_set]
    by_cases e : i = j
    · subst e; simp [hi]
    · simp [e]
  rw [h3] at h2
  exact (List.Perm.cons_inv (h2.trans h1))

def kid (q c : Nat) : Prop := c = 2 * q + 1 ∨ c = 2 * q + 2
/-- From lo on, no parent is greater than its children. -/
def hp (z : Nat → Int) (n lo : Nat) : Prop := ∀ q c, lo ≤ q → kid q c → c < n → z q ≤ z c
/-- .. but for the parent i, whose own parent is not greater than i's children. -/
def dn (z : Nat → Int) (n lo i : Nat) : Prop := (∀ q c, lo ≤ q → q ≠ i → kid q c → c < n → z q ≤ z c) ∧ ∀ q c, lo ≤ q → kid q i → kid i c → c < n → z q ≤ z c
theorem dn_start {z : Nat → Int} {n i : Nat} (h : hp z n (i + 1)) : dn z n i i :=
  ⟨fun q c hq hne hk hc => h q c (by omega) hk hc, fun q c hq hk => by unfold kid at hk; omega⟩
theorem dn_leaf {z : Nat → Int} {n lo i : Nat} (h : dn z n lo i) (hn : n ≤ 2 * i + 1) : hp z n lo := by
  intro q c hq hk hc
  by_cases e : q = i
  · subst e; unfold kid at hk; omega
  · exact h.1 q c hq e hk hc
theorem dn_stop {z : Nat → Int} {n lo i j : Nat} (h : dn z n lo i) (hj : ∀ c, kid i c → c < n → z j ≤ z c) (hs : ¬ z j < z i) : hp z n lo := by
  intro q c hq hk hc
  by_cases e : q = i
  · subst e; have := hj c hk hc; omega
  · exact h.1 q c hq e hk hc
theorem dn_step {z z' : Nat → Int} {n lo i j : Nat} (h : dn z n lo i) (hlo : lo ≤ i) (hk : kid i j) (hjn : j < n) (hj : ∀ c, kid i c → c < n → z j ≤ z c) (hs : z j < z i)
    (hz : ∀ k, z' k = if k = j then z i else if k = i then z j else z k) : dn z' n lo j := by
  have hij : i < j := by unfold kid at hk; omega
  constructor
  · intro q c hq hne hqc hc
    have hqlt : q < c := by unfold kid at hqc; omega
    rw [hz q, hz c, if_neg hne]
    by_cases e : q = i
    · subst e
      rw [if_pos rfl]
      by_cases e2 : c = j
      · rw [if_pos e2]; omega
      · rw [if_neg e2, if_neg (by omega)]; exact hj c hqc hc
    · rw [if_neg e]
      have e2 : c ≠ j := by
        rintro rfl
        unfold kid at hk hqc
        omega
      rw [if_neg e2]
      by_cases e3 : c = i
      · rw [if_pos e3]; subst e3; exact h.2 q j hq hqc hk hjn
      · rw [if_neg e3]; exact h.1 q c hq e hqc hc
  · intro q c hq hqj hjc hc
    have e : q = i := by unfold kid at hk hqj; omega
    subst e
    have hjc' : j < c := by unfold kid at hjc; omega
    rw [hz q, hz c, if_neg (by omega), if_pos rfl, if_neg (by omega), if_neg (by omega)]
    exact h.1 j c (by omega) (by omega) hjc hc
theorem hp_root {z : Nat → Int} {n : Nat} (h : hp z n 0) : ∀ i, i < n → z 0 ≤ z i := by
  intro i
  induction i using Nat.strongRecOn with
  | ind i ih =>
    intro hi
    by_cases e : i = 0
    · subst e; exact Int.le_refl _
    · have h1 := ih ((i - 1) / 2) (by omega) (by omega)
      have h2 := h ((i - 1) / 2) i (Nat.zero_le _) (by unfold kid; omega) hi
      omega
/-- All is well but for j against its parent. -/
def upI (z : Nat → Int) (n j : Nat) : Prop := (∀ q c, kid q c → c < n → c ≠ j → z q ≤ z c) ∧ ∀ q c, kid q j → kid j c → c < n → z q ≤ z c
theorem up_root {z : Nat → Int} {n : Nat} (h : upI z n 0) : hp z n 0 := by
  intro q c _ hk hc
  exact h.1 q c hk hc (by unfold kid at hk; omega)
theorem up_stop {z : Nat → Int} {n i j : Nat} (h : upI z n j) (hij : kid i j) (hs : ¬ z j < z i) : hp z n 0 := by
  intro q c _ hk hc
  by_cases e : c = j
  · subst e
    have : q = i := by unfold kid at hij hk; omega
    subst this
    omega
  · exact h.1 q c hk hc e
theorem up_step {z z' : Nat → Int} {n i j : Nat} (h : upI z n j) (hij : kid i j) (hjn : j < n) (hs : z j < z i) (hz : ∀ k, z' k = if k = j then z i else if k = i then z j else z k) : upI z' n i := by
  have hlt : i < j := by unfold kid at hij; omega
  constructor
  · intro q c hqc hc hne
    have hq : q < c := by unfold kid at hqc; omega
    rw [hz q, hz c]
    by_cases e : c = j
    · subst e
      have : q = i := by unfold kid at hij hqc; omega
      subst this
      rw [if_neg (by omega), if_pos rfl, if_pos rfl]; omega
    · rw [if_neg e, if_neg hne]
      by_cases e2 : q = j
      · subst e2; rw [if_pos rfl]; exact h.2 i c hij hqc hc
      · rw [if_neg e2]
        by_cases e3 : q = i
        · subst e3; rw [if_pos rfl]; have := h.1 q c hqc hc e; omega
        · rw [if_neg e3]; exact h.1 q c hqc hc e
  · intro q c hqi hic hc
    have hq : q < i := by unfold kid at hqi; omega
    have hcl : i < c := by unfold kid at hic; omega
    rw [hz q, hz c, if_neg (by omega), if_neg (by omega)]
    have h1 := h.1 q i hqi (by omega) (by omega)
    by_cases e : c = j
    · rw [if_pos e]; exact h1
    · rw [if_neg e, if_neg (by omega)]
      have := h.1 i c hic hc e
      omega
/-- One more at the end: all is well but for it. -/
theorem up_start {z z' : Nat → Int} {n : Nat} (h : hp z n 0) (hz : ∀ k, k < n → z' k = z k) : upI z' (n + 1) n := by
  constructor
  · intro q c hk hc hne
    have : q < c := by unfold kid at hk; omega
    rw [hz q (by omega), hz c (by omega)]
    exact h q c (Nat.zero_le _) hk (by omega)
  · intro q c hq hk hc
    unfold kid at hk; omega
theorem hp_cut {z z' : Nat → Int} {n m lo : Nat} (h : hp z n lo) (hm : m ≤ n) (hz : ∀ k, lo ≤ k → k < m → z' k = z k) : hp z' m lo := by
  intro q c hq hk hc
  have : q < c := by unfold kid at hk; omega
  rw [hz q hq (by omega), hz c (by omega) hc]
  exact h q c hq hk (by omega)
end Go.Proofs.YtcifalelnfeggaaGreatDoor

namespace Go.Proofs.YtcifalelnfeggaaGreatDoor
open Go.RowKit
set_option linter.unusedVariables false

def bump (A : List Int) (s : Nat) : List Int := A.set s (A.getD s 0 + 1)
def bumps (A : List Int) (l : List Nat) : List Int := l.foldl bump A
theorem bump_len (A : List Int) (s : Nat) : (bump A s).length = A.length := by simp [bump]
theorem bumps_len : ∀ (l : List Nat) (A : List Int), (bumps A l).length = A.length
  | [], A => rfl
  | s :: l, A => by show (bumps (bump A s) l).length = _; rw [bumps_len l, bump_len]
theorem bumps_app (A : List Int) (l r : List Nat) : bumps A (l ++ r) = bumps (bumps A l) r := List.foldl_append ..
theorem bump_get (A : List Int) (s i : Nat) (h : s < A.length) : (bump A s).getD i 0 = A.getD i 0 + (if i = s then 1 else 0) := by
  unfold bump
  simp only [List.getD, List.getElem?_set]
  by_cases e : s = i
  · subst e; simp [h]
  · have e' : ¬ i = s := fun h => e h.symm
    simp [e, e']
theorem bumps_get : ∀ (l : List Nat) (A : List Int) (i : Nat), (∀ s ∈ l, s < A.length) → (bumps A l).getD i 0 = A.getD i 0 + (l.count i : Int)
  | [], A, i, _ => by simp [bumps]
  | s :: l, A, i, h => by
    have h1 := bumps_get l (bump A s) i (fun x hx => by rw [bump_len]; exact h x (by simp [hx]))
    show (bumps (bump A s) l).getD i 0 = _
    rw [h1, bump_get A s i (h s (by simp)), List.count_cons]
    by_cases e : i = s
    · subst e; simp; omega
    · have e' : (s == i) = false := by simp; exact fun h => e h.symm
      simp [e, e']
/-- The two boxes of the count, and the lengths. -/
structure Tb (w : World) (pl pc o N B : Nat) (A : List Int) : Prop where
  cl : w.heap[pl]? = some (.cells #[.slice (some ⟨o, 0, none⟩) N N] 39 (0, 0))
  cc : w.heap[pc]? = some (.cells #[.func (.func 117) #[] #[.pointer (some ⟨pl, 0, none⟩), .pointer (some ⟨pc, 0, none⟩)]] 193 (0, 0))
  own : w.ownsRow B 3 1 (.slice (some ⟨o, 0, none⟩) N N) N (A.map (Value.int .i64))
  ne1 : pl ≠ o
  ne2 : pc ≠ o
theorem Tb.set {w w' : World} {pl pc o N B : Nat} {A A' : List Int} (h : Tb w pl pc o N B A) (hg : w.grownBy w' (some o)) (ho : w'.ownsRow B 3 1 (.slice (some ⟨o, 0, none⟩) N N) N (A'.map (Value.int .i64))) : Tb w' pl pc o N B A' :=
  ⟨by rw [hg.block pl (Array.getElem?_eq_some_iff.1 h.cl).1 (by intro e; simp at e; exact h.ne1 e)]; exact h.cl, by rw [hg.block pc (Array.getElem?_eq_some_iff.1 h.cc).1 (by intro e; simp at e; exact h.ne2 e)]; exact h.cc, ho, h.ne1, h.ne2⟩

set_option maxRecDepth 100000 in
set_option maxHeartbeats 2000000 in
theorem count_any (pl pc o N B M0 : Nat) (G : Nat → Prop) (hGo : ∀ k, G k → k ≠ o ∧ k < M0) (hN : N ≤ 100000) : ∀ (d b off : Nat) (x : Im) (t : It) (A : List Int) (w : World), M0 ≤ w.heap.size → Mn G w d x t → ItAt w b off x → b ≠ o → Tb w pl pc o N B A → A.length = N → (∀ s ∈ t.2, s < N) → (∀ i, 0 ≤ A.getD i 0 ∧ A.getD i 0 + t.2.length ≤ 4611686018427387904) →
    Calls Tryz.prog 117 #[.pointer (some ⟨b, off, none⟩), .pointer (some ⟨pl, 0, none⟩), .pointer (some ⟨pc, 0, none⟩)] w fun e w' => e = .returned (.tuple #[]) ∧ Tb w' pl pc o N B (bumps A t.2) ∧ w.grownBy w' (some o) := by
  have leafCase : ∀ (b off : Nat) (x : Im) (t : It) (A : List Int) (w : World), isLeaf x t → ItAt w b off x → Tb w pl pc o N B A → A.length = N → (∀ s ∈ t.2, s < N) → (∀ i, 0 ≤ A.getD i 0 ∧ A.getD i 0 + t.2.length ≤ 4611686018427387904) →
      Calls Tryz.prog 117 #[.pointer (some ⟨b, off, none⟩), .pointer (some ⟨pl, 0, none⟩), .pointer (some ⟨pc, 0, none⟩)] w fun e w' => e = .returned (.tuple #[]) ∧ Tb w' pl pc o N B (bumps A t.2) ∧ w.grownBy w' (some o) := by
    rintro b off ⟨xw, xs, xf, xn⟩ t A w ⟨h1, h2, h3, h4, rfl⟩ hx hT hA hs hb
    simp only at h1 h2 h3 h4
    subst h1 h2
    obtain ⟨c0, c1, c2, c3⟩ := hx
    simp only at c0 c1 c2 c3 hs hb
    obtain ⟨s, rfl⟩ : ∃ s : Nat, xs = (s : Int) := ⟨xs.toNat, by omega⟩
    simp only [Int.toNat_natCast, List.mem_singleton, List.length_singleton, forall_eq] at hs hb
    have hl := hT.cl
    have l0 : w.cell? ⟨pl, 0, none⟩ = some (.slice (some ⟨o, 0, none⟩) N N) := by simp [World.cell?, hl]
    obtain ⟨a0, fz⟩ := own_cell1 hT.own (i := s) (by omega)
    have f0 := fz s
    have hb0 := hb s
    have HB : Hid (bumps A [s] = A.set s (A.getD s 0 + 1)) := by show _ = _; rfl
    have HST := hT.own.stored s (.int .i64 (A.getD s 0 + 1))
    rw [← List.map_set, ← HB.out] at HST
    have HTT : Hid _ := HST
    clear HST
    generalize A.getD s 0 = z at *
    have zi : (s : Int) < (N : Int) := by omega
    go_enter Tryz.func117, Tryz.ntmps117
    go_wp2_with fail
    go_region
    go_wp2
    refine bodyPost_ret (results_none rfl _ _ _) rfl ?_
    obtain ⟨o2, g2⟩ := HTT.out
    exact ⟨rfl, hT.set (grownBy_drew g2) o2, grownBy_drew g2⟩
  intro d
  induction d with
  | zero =>
    intro b off x t A w hw hm hx hbo hT hA hs hb
    exact leafCase b off x t A w hm hx hT hA hs hb
  | succ d ih =>
    intro b off x t A w hw hm hx hbo hT hA hs hb
    rcases hm with hm | ⟨b1, o1, b2, o2, y, z, s, u, h1, h2, h3, h4, h5, h6, h7, h8, h9, rfl⟩
    · exact leafCase b off x t A w hm hx hT hA hs hb
    · obtain ⟨xw, xs, xf, xn⟩ := x
      simp only at h1 h2 h9
      subst h1 h2
      have hGb := (hGo b1 h3).1
      have hGb2 := (hGo b2 h4).1
      simp only [List.mem_append, List.length_append] at hs hb
      have IH1 : Hid (∀ W, Below w.heap.size w W → Calls Tryz.prog 117 #[.pointer (some ⟨b1, o1, none⟩), .pointer (some ⟨pl, 0, none⟩), .pointer (some ⟨pc, 0, none⟩)] W fun e w' => e = .returned (.tuple #[]) ∧ Tb w' pl pc o N B (bumps A s.2) ∧ w.grownBy w' (some o)) := fun W hW => by
        have hg : w.grownBy W (some o) := ⟨hW.os, hW.tape, hW.output, hW.size, fun i hi _ => hW.block i hi⟩
        have hh : ∀ k, G k → W.heap[k]? = w.heap[k]? := fun k hk => hW.block k (Nat.lt_of_lt_of_le (hGo k hk).2 hw)
        refine (ih b1 o1 y s A W (Nat.le_trans hw hW.size) (Mn.keep hh d y s h7) (h5.of_block (hW.block b1 h5.lt)) hGb (hT.set hg (own_below hT.own hW)) hA (fun q hq => hs q (.inl hq)) (fun i => by have := hb i; omega)).mono ?_
        rintro e w' ⟨r1, r2, r3⟩
        exact ⟨r1, r2, grownBy_trans hg r3⟩
      have IH2 : Hid (∀ w2 W, w.grownBy w2 (some o) → Tb w2 pl pc o N B (bumps A s.2) → Below w2.heap.size w2 W → Calls Tryz.prog 117 #[.pointer (some ⟨b2, o2, none⟩), .pointer (some ⟨pl, 0, none⟩), .pointer (some ⟨pc, 0, none⟩)] W fun e w' => e = .returned (.tuple #[]) ∧ Tb w' pl pc o N B (bumps A (s.2 ++ u.2)) ∧ w2.grownBy w' (some o)) := fun w2 W hg1 hT2 hW => by
        have hg : w2.grownBy W (some o) := ⟨hW.os, hW.tape, hW.output, hW.size, fun i hi _ => hW.block i hi⟩
        have hgg := grownBy_trans hg1 hg
        have hh : ∀ k, G k → W.heap[k]? = w.heap[k]? := fun k hk => hgg.block k (Nat.lt_of_lt_of_le (hGo k hk).2 hw) (by intro e; simp at e; exact (hGo k hk).1 e)
        refine (ih b2 o2 z u (bumps A s.2) W (Nat.le_trans hw hgg.size) (Mn.keep hh d z u h8) (h6.of_block (hh b2 h4)) hGb2 (hT2.set hg (own_below hT2.own hW)) (by rw [bumps_len]; exact hA) (fun q hq => hs q (.inr hq)) (fun i => ?_)).mono ?_
        · rw [bumps_get s.2 A i (fun q hq => by rw [hA]; exact hs q (.inl hq))]
          have h10 := hb i
          have h11 : s.2.count i ≤ s.2.length := List.count_le_length
          omega
        rintro e w' ⟨r1, r2, r3⟩
        exact ⟨r1, by rw [bumps_app]; exact r2, grownBy_trans hg r3⟩
      obtain ⟨c0, c1, c2, c3⟩ := hx
      simp only at c0 c1 c2 c3
      have pcc : w.cell? ⟨pc, 0, none⟩ = some (.func (.func 117) #[] #[.pointer (some ⟨pl, 0, none⟩), .pointer (some ⟨pc, 0, none⟩)]) := by simp [World.cell?, hT.cc]
      have HX3 : Hid (ItAt w b off ⟨xw, xs, some ⟨b1, o1, none⟩, some ⟨b2, o2, none⟩⟩) := ⟨c0, c1, c2, c3⟩
      have d0 : Below w.heap.size w w := Below.refl _ _
      have d1 : Below w.heap.size w w.drew := (Below.refl _ _).drew
      have HK : Hid (∀ W, w.grownBy W (some o) → (W.cell? ⟨pc, 0, none⟩ = some (.func (.func 117) #[] #[.pointer (some ⟨pl, 0, none⟩), .pointer (some ⟨pc, 0, none⟩)]) ∧ W.cell? ⟨b, off + 2, none⟩ = some (.pointer (some ⟨b1, o1, none⟩))) ∧ W.cell? ⟨b, off + 3, none⟩ = some (.pointer (some ⟨b2, o2, none⟩))) := fun W hW => by
        have e1 := hW.block pc (Array.getElem?_eq_some_iff.1 hT.cc).1 (by intro e; simp at e; exact hT.ne2 e)
        have e2 := HX3.out.of_block (hW.block b HX3.out.lt (by intro e; simp at e; exact hbo e))
        exact ⟨⟨(World.cell?_of_block (a := ⟨pc, 0, none⟩) e1).trans pcc, e2.c2⟩, e2.c3⟩
      clear ih leafCase h5 h6 h7 h8 h9 hs hb hA hT
      go_enter Tryz.func117, Tryz.ntmps117
      go_wp2_with fail
      go_region_held3 (fun w' => w'.cell? ⟨pc, 0, none⟩ = some (.func (.func 117) #[] #[.pointer (some ⟨pl, 0, none⟩), .pointer (some ⟨pc, 0, none⟩)]) ∧ w'.cell? ⟨b, off + 2, none⟩ = some (.pointer (some ⟨b1, o1, none⟩)))
        (first | go_keep | (exact (HK.out _ (by assumption)).1))
        (first | (go_at_call 117; refine (IH1.out _ (by assumption)).mono ?_; rintro e w2 ⟨rfl, T2, g2⟩))
      have k2 := HK.out _ g2
      have q1 := k2.1.1
      have q2 := k2.2
      have HK2 : Hid (∀ W, w2.grownBy W (some o) → W.cell? ⟨pc, 0, none⟩ = some (.func (.func 117) #[] #[.pointer (some ⟨pl, 0, none⟩), .pointer (some ⟨pc, 0, none⟩)]) ∧ W.cell? ⟨b, off + 3, none⟩ = some (.pointer (some ⟨b2, o2, none⟩))) := fun W hW => by
        have := HK.out W (grownBy_trans g2 hW)
        exact ⟨this.1.1, this.2⟩
      have IH3 : Hid _ := fun W (hW : Below w2.heap.size w2 W) => IH2.out w2 W g2 T2 hW
      have e0 : Below w2.heap.size w2 w2 := Below.refl _ _
      have e1 : Below w2.heap.size w2 w2.drew := (Below.refl _ _).drew
      clear IH1 IH2 HK k2 c0 c1 c2 c3 pcc d0 d1
      go_wp2_with fail
      go_region_held3 (fun w' => w'.cell? ⟨pc, 0, none⟩ = some (.func (.func 117) #[] #[.pointer (some ⟨pl, 0, none⟩), .pointer (some ⟨pc, 0, none⟩)]) ∧ w'.cell? ⟨b, off + 3, none⟩ = some (.pointer (some ⟨b2, o2, none⟩)))
        (first | go_keep | (exact HK2.out _ (by assumption)))
        (first | (go_at_call 117; refine (IH3.out _ (by assumption)).mono ?_; rintro e w3 ⟨rfl, T3, g3⟩))
      go_wp2
      go_end0
      exact ⟨rfl, T3, grownBy_trans g2 g3⟩
end Go.Proofs.YtcifalelnfeggaaGreatDoor

namespace Go.Proofs.YtcifalelnfeggaaGreatDoor
open Go.RowKit
set_option linter.unusedVariables false

def syms (ts : List It) (k : Nat) : List Nat := (ts.take k).flatMap (·.2)
theorem syms_snoc (ts : List It) (k : Nat) (h : k < ts.length) : syms ts (k + 1) = syms ts k ++ (ts.getD k it0).2 := by
  unfold syms
  rw [List.take_add_one, List.flatMap_append, List.getElem?_eq_getElem h]
  simp [List.getD, h]

set_option maxRecDepth 100000 in
set_option maxHeartbeats 2000000 in
theorem tally_any (o N B : Nat) (b : Option Addr) (m c d : Nat) (A : List Int) (R : List Im) (ts : List It) (w : World) (hm : Hid (R.length = m)) (hR : RL w b R) (hM : ML (Gq o w) w d R ts) (hb : ∀ x, b = some x → x.block ≠ o)
    (hO : w.ownsRow B 3 1 (.slice (some ⟨o, 0, none⟩) N N) N (A.map (Value.int .i64))) (ho : o < w.heap.size) (hA : Hid (A.length = N)) (hN : N ≤ 100000) (hmm : m ≤ 100000)
    (hs : ∀ s ∈ syms ts m, s < N) (hA0 : ∀ i, A.getD i 0 = 0) (hlen : (syms ts m).length ≤ 4611686018427387904) :
    Calls Tryz.prog 94 #[.slice (some ⟨o, 0, none⟩) N N, .slice b m c] w fun e w' => e = .returned (.tuple #[]) ∧ w'.ownsRow B 3 1 (.slice (some ⟨o, 0, none⟩) N N) N ((bumps A (syms ts m)).map (Value.int .i64)) ∧ w.grownBy w' (some o) := by
  have T2 : Tb ((w.alloc (.cells #[.slice (some ⟨o, 0, none⟩) N N] 39)).alloc (.cells #[(.func (.func 117) #[] #[.pointer (some ⟨w.heap.size, 0, none⟩), .pointer (some ⟨w.heap.size + 1, 0, none⟩)])] 193)) w.heap.size (w.heap.size + 1) o N B A := by
    have B1 : Below w.heap.size w ((w.alloc (.cells #[.slice (some ⟨o, 0, none⟩) N N] 39)).alloc (.cells #[(.func (.func 117) #[] #[.pointer (some ⟨w.heap.size, 0, none⟩), .pointer (some ⟨w.heap.size + 1, 0, none⟩)])] 193)) := ((Below.refl _ _).alloc (Nat.le_refl _) _).alloc (by simp) _
    refine ⟨?_, ?_, own_below hO B1, by omega, by omega⟩
    · rw [Below.heap_alloc _ _ _ (by simp)]
      exact heap_alloc_new w _
    · have := heap_alloc_new (w.alloc (.cells #[.slice (some ⟨o, 0, none⟩) N N] 39)) (.cells #[(.func (.func 117) #[] #[.pointer (some ⟨w.heap.size, 0, none⟩), .pointer (some ⟨w.heap.size + 1, 0, none⟩)])] 193)
      simpa using this
  have B2 : Below w.heap.size w ((w.alloc (.cells #[.slice (some ⟨o, 0, none⟩) N N] 39)).alloc (.cells #[(.func (.func 117) #[] #[.pointer (some ⟨w.heap.size, 0, none⟩), .pointer (some ⟨w.heap.size + 1, 0, none⟩)])] 193)) := ((Below.refl _ _).alloc (Nat.le_refl _) _).alloc (by simp) _
  have hlt : Hid (R.length = ts.length) := hM.len
  go_enter Tryz.func94, Tryz.ntmps94
  go_wp2_with fail
  generalize ((w.alloc (.cells #[.slice (some ⟨o, 0, none⟩) N N] 39)).alloc (.cells #[(.func (.func 117) #[] #[.pointer (some ⟨w.heap.size, 0, none⟩), .pointer (some ⟨w.heap.size + 1, 0, none⟩)])] 193)) = w2 at *
  obtain ⟨pl, hpl⟩ : ∃ pl, pl = w.heap.size := ⟨_, rfl⟩
  have HPL : Hid (pl = w.heap.size) := hpl
  rw [← hpl] at T2 ⊢
  clear hpl
  generalize pl + 1 = pc at *
  go_loopw [9] (fun ti wr => ∃ k : Nat, k ≤ m ∧ ti = .int .i64 (k : Int) ∧ Tb wr pl pc o N B (bumps A (syms ts k)) ∧ w2.grownBy wr (some o)) (fun ti _ => m - (intOf ti).toNat)
  case atStart => exact ⟨0, Nat.zero_le _, rfl, by simpa [syms, bumps] using T2, World.grownBy.refl _ _⟩
  case round =>
    obtain ⟨k, hk, rfl, hT, hG⟩ := hrel
    by_cases hkm : k < m
    · have hkmi : (k : Int) < (m : Int) := by omega
      obtain ⟨g, off, rfl, x⟩ := hR.at_ k (by have := hm.out; omega)
      have hgo : g ≠ o := hb _ rfl
      have hkeep : ∀ q, q ≠ o → q < w.heap.size → wr.heap[q]? = w.heap[q]? := fun q h1 h2 => by rw [hG.block q (Nat.lt_of_lt_of_le h2 B2.size) (by intro e; simp at e; exact h1 e), B2.block q h2]
      have x2 := x.of_block (hkeep g hgo x.lt)
      have m2 := Mn.keep (w' := wr) (fun q hq => hkeep q hq.1 hq.2) d _ _ (hM.mn k (by have := hm.out; omega))
      have HSY : Hid (syms ts (k + 1) = syms ts k ++ (ts.getD k it0).2) := syms_snoc ts k (by have := hm.out; have := hlt.out; omega)
      have hpre : ∀ q, q ≤ m → ∃ r, syms ts m = syms ts q ++ r := by
        intro q hq
        refine ⟨((ts.take m).drop q).flatMap (·.2), ?_⟩
        unfold syms
        rw [← List.flatMap_append]
        congr 1
        have : (ts.take m).take q = ts.take q := by rw [List.take_take, Nat.min_eq_left hq]
        rw [← this, List.take_append_drop]
      have hs1 : ∀ s ∈ (ts.getD k it0).2, s < N := by
        intro s h1
        obtain ⟨r, hr⟩ := hpre (k + 1) (by omega)
        exact hs s (by rw [hr, HSY.out]; exact List.mem_append.2 (.inl (List.mem_append.2 (.inr h1))))
      have hl1 : (syms ts k).length + (ts.getD k it0).2.length ≤ 4611686018427387904 := by
        obtain ⟨r, hr⟩ := hpre (k + 1) (by omega)
        rw [hr, HSY.out] at hlen
        simp only [List.length_append] at hlen
        omega
      have hs0 : ∀ s ∈ syms ts k, s < A.length := by
        intro s h1
        obtain ⟨r, hr⟩ := hpre k hk
        rw [hA.out]
        exact hs s (by rw [hr]; simp [h1])
      have hbb : ∀ i, 0 ≤ (bumps A (syms ts k)).getD i 0 ∧ (bumps A (syms ts k)).getD i 0 + (ts.getD k it0).2.length ≤ 4611686018427387904 := fun i => by
        rw [bumps_get _ _ _ hs0, hA0 i]
        have : (syms ts k).count i ≤ (syms ts k).length := List.count_le_length
        omega
      have HC : Hid (∀ W, Below wr.heap.size wr W → Calls Tryz.prog 117 #[.pointer (some ⟨g, off + k * 4, none⟩), .pointer (some ⟨pl, 0, none⟩), .pointer (some ⟨pc, 0, none⟩)] W fun e w' => e = .returned (.tuple #[]) ∧ Tb w' pl pc o N B (bumps A (syms ts (k + 1))) ∧ wr.grownBy w' (some o)) := fun W hW => by
        have hg : wr.grownBy W (some o) := grown_old hW _
        have hsz : w.heap.size ≤ wr.heap.size := Nat.le_trans B2.size hG.size
        refine (count_any pl pc o N B w.heap.size (Gq o w) (fun q hq => hq) hN d g (off + k * 4) _ (ts.getD k it0) (bumps A (syms ts k)) W (Nat.le_trans hsz hW.size) (Mn.keep (fun q hq => hW.block q (Nat.lt_of_lt_of_le hq.2 hsz)) d _ _ m2) (x2.of_block (hW.block g x2.lt)) hgo (hT.set hg (own_below hT.own hW)) (by rw [bumps_len]; exact hA.out) hs1 hbb).mono ?_
        rintro e w' ⟨r1, r2, r3⟩
        exact ⟨r1, by rw [HSY.out, bumps_app]; exact r2, grownBy_trans hg r3⟩
      have pcc : wr.cell? ⟨pc, 0, none⟩ = some (.func (.func 117) #[] #[.pointer (some ⟨pl, 0, none⟩), .pointer (some ⟨pc, 0, none⟩)]) := by simp [World.cell?, hT.cc]
      have HK : Hid (∀ W, wr.grownBy W (some o) → W.cell? ⟨pc, 0, none⟩ = some (.func (.func 117) #[] #[.pointer (some ⟨pl, 0, none⟩), .pointer (some ⟨pc, 0, none⟩)])) := fun W hW => (World.cell?_of_block (a := ⟨pc, 0, none⟩) (hW.block pc (Array.getElem?_eq_some_iff.1 hT.cc).1 (by intro e; simp at e; exact hT.ne2 e))).trans pcc
      have d0 : Below wr.heap.size wr wr := Below.refl _ _
      have d1 : Below wr.heap.size wr wr.drew := (Below.refl _ _).drew
      clear hT x x2 m2 hkeep hpre hs1 hl1 hs0 hbb
      go_wp2_with fail
      go_region_held3 (fun w' => w'.cell? ⟨pc, 0, none⟩ = some (.func (.func 117) #[] #[.pointer (some ⟨pl, 0, none⟩), .pointer (some ⟨pc, 0, none⟩)]))
        (first | go_keep | (exact HK.out _ (by assumption)))
        (first | (go_at_call 117; refine (HC.out _ (by assumption)).mono ?_; rintro e w3 ⟨rfl, T3, g3⟩))
      clear HC HK pcc d0 d1
      go_wp2
      go_roundw
      case rel => exact ⟨k + 1, by omega, by go_num, T3, grownBy_trans hG g3⟩
      case measure => simp [intOf]; omega
    · obtain rfl : k = m := by omega
      go_wp2
      go_end0
      exact ⟨rfl, hT.own, grownBy_trans (grown_old (HPL.out ▸ B2) _) hG⟩
end Go.Proofs.YtcifalelnfeggaaGreatDoor

namespace Go.Proofs.YtcifalelnfeggaaGreatDoor
set_option linter.unusedVariables false

/-! Huffman's way: the two least are taken away, and their sum is put in their place. -/
def ins (x : Nat) : List Nat → List Nat
  | [] => [x]
  | y :: r => if x ≤ y then x :: y :: r else y :: ins x r
theorem ins_perm (x : Nat) : ∀ l : List Nat, (ins x l).Perm (x :: l)
  | [] => List.Perm.refl _
  | y :: r => by
    unfold ins
    split
    · exact List.Perm.refl _
    · exact ((ins_perm x r).cons y).trans (List.Perm.swap x y r)
theorem ins_sorted (x : Nat) : ∀ l : List Nat, l.Pairwise (· ≤ ·) → (ins x l).Pairwise (· ≤ ·)
  | [], _ => by simp [ins]
  | y :: r, h => by
    have h1 := List.pairwise_cons.1 h
    unfold ins
    split
    · rename_i hxy
      refine List.pairwise_cons.2 ⟨?_, h⟩
      intro z hz
      rcases List.mem_cons.1 hz with rfl | hz
      · exact hxy
      · have := h1.1 z hz; omega
    · rename_i hxy
      refine List.pairwise_cons.2 ⟨?_, ins_sorted x r h1.2⟩
      intro z hz
      rcases List.mem_cons.1 ((ins_perm x r).subset hz) with rfl | hz
      · omega
      · exact h1.1 z hz
def huf : Nat → List Nat → Nat
  | 0, _ => 0
  | k + 1, x :: y :: r => x + y + huf k (ins (x + y) r)
  | _ + 1, _ => 0

theorem kraft_perm {X Y : List (Nat × Nat)} (h : X.Perm Y) (L d : Nat) : kraft X L d = kraft Y L d := by
  unfold kraft
  exact ((h.filter _).map _).sum_nat
theorem cost_perm {X Y : List (Nat × Nat)} (h : X.Perm Y) : costX X = costX Y := by
  unfold costX
  exact (h.map _).sum_nat
theorem sum_dvd (D : Nat) : ∀ l : List Nat, (∀ x ∈ l, D ∣ x) → D ∣ l.sum
  | [], _ => by simp
  | x :: r, h => by
    rw [List.sum_cons]
    exact Nat.dvd_add (h x (by simp)) (sum_dvd D r (fun y hy => h y (by simp [hy])))
theorem sum_ge_len : ∀ l : List Nat, (∀ x ∈ l, 1 ≤ x) → l.length ≤ l.sum
  | [], _ => by simp
  | x :: r, h => by
    have := sum_ge_len r (fun y hy => h y (by simp [hy]))
    have := h x (by simp)
    rw [List.sum_cons, List.length_cons]
    omega
theorem kraft_len (X : List (Nat × Nat)) (L : Nat) (h : ∀ x ∈ X, 1 ≤ x.2) (hk : kraft X L 1 ≤ 2 ^ L) : X.length ≤ 2 ^ L := by
  rw [kraft_all X L h] at hk
  have := sum_ge_len (X.map fun x => 2 ^ (L - x.2)) (by
    intro y hy
    obtain ⟨x, _, rfl⟩ := List.mem_map.1 hy
    exact Nat.two_pow_pos _)
  rw [List.length_map] at this
  omega

/-- Leaves with their places as symbols. -/
theorem zip_facts (W : List Nat) (s : Nat) : (W.zipIdx s).map (·.1) = W ∧ ((W.zipIdx s).map (·.2)).Nodup := by
  refine ⟨?_, ?_⟩
  · simp
  · rw [List.zipIdx_map_snd]
    exact List.nodup_range'

/-- Huffman's cost is the least of all. -/
theorem huf_least (L : Nat) (hL : 1 ≤ L) : ∀ (k : Nat) (W : List Nat), W.Pairwise (· ≤ ·) → (∀ x ∈ W, 0 < x) → W.length = k → 2 ≤ k → ∀ X : List (Nat × Nat), (X.map (·.1)).Perm W → (∀ x ∈ X, 1 ≤ x.2 ∧ x.2 ≤ L) → kraft X L 1 ≤ 2 ^ L → huf k W ≤ costX X
  | 0, W, _, _, _, h2, _, _, _, _ => by omega
  | k + 1, [], _, _, hl, h2, _, _, _, _ => by simp at hl
  | k + 1, [w0], _, _, hl, h2, _, _, _, _ => by simp at hl; omega
  | k + 1, w0 :: w1 :: R, hs, hp, hl, h2, X, hX, hb, hk => by
    have hlX : X.length = k + 1 := by have := hX.length_eq; simp at this hl; omega
    have hlen2 : (w0 :: w1 :: R).length ≤ 2 ^ L := by
      have := kraft_len X L (fun x hx => (hb x hx).1) hk
      rw [hl]; omega
    obtain ⟨z1, z2⟩ := zip_facts (w0 :: w1 :: R) 0
    obtain ⟨LF, hLF⟩ : ∃ LF, LF = (w0 :: w1 :: R).zipIdx 0 := ⟨_, rfl⟩
    rw [← hLF] at z1 z2
    have hLFl : LF.length = (w0 :: w1 :: R).length := by rw [hLF]; simp
    have hsF : LF.Pairwise (fun a b => a.1 ≤ b.1) := by
      have : (LF.map (·.1)).Pairwise (· ≤ ·) := by rw [z1]; exact hs
      rwa [List.pairwise_map] at this
    have hpF : ∀ x ∈ LF, 0 < x.1 := by
      intro x hx
      exact hp x.1 (by rw [← z1]; exact List.mem_map.2 ⟨x, hx, rfl⟩)
    have hn : 2 ≤ LF.length := by rw [hLFl]; simp
    have hn2 : LF.length ≤ 2 ^ L := by rw [hLFl]; exact hlen2
    have hbest := pm_best LF hsF hpF z2 L hL hn hn2 X (by rw [z1]; exact hX) hb hk
    obtain ⟨p1, p2, p3, p4⟩ := pm_all LF hsF hpF z2 L hL hn hn2
    have hLF2 : LF = (w0, 0) :: (w1, 1) :: R.zipIdx 2 := by rw [hLF]; simp [List.zipIdx_cons]
    obtain ⟨l0, hl0⟩ : ∃ l, l = lenOf LF L 0 := ⟨_, rfl⟩
    obtain ⟨l1, hl1⟩ : ∃ l, l = lenOf LF L 1 := ⟨_, rfl⟩
    obtain ⟨Y, hY⟩ : ∃ Y, Y = (R.zipIdx 2).map fun x => (x.1, lenOf LF L x.2) := ⟨_, rfl⟩
    have hXP : XP LF L = (w0, l0) :: (w1, l1) :: Y := by
      rw [hY, hl0, hl1]
      conv => lhs; unfold XP; rw [hLF2]
      rw [List.map_cons, List.map_cons, ← hLF2]
    have hYf : Y.map (·.1) = R := by
      rw [hY, List.map_map]
      have := (zip_facts R 2).1
      exact this
    have hYl : ∀ y ∈ Y, y.2 ≤ l1 := by
      intro y hy
      rw [hY] at hy
      obtain ⟨x, hx, rfl⟩ := List.mem_map.1 hy
      obtain ⟨j, hj, hje⟩ := List.mem_iff_getElem.1 hx
      have h1 : LF[1]? = some (w1, 1) := by rw [hLF2]; rfl
      have h3 : LF[j + 2]? = some x := by rw [hLF2]; simp [← hje]
      have := p4 1 (j + 2) (w1, 1) x (by omega) h1 h3
      rw [hl1]
      exact this
    have h10 : l1 ≤ l0 := by
      have h1 : LF[0]? = some (w0, 0) := by rw [hLF2]; rfl
      have h3 : LF[1]? = some (w1, 1) := by rw [hLF2]; rfl
      have := p4 0 1 (w0, 0) (w1, 1) (by omega) h1 h3
      rw [hl0, hl1]
      exact this
    rw [hXP] at p1 p2 hbest
    clear p3 p4 hXP hLF hLF2 hl0 hl1 hY z1 z2 hsF hpF
    have b0 := p1 (w0, l0) (by simp)
    have b1 := p1 (w1, l1) (by simp)
    simp only at b0 b1
    have hka := kraft_all ((w0, l0) :: (w1, l1) :: Y) L (fun x hx => (p1 x hx).1)
    rw [p2] at hka
    simp only [List.map_cons, List.sum_cons] at hka
    have hsame : l0 = l1 := by
      rcases Nat.lt_or_ge l1 l0 with h | h
      · exfalso
        have d1 : 2 ^ (L - l1) ∣ (Y.map fun x => 2 ^ (L - x.2)).sum := by
          apply sum_dvd
          intro z hz
          obtain ⟨y, hy, rfl⟩ := List.mem_map.1 hz
          exact Nat.pow_dvd_pow 2 (by have := hYl y hy; omega)
        have d2 : 2 ^ (L - l1) ∣ 2 ^ L := Nat.pow_dvd_pow 2 (by omega)
        have d3 : 2 ^ (L - l1) ∣ 2 ^ (L - l1) + (Y.map fun x => 2 ^ (L - x.2)).sum := Nat.dvd_add (Nat.dvd_refl _) d1
        have d4 : 2 ^ (L - l1) ∣ 2 ^ (L - l0) := by
          rw [hka] at d2
          exact (Nat.dvd_add_iff_left d3).2 d2
        have d5 := Nat.le_of_dvd (Nat.two_pow_pos _) d4
        have d6 : 2 ^ (L - l0) < 2 ^ (L - l1) := Nat.pow_lt_pow_right (by decide) (by omega)
        omega
      · omega
    subst hsame
    have hcost : costX ((w0, l0) :: (w1, l0) :: Y) = (w0 + w1) * l0 + costX Y := by
      unfold costX
      simp only [List.map_cons, List.sum_cons, Nat.add_mul]
      omega
    rw [hcost] at hbest
    by_cases hR : R = []
    · subst hR
      have hk1 : k = 1 := by simp at hl; omega
      subst hk1
      have : w0 + w1 ≤ (w0 + w1) * l0 := Nat.le_mul_of_pos_right _ b0.1
      simp only [huf, ins]
      omega
    · have hRl : 1 ≤ R.length := by
        cases R with
        | nil => exact absurd rfl hR
        | cons a r => simp
      have hl02 : 2 ≤ l0 := by
        rcases Nat.lt_or_ge l0 2 with h | h
        · exfalso
          have e0 : l0 = 1 := by omega
          subst e0
          have hYs : Y.map (fun x => 2 ^ (L - x.2)) = Y.map (fun _ => 2 ^ (L - 1)) := by
            apply List.map_congr_left
            intro y hy
            have h1 := hYl y hy
            have h2 := (p1 y (by simp [hy])).1
            rw [show y.2 = 1 by omega]
          have hYn : Y.length = R.length := by rw [← hYf, List.length_map]
          have hpos : 0 < (Y.map fun x => 2 ^ (L - x.2)).sum := by
            have := sum_ge_len (Y.map fun x => 2 ^ (L - x.2)) (by
              intro z hz
              obtain ⟨y, _, rfl⟩ := List.mem_map.1 hz
              exact Nat.two_pow_pos _)
            rw [List.length_map] at this
            omega
          have h7 : 2 ^ L = 2 ^ (L - 1) * 2 := by
            have : 2 ^ L = 2 ^ (L - 1 + 1) := by rw [Nat.sub_add_cancel hL]
            rw [this, Nat.pow_succ]
          omega
        · exact h
      have ih := huf_least L hL k (ins (w0 + w1) R) (ins_sorted _ R (List.pairwise_cons.1 (List.pairwise_cons.1 hs).2).2) ?_ ?_ ?_ ((w0 + w1, l0 - 1) :: Y) ?_ ?_ ?_
      · have hc2 : costX ((w0 + w1, l0 - 1) :: Y) = (w0 + w1) * (l0 - 1) + costX Y := by
          unfold costX
          simp only [List.map_cons, List.sum_cons]
        have h8 : (w0 + w1) * l0 = (w0 + w1) * (l0 - 1) + (w0 + w1) := by
          have : l0 = l0 - 1 + 1 := by omega
          rw [this, Nat.mul_add, Nat.mul_one, Nat.add_sub_cancel]
        rw [hc2] at ih
        simp only [huf]
        omega
      · intro z hz
        rcases List.mem_cons.1 ((ins_perm _ R).subset hz) with rfl | hz
        · have := hp w0 (by simp); omega
        · exact hp z (by simp [hz])
      · rw [(ins_perm _ R).length_eq]
        simp at hl ⊢
        omega
      · simp at hl; omega
      · rw [List.map_cons, hYf]
        exact (ins_perm _ R).symm
      · intro z hz
        rcases List.mem_cons.1 hz with rfl | hz
        · simp only; omega
        · exact p1 z (by simp [hz])
      · rw [kraft_all _ L (by
          intro z hz
          rcases List.mem_cons.1 hz with rfl | hz
          · simp only; omega
          · exact (p1 z (by simp [hz])).1)]
        simp only [List.map_cons, List.sum_cons]
        have h9 : 2 ^ (L - (l0 - 1)) = 2 ^ (L - l0) + 2 ^ (L - l0) := by
          rw [show L - (l0 - 1) = L - l0 + 1 by omega, Nat.pow_succ]; omega
        omega

/-- Huffman's way gives a code of that cost, no word of which is as long as there are leaves. -/
theorem huf_has : ∀ (k : Nat) (W : List Nat), W.length = k → 2 ≤ k → ∀ L : Nat, k ≤ L + 1 → ∃ X : List (Nat × Nat), (X.map (·.1)).Perm W ∧ (∀ x ∈ X, 1 ≤ x.2 ∧ x.2 + 1 ≤ k) ∧ kraft X L 1 = 2 ^ L ∧ costX X = huf k W
  | 0, W, _, h2, _, _ => by omega
  | k + 1, [], hl, h2, _, _ => by simp at hl
  | k + 1, [w0], hl, h2, _, _ => by simp at hl; omega
  | k + 1, w0 :: w1 :: R, hl, h2, L, hL => by
    by_cases hR : R = []
    · subst hR
      have hk1 : k = 1 := by simp at hl; omega
      subst hk1
      refine ⟨[(w0, 1), (w1, 1)], by simp, ?_, ?_, ?_⟩
      · intro x hx
        rcases List.mem_cons.1 hx with rfl | hx
        · exact ⟨by simp, by simp⟩
        · rcases List.mem_cons.1 hx with rfl | hx
          · exact ⟨by simp, by simp⟩
          · cases hx
      · rw [kraft_all _ L (by
          intro x hx
          rcases List.mem_cons.1 hx with rfl | hx
          · simp
          · rcases List.mem_cons.1 hx with rfl | hx
            · simp
            · cases hx)]
        simp only [List.map_cons, List.map_nil, List.sum_cons, List.sum_nil]
        have : 2 ^ L = 2 ^ (L - 1 + 1) := by rw [Nat.sub_add_cancel (by omega)]
        rw [this, Nat.pow_succ]
        omega
      · simp only [huf, ins, costX, List.map_cons, List.map_nil, List.sum_cons, List.sum_nil]
        omega
    · have hRl : 1 ≤ R.length := by
        cases R with
        | nil => exact absurd rfl hR
        | cons a r => simp
      have hlR : R.length + 1 = k := by simp at hl; omega
      obtain ⟨X, x1, x2, x3, x4⟩ := huf_has k (ins (w0 + w1) R) (by rw [(ins_perm _ R).length_eq]; simpa using hlR) (by omega) L (by omega)
      have hp : (X.map (·.1)).Perm ((w0 + w1) :: R) := x1.trans (ins_perm _ R)
      obtain ⟨x, hx, hxe⟩ := List.mem_map.1 (hp.symm.subset (List.mem_cons_self))
      have hY := List.perm_cons_erase hx
      obtain ⟨Y, hYe⟩ : ∃ Y, Y = X.erase x := ⟨_, rfl⟩
      rw [← hYe] at hY
      obtain ⟨a, l⟩ := x
      simp only at hxe
      subst hxe
      have hb := x2 _ hx
      simp only at hb
      have hYb : ∀ y ∈ Y, 1 ≤ y.2 ∧ y.2 + 1 ≤ k := fun y hy => x2 y (hY.symm.subset (List.mem_cons_of_mem _ hy))
      have hYm : (Y.map (·.1)).Perm R := by
        have h1 := (hY.map (·.1)).symm.trans hp
        rw [List.map_cons] at h1
        exact h1.cons_inv
      refine ⟨(w0, l + 1) :: (w1, l + 1) :: Y, ?_, ?_, ?_, ?_⟩
      · rw [List.map_cons, List.map_cons]
        exact (hYm.cons _).cons _
      · intro y hy
        rcases List.mem_cons.1 hy with rfl | hy
        · exact ⟨by simp, by simp only; omega⟩
        · rcases List.mem_cons.1 hy with rfl | hy
          · exact ⟨by simp, by simp only; omega⟩
          · have := hYb y hy; omega
      · rw [kraft_perm hY, kraft_all _ L (by
          intro y hy
          rcases List.mem_cons.1 hy with rfl | hy
          · exact hb.1
          · exact (hYb y hy).1)] at x3
        rw [kraft_all _ L (by
          intro y hy
          rcases List.mem_cons.1 hy with rfl | hy
          · simp
          · rcases List.mem_cons.1 hy with rfl | hy
            · simp
            · exact (hYb y hy).1)]
        simp only [List.map_cons, List.sum_cons] at x3 ⊢
        have h9 : 2 ^ (L - l) = 2 ^ (L - (l + 1)) + 2 ^ (L - (l + 1)) := by
          rw [show L - l = L - (l + 1) + 1 by omega, Nat.pow_succ]; omega
        omega
      · rw [cost_perm hY] at x4
        simp only [huf, costX, List.map_cons, List.sum_cons, Nat.mul_add, Nat.add_mul, Nat.mul_one] at x4 ⊢
        omega

/-- Where the limit does not press, package-merge costs what Huffman's way costs. -/
theorem pm_huf (LF : List (Nat × Nat)) (hs : LF.Pairwise (fun a b => a.1 ≤ b.1)) (hp : ∀ x ∈ LF, 0 < x.1) (hd : (LF.map (·.2)).Nodup) (L : Nat) (hn : 2 ≤ LF.length) (hL : LF.length ≤ L + 1) (hn2 : LF.length ≤ 2 ^ L) :
    costX (XP LF L) = huf LF.length (LF.map (·.1)) := by
  have hL1 : 1 ≤ L := by omega
  have hsW : (LF.map (·.1)).Pairwise (· ≤ ·) := by rw [List.pairwise_map]; exact hs
  have hpW : ∀ x ∈ LF.map (·.1), 0 < x := by
    intro x hx
    obtain ⟨y, hy, rfl⟩ := List.mem_map.1 hx
    exact hp y hy
  obtain ⟨p1, p2, p3, p4⟩ := pm_all LF hs hp hd L hL1 hn hn2
  have hup := huf_least L hL1 LF.length (LF.map (·.1)) hsW hpW (by simp) hn (XP LF L) (by
    unfold XP
    rw [List.map_map]
    exact List.Perm.refl _) p1 (by omega)
  obtain ⟨X, x1, x2, x3, x4⟩ := huf_has LF.length (LF.map (·.1)) (by simp) hn L hL
  have hlo := pm_best LF hs hp hd L hL1 hn hn2 X x1 (fun x hx => by have := x2 x hx; omega) (by omega)
  omega
end Go.Proofs.YtcifalelnfeggaaGreatDoor

namespace Go.Proofs.YtcifalelnfeggaaGreatDoor
open Go.RowKit
set_option linter.unusedVariables false

/-- The leaves of counts, as pairs, in order. -/
def insP (x : Nat × Nat) : List (Nat × Nat) → List (Nat × Nat)
  | [] => [x]
  | y :: r => if y.1 ≤ x.1 then y :: insP x r else x :: y :: r
def pairs (zs : List Int) (k : Nat) : List (Nat × Nat) := ((List.range k).filter fun i => decide (zs.getD i 0 ≠ 0)).map fun i => ((zs.getD i 0).toNat, i)
def LFz (zs : List Int) : List (Nat × Nat) := (pairs zs zs.length).foldl (fun l x => insP x l) []
def pl (x y : Nat × Nat) : Prop := x.1 < y.1 ∨ (x.1 = y.1 ∧ x.2 < y.2)
theorem insP_perm (x : Nat × Nat) : ∀ l, (insP x l).Perm (x :: l)
  | [] => List.Perm.refl _
  | y :: r => by
    unfold insP
    split
    · exact ((insP_perm x r).cons y).trans (List.Perm.swap x y r)
    · exact List.Perm.refl _
theorem insP_ord (x : Nat × Nat) : ∀ l : List (Nat × Nat), l.Pairwise pl → (∀ y ∈ l, y.2 < x.2) → (insP x l).Pairwise pl
  | [], _, _ => by simp [insP]
  | y :: r, h, hx => by
    obtain ⟨h1, h2⟩ := List.pairwise_cons.1 h
    unfold insP
    split
    · rename_i hle
      refine List.pairwise_cons.2 ⟨fun z hz => ?_, insP_ord x r h2 (fun z hz => hx z (by simp [hz]))⟩
      rcases List.mem_cons.1 ((insP_perm x r).mem_iff.1 hz) with rfl | hz
      · have := hx y (by simp); unfold pl; omega
      · exact h1 z hz
    · rename_i hle
      refine List.pairwise_cons.2 ⟨fun z hz => ?_, h⟩
      rcases List.mem_cons.1 hz with rfl | hz
      · unfold pl; omega
      · have := h1 z hz; unfold pl at *; omega
theorem fold_ins : ∀ (l acc : List (Nat × Nat)), l.Pairwise (fun x y => x.2 < y.2) → acc.Pairwise pl → (∀ x ∈ l, ∀ y ∈ acc, y.2 < x.2) → (l.foldl (fun l x => insP x l) acc).Perm (acc ++ l) ∧ (l.foldl (fun l x => insP x l) acc).Pairwise pl
  | [], acc, _, h, _ => by simp [h]
  | x :: r, acc, h, ha, hx => by
    obtain ⟨h1, h2⟩ := List.pairwise_cons.1 h
    have ih := fold_ins r (insP x acc) h2 (insP_ord x acc ha (hx x (by simp))) (fun y hy z hz => by
      rcases List.mem_cons.1 ((insP_perm x acc).mem_iff.1 hz) with rfl | hz
      · exact h1 y hy
      · exact hx y (by simp [hy]) z hz)
    refine ⟨?_, ih.2⟩
    refine ih.1.trans ?_
    refine (List.Perm.append_right r (insP_perm x acc)).trans ?_
    exact (List.perm_middle (a := x) (l₁ := acc) (l₂ := r)).symm
theorem pairs_ord (zs : List Int) (k : Nat) : (pairs zs k).Pairwise (fun x y => x.2 < y.2) := by
  unfold pairs
  rw [List.pairwise_map]
  exact (List.pairwise_lt_range.filter _).imp (fun h => h)
theorem LFz_perm (zs : List Int) : (LFz zs).Perm (pairs zs zs.length) := by
  have := (fold_ins (pairs zs zs.length) [] (pairs_ord zs _) List.Pairwise.nil (by simp)).1
  rw [List.nil_append] at this
  exact this
theorem LFz_ord (zs : List Int) : (LFz zs).Pairwise pl := (fold_ins (pairs zs zs.length) [] (pairs_ord zs _) List.Pairwise.nil (by simp)).2
/-- A list in order is the only one of its items. -/
theorem ord_eq : ∀ (l r : List (Nat × Nat)), l.Perm r → l.Pairwise pl → r.Pairwise pl → l = r
  | [], r, h, _, _ => by have := h.length_eq; exact (List.eq_nil_of_length_eq_zero (by simpa using this.symm)).symm
  | x :: l, [], h, _, _ => by have := h.length_eq; simp at this
  | x :: l, y :: r, h, h1, h2 => by
    obtain ⟨a1, a2⟩ := List.pairwise_cons.1 h1
    obtain ⟨b1, b2⟩ := List.pairwise_cons.1 h2
    have e : x = y := by
      have hx : x ∈ y :: r := h.mem_iff.1 (by simp)
      have hy : y ∈ x :: l := h.mem_iff.2 (by simp)
      rcases List.mem_cons.1 hx with e | hx
      · exact e
      · rcases List.mem_cons.1 hy with e | hy
        · exact e.symm
        · have p1 := b1 x hx
          have p2 := a1 y hy
          unfold pl at p1 p2
          omega
    subst e
    rw [ord_eq l r h.cons_inv a2 b2]
def toP (x : Im) : Nat × Nat := (x.wt.toNat, x.sy.toNat)
theorem leaf_toP {zs : List Int} (k : Nat) : (leafL zs k).map toP = pairs zs k := by
  unfold leafL pairs
  rw [List.map_map]
  apply List.map_congr_left
  intro i _
  simp [toP, leafI]
theorem leaf_good {zs : List Int} (h : ∀ i, 0 ≤ zs.getD i 0) {k : Nat} : ∀ x ∈ leafL zs k, x.fs = none ∧ x.sn = none ∧ 0 < x.wt ∧ 0 ≤ x.sy ∧ x.sy < k ∧ x.wt = zs.getD x.sy.toNat 0 := by
  intro x hx
  unfold leafL at hx
  obtain ⟨i, hi, rfl⟩ := List.mem_map.1 hx
  obtain ⟨h1, h2⟩ := List.mem_filter.1 hi
  have := h i
  simp at h1 h2
  refine ⟨rfl, rfl, ?_, ?_, ?_, ?_⟩
  · show 0 < zs.getD i 0
    have : ¬ zs.getD i 0 = 0 := h2
    omega
  · show (0 : Int) ≤ (i : Int); omega
  · show (i : Int) < (k : Int); omega
  · show zs.getD i 0 = zs.getD (i : Int).toNat 0; simp
/-- The sorted row is the leaves of the counts. -/
theorem sorted_LF {zs : List Int} (h : ∀ i, 0 ≤ zs.getD i 0) {Y : Nat → Im} {m : Nat} (hp : (lst Y 0 m).Perm (leafL zs zs.length)) (ho : so Y 0 m) : (lst Y 0 m).map toP = LFz zs := by
  have hg : ∀ x ∈ lst Y 0 m, 0 < x.wt ∧ 0 ≤ x.sy := fun x hx => by have := leaf_good h x (hp.mem_iff.1 hx); exact ⟨this.2.2.1, this.2.2.2.1⟩
  refine ord_eq _ _ ?_ ?_ (LFz_ord zs)
  · have := hp.map toP
    rw [leaf_toP] at this
    exact this.trans (LFz_perm zs).symm
  · rw [List.pairwise_map]
    have : (lst Y 0 m).Pairwise kl := by
      rw [List.pairwise_iff_getElem]
      intro i j hi hj hij
      have hl : (lst Y 0 m).length = m := by simp [lst]
      have e1 : (lst Y 0 m)[i] = Y i := by have := lst_get Y 0 m i (by omega) im0; simpa [List.getD, hi] using this
      have e2 : (lst Y 0 m)[j] = Y j := by have := lst_get Y 0 m j (by omega) im0; simpa [List.getD, hj] using this
      rw [e1, e2]
      exact ho i j (Nat.zero_le _) hij (by omega)
    refine List.Pairwise.imp_of_mem ?_ this
    intro x y hx hy hxy
    have := hg x hx
    have := hg y hy
    unfold kl at hxy
    unfold pl toP
    simp only
    omega
end Go.Proofs.YtcifalelnfeggaaGreatDoor
