
import Derived.Test.YtoeabfcnfofbiaaDoorLnPack
namespace Go.Proofs.YtoeabfcnfofbiaaDoor
open Go.RowKit
set_option linter.unusedVariables false

/-- Items that lie somewhere (or none), behind a row of the call's own. -/
theorem wpList_app4o {P : Program} {ops : Array Oper} {rest : List Oper} {o : Oper} {a : Act} {Q : Exit → Act → World → Prop} (hgd : o.guard = none) (s x : Operand) (t : TypeId)
    (ho : o.op = .call { callee := .builtin .append, args := #[s, x], argTypes := #[t, t] })
    (base : Nat) (e : TypeId) (i : TypeInfo) (z : Value) (bytes : Nat) (ht : P.underlying t = some (.slice e)) (hi : P.info? e = some i) (hz : i.zero = some z)
    (hsize : i.size = 4) (hby : i.bytes = bytes) (hzs : z.cells.size = 4)
    {w : World} {ra : Option Addr} {n rc : Nat} {l : List Im} (hown : w.ownsRow base e 4 (.slice ra n rc) n (flatI l)) {ad : Option Addr} {m cap : Nat} {r : List Im} (hl : Hid (r.length = m)) (hr : RL w ad r) (hnil : ad = none → cap = 0)
    (hs : a.eval s = .slice ra n rc) (hx : a.eval x = .slice ad m cap)
    (h63 : n + m ≤ 140737488355328) (hbytes : (n + m) * bytes ≤ 140737488355328) (hbase : base ≤ w.heap.size)
    (h : ∀ (b : Option Addr) (c : Nat) (w' : World), w'.ownsRow base e 4 (.slice b (n + m) c) (n + m) (flatI (l ++ r)) → Below base w w' → wpList P ops Q rest (a.put o.dst (.slice b (n + m) c)) w') : wpList P ops Q (o :: rest) a w := by
  cases ad with
  | none =>
    have hz : r = [] := by
      cases r with
      | nil => rfl
      | cons z r => obtain ⟨b, off, hx, _⟩ := hr.at_ 0 (by simp); cases hx
    subst hz
    have hm0 : m = 0 := by have := hl.out; simpa using this.symm
    subst hm0
    rw [hnil rfl] at hx
    refine wpList_append_own_none hgd s x t ho base e i 4 ht hi _ n (flatI l) hs hown hx ?_
    have := h ra rc w (by simpa using hown) (Below.refl _ _)
    simpa using this
  | some ad =>
    exact wpList_app4 hgd s x t ho base e i z bytes ht hi hz hsize hby hzs hown hl.out hr.cells hs hx h63 hbytes hbase (fun b c w' h1 _ h3 => h b c w' h1 h3)

set_option maxRecDepth 100000 in
set_option maxHeartbeats 2000000 in
theorem merged_any (a b : Option Addr) (n m ca cb d : Nat) (L M : List Im) (ts us : List It) (G : Nat → Prop) (w : World) (hn : Hid (L.length = n)) (hm : Hid (M.length = m)) (hR : RL w a L) (hS : RL w b M) (hL : ML G w d L ts) (hM : ML G w d M us)
    (hG : ∀ k, G k → k < w.heap.size) (hl : n ≤ 100000) (hl2 : m ≤ 100000) (hca : n ≤ ca) (hcb : m ≤ cb) (hna : a = none → ca = 0) (hnb : b = none → cb = 0) :
    Calls Tryd.prog 109 #[.slice a n ca, .slice b m cb] w fun e w' => ∃ b' c' R, e = .returned (.slice b' R.length c') ∧ R.length = n + m ∧ R.length ≤ c' ∧ (b' = none → c' = 0) ∧ RL w' b' R ∧ (∀ x, b' = some x → w.heap.size ≤ x.block) ∧ ML G w' d R (List.merge ts us leI) ∧ Below w.heap.size w w' := by
  obtain ⟨i0, hi, hz0, hz1, hz2⟩ := info_parts info_item
  obtain ⟨H, hH⟩ : ∃ H, H = n + m := ⟨_, rfl⟩
  have rH : (n : Int) + (m : Int) = (H : Int) := by omega
  have HH : Hid (H = n + m) := hH
  have hHb : H ≤ 200000 := by omega
  obtain ⟨w1, hr, own1, gr1⟩ := run_make_own (P := Tryd.prog) w w.heap.size 155 159 i0 _ 4 Tryd.underlying155 hi hz0 hz1 .i64 .i64 H (by rw [hz2]; omega) (by unfold maxLen; omega) (Nat.le_refl _)
  have B1 : Below w.heap.size w w1 := ⟨gr1.os, gr1.tape, gr1.output, gr1.size, fun i hi => gr1.block i hi (by simp)⟩
  clear hH gr1
  go_enter Tryd.func109, Tryd.ntmps109
  go_wp2_with fail
  go_loopw [0, 1, 5] (fun tl tp to wr => ∃ (p q k ca cb co : Nat) (a b o : Option Addr) (L M R : List Im) (xs ys zs : List It), tl = .slice a p ca ∧ tp = .slice b q cb ∧ to = .slice o k co ∧ Hid (L.length = p) ∧ Hid (M.length = q) ∧ Hid (R.length = k) ∧ p ≤ ca ∧ q ≤ cb ∧ p ≤ 100000 ∧ q ≤ 100000 ∧ k ≤ 200000 ∧ (a = none → ca = 0) ∧ (b = none → cb = 0) ∧ RL w a L ∧ RL w b M ∧ wr.ownsRow w.heap.size 159 4 (.slice o k co) k (flatI R) ∧ Below w.heap.size w wr ∧ Hid (ML G w d L xs ∧ ML G w d M ys ∧ ML G w d R zs ∧ zs ++ List.merge xs ys leI = List.merge ts us leI ∧ k + p + q = H)) (fun tl tp _ _ => (match tl with | .slice _ p _ => p | _ => 0) + (match tp with | .slice _ q _ => q | _ => 0))
  case atStart => exact ⟨n, m, 0, ca, cb, H, a, b, _, L, M, [], ts, us, [], rfl, rfl, rfl, hn, hm, (rfl : _ = _), hca, hcb, hl, hl2, by omega, hna, hnb, hR, hS, own1, B1, (⟨hL, hM, ML.nil _ _ _, rfl, by have := HH.out; omega⟩ : _ ∧ _)⟩
  case round =>
    obtain ⟨p, q, k, ca, cb, co, a, b, o, L, M, R, xs, ys, zs, rfl, rfl, rfl, hp, hq, hk, hpa, hqb, hp5, hq5, hk5, hna, hnb, rl, rm, OR, BR, HX⟩ := hrel
    by_cases hp0 : 0 < p
    · by_cases hq0 : 0 < q
      · have hp0i : (0 : Int) < (p : Int) := by omega
        have hq0i : (0 : Int) < (q : Int) := by omega
        obtain ⟨g1, o1, rfl, x⟩ := rl.at_ 0 (by have := hp.out; omega)
        obtain ⟨g2, o2, rfl, y⟩ := rm.at_ 0 (by have := hq.out; omega)
        have x2 := x.of_block (BR.block g1 x.lt)
        have y2 := y.of_block (BR.block g2 y.lt)
        obtain ⟨X, L', rfl⟩ : ∃ X L', L = X :: L' := by
          have := hp.out
          match L, this with
          | [], h => simp at h; omega
          | X :: L', _ => exact ⟨X, L', rfl⟩
        obtain ⟨Y, M', rfl⟩ : ∃ Y M', M = Y :: M' := by
          have := hq.out
          match M, this with
          | [], h => simp at h; omega
          | Y :: M', _ => exact ⟨Y, M', rfl⟩
        obtain ⟨s, xs', rfl⟩ : ∃ s xs', xs = s :: xs' := by
          have := HX.out.1.len
          match xs, this with
          | [], h => simp at h
          | s :: xs', _ => exact ⟨s, xs', rfl⟩
        obtain ⟨u, ys', rfl⟩ : ∃ u ys', ys = u :: ys' := by
          have := HX.out.2.1.len
          match ys, this with
          | [], h => simp at h
          | u :: ys', _ => exact ⟨u, ys', rfl⟩
        obtain ⟨mx, tx⟩ := HX.out.1.tail
        obtain ⟨my, ty⟩ := HX.out.2.1.tail
        have e1 : Hid _ := mx.wt
        have e2 : Hid _ := my.wt
        have gx : (X :: L').getD 0 im0 = X := rfl
        have gy : (Y :: M').getD 0 im0 = Y := rfl
        rw [gx] at x x2
        rw [gy] at y y2
        obtain ⟨x0, x1, x2', x3⟩ := x2
        obtain ⟨y0, y1, y2', y3⟩ := y2
        simp only [Nat.zero_mul, Nat.add_zero] at x0 x1 x2' x3 y0 y1 y2' y3
        by_cases hc : X.wt ≤ Y.wt
        · skip
          go_wp2_with fail
          go_region
          have ORd : wr.drew.ownsRow w.heap.size 159 4 (.slice o k co) k (flatI R) := OR
          have BRd : Below w.heap.size w wr.drew := BR.drew
          have x0d : wr.drew.cell? ⟨g1, o1, none⟩ = some (.int .i64 X.wt) := x0
          have x1d : wr.drew.cell? ⟨g1, o1 + 1, none⟩ = some (.int .i64 X.sy) := x1
          have x2d : wr.drew.cell? ⟨g1, o1 + 2, none⟩ = some (.pointer X.fs) := x2'
          have x3d : wr.drew.cell? ⟨g1, o1 + 3, none⟩ = some (.pointer X.sn) := x3
          clear OR BR x0 x1 x2' x3 y0 y1 y2' y3
          generalize wr.drew = w2 at *
          have hbs := BRd.size
          have hp1 : (1 : Int) ≤ (p : Int) := by omega
          have hp2 : (1 : Int) ≤ (ca : Int) := by omega
          have hpa2 : (p : Int) ≤ (ca : Int) := by omega
          go_wp2_with (at_builtin; refine wpList_app4 rfl (.tmp 29) (.tmp 33) 155 rfl w.heap.size 159 i0 _ 32 Tryd.underlying155 hi hz0 hz1 hz2 rfl (ORd.alloc _) (m := 1) (r := [X]) rfl (new_cells w2 X) rfl rfl (by omega) (by omega) (by simp; omega) ?_; intro b2 c2 w3 OR2 hg2 B2)
          have B3 : Below w.heap.size w w3 := BRd.trans (((Below.refl _ _).alloc hbs _).trans B2)
          have hlen := hp.out
          have hkl := hk.out
          have HTL : Hid (L'.length = p - 1) := by show _ = _; rw [← hlen]; simp
          have HRL : Hid (RL w (if ca = 1 then some ⟨g1, o1, none⟩ else some ⟨g1, o1 + 4, none⟩) L') := by
            split
            · refine ⟨fun j hj => ?_⟩
              have := HTL.out
              omega
            · exact rl.tail
          have HNN : Hid ((if ca = 1 then some (⟨g1, o1, none⟩ : Addr) else some ⟨g1, o1 + 4, none⟩) = none → ca - 1 = 0) := by
            intro h
            split at h <;> cases h
          have HMG : Hid ((zs ++ [s]) ++ List.merge xs' (u :: ys') leI = List.merge ts us leI) := by
            have := HX.out.2.2.2.1
            rw [List.cons_merge_cons, if_pos (show leI s u = true by have := e1.out; have := e2.out; simp [leI]; omega)] at this
            show _ = _
            rw [← this]; simp
          have HRk : Hid ((R ++ [X]).length = k + 1) := by show _ = _; rw [List.length_append, hkl]; rfl
          clear hlen hkl hg2 B2 ORd
          go_roundw
          case rel => exact ⟨p - 1, q, k + 1, ca - 1, cb, c2, _, _, b2, L', Y :: M', R ++ [X], xs', u :: ys', zs ++ [s], rfl, rfl, rfl, HTL, hq, HRk, by omega, by omega, by omega, by omega, by have := HX.out.2.2.2.2; omega, HNN.out, hnb, HRL.out, rm, OR2, B3, (⟨tx, HX.out.2.1, HX.out.2.2.1.app (ML.one mx), HMG.out, by have := HX.out.2.2.2.2; omega⟩ : _ ∧ _)⟩
          case measure => simp only; omega
        · skip
          go_wp2_with fail
          go_region
          have ORd : wr.drew.ownsRow w.heap.size 159 4 (.slice o k co) k (flatI R) := OR
          have BRd : Below w.heap.size w wr.drew := BR.drew
          have x0d : wr.drew.cell? ⟨g2, o2, none⟩ = some (.int .i64 Y.wt) := y0
          have x1d : wr.drew.cell? ⟨g2, o2 + 1, none⟩ = some (.int .i64 Y.sy) := y1
          have x2d : wr.drew.cell? ⟨g2, o2 + 2, none⟩ = some (.pointer Y.fs) := y2'
          have x3d : wr.drew.cell? ⟨g2, o2 + 3, none⟩ = some (.pointer Y.sn) := y3
          clear OR BR x0 x1 x2' x3 y0 y1 y2' y3
          generalize wr.drew = w2 at *
          have hbs := BRd.size
          have hp1 : (1 : Int) ≤ (q : Int) := by omega
          have hp2 : (1 : Int) ≤ (cb : Int) := by omega
          have hpa2 : (q : Int) ≤ (cb : Int) := by omega
          go_wp2_with (at_builtin; refine wpList_app4 rfl (.tmp 37) (.tmp 41) 155 rfl w.heap.size 159 i0 _ 32 Tryd.underlying155 hi hz0 hz1 hz2 rfl (ORd.alloc _) (m := 1) (r := [Y]) rfl (new_cells w2 Y) rfl rfl (by omega) (by omega) (by simp; omega) ?_; intro b2 c2 w3 OR2 hg2 B2)
          have B3 : Below w.heap.size w w3 := BRd.trans (((Below.refl _ _).alloc hbs _).trans B2)
          have hlen := hq.out
          have hkl := hk.out
          have HTL : Hid (M'.length = q - 1) := by show _ = _; rw [← hlen]; simp
          have HRL : Hid (RL w (if cb = 1 then some ⟨g2, o2, none⟩ else some ⟨g2, o2 + 4, none⟩) M') := by
            split
            · refine ⟨fun j hj => ?_⟩
              have := HTL.out
              omega
            · exact rm.tail
          have HNN : Hid ((if cb = 1 then some (⟨g2, o2, none⟩ : Addr) else some ⟨g2, o2 + 4, none⟩) = none → cb - 1 = 0) := by
            intro h
            split at h <;> cases h
          have HMG : Hid ((zs ++ [u]) ++ List.merge (s :: xs') ys' leI = List.merge ts us leI) := by
            have := HX.out.2.2.2.1
            rw [List.cons_merge_cons, if_neg (show ¬ leI s u = true by have := e1.out; have := e2.out; simp [leI]; omega)] at this
            show _ = _
            rw [← this]; simp
          have HRk : Hid ((R ++ [Y]).length = k + 1) := by show _ = _; rw [List.length_append, hkl]; rfl
          clear hlen hkl hg2 B2 ORd
          go_roundw
          case rel => exact ⟨p, q - 1, k + 1, ca, cb - 1, c2, _, _, b2, X :: L', M', R ++ [Y], s :: xs', ys', zs ++ [u], rfl, rfl, rfl, hp, HTL, HRk, by omega, by omega, by omega, by omega, by have := HX.out.2.2.2.2; omega, hna, HNN.out, rl, HRL.out, OR2, B3, (⟨HX.out.1, ty, HX.out.2.2.1.app (ML.one my), HMG.out, by have := HX.out.2.2.2.2; omega⟩ : _ ∧ _)⟩
          case measure => simp only; omega
      · have hq0i : ¬ (0 : Int) < (q : Int) := by omega
        have hp0i : (0 : Int) < (p : Int) := by omega
        have HFIN : Hid ((zs ++ xs) ++ ys = List.merge ts us leI) := by
          obtain ⟨h1, h2, h3, h4, h5⟩ := HX.out
          show _ = _
          rw [← h4]
          have hy : ys = [] := List.eq_nil_of_length_eq_zero (by have := h2.len; have := hq.out; omega)
          rw [hy]; simp
        have rlr := rl.old (w' := wr) ⟨BR.os, BR.tape, BR.output, BR.size, BR.block⟩
        have rmr := rm.old (w' := wr) ⟨BR.os, BR.tape, BR.output, BR.size, BR.block⟩
        have hbs := BR.size
        have hsum : k + p + q = H := HX.out.2.2.2.2
        have HSUM : Hid (k + p + q = H) := hsum
        clear hsum
        go_wp2_with (first
          | (at_builtin; refine wpList_app4o rfl (.tmp 45) (.tmp 46) 155 rfl w.heap.size 159 i0 _ 32 Tryd.underlying155 hi hz0 hz1 hz2 rfl OR hp rlr hna rfl rfl (by omega) (by omega) hbs ?_; intro b2 c2 w2 OR2 B2; have rm2 := rm.old (w' := w2) (BR.trans B2); have hbs2 := (BR.trans B2).size)
          | (at_builtin; refine wpList_app4o rfl (.tmp 48) (.tmp 49) 155 rfl w.heap.size 159 i0 _ 32 Tryd.underlying155 hi hz0 hz1 hz2 rfl OR2 hq rm2 hnb rfl rfl (by omega) (by omega) hbs2 ?_; intro b3 c3 w3 OR3 B3))
        go_ret
        have BF : Below w.heap.size w w3 := BR.trans (B2.trans B3)
        have hlen : (R ++ L ++ M).length = k + p + q := by rw [List.length_append, List.length_append, hk.out, hp.out, hq.out]
        have hml := ((HX.out.2.2.1.app HX.out.1).app HX.out.2.1).keep (w' := w3) (fun b hb => BF.block b (hG b hb))
        rw [HFIN.out] at hml
        have hcap : k + p + q ≤ c3 ∧ (b3 = none → c3 = 0) ∧ ∀ x, b3 = some x → w.heap.size ≤ x.block := by
          rcases OR3.2 with ⟨h1, h2⟩ | ⟨g, cp, cur, h1, h2, h3, h4, _⟩
          · simp only [Value.slice.injEq] at h1
            obtain ⟨rfl, _, rfl⟩ := h1
            exact ⟨by omega, (fun _ => rfl), (fun x h => by cases h)⟩
          · simp only [Value.slice.injEq] at h1
            obtain ⟨rfl, _, rfl⟩ := h1
            exact ⟨h4, (fun h => by cases h), (fun x h => by cases h; exact h2)⟩
        refine ⟨b3, c3, R ++ L ++ M, by rw [hlen]; rfl, by rw [hlen, HSUM.out]; exact HH.out, by rw [hlen]; exact hcap.1, hcap.2.1, own_RL OR3 hlen, hcap.2.2, hml, BF⟩
    · have hp0i : ¬ (0 : Int) < (p : Int) := by omega
      have HFIN : Hid ((zs ++ xs) ++ ys = List.merge ts us leI) := by
        obtain ⟨h1, h2, h3, h4, h5⟩ := HX.out
        show _ = _
        rw [← h4]
        have hy : xs = [] := List.eq_nil_of_length_eq_zero (by have := h1.len; have := hp.out; omega)
        rw [hy]; simp
      have rlr := rl.old (w' := wr) ⟨BR.os, BR.tape, BR.output, BR.size, BR.block⟩
      have rmr := rm.old (w' := wr) ⟨BR.os, BR.tape, BR.output, BR.size, BR.block⟩
      have hbs := BR.size
      have hsum : k + p + q = H := HX.out.2.2.2.2
      have HSUM : Hid (k + p + q = H) := hsum
      clear hsum
      go_wp2_with (first
        | (at_builtin; refine wpList_app4o rfl (.tmp 45) (.tmp 46) 155 rfl w.heap.size 159 i0 _ 32 Tryd.underlying155 hi hz0 hz1 hz2 rfl OR hp rlr hna rfl rfl (by omega) (by omega) hbs ?_; intro b2 c2 w2 OR2 B2; have rm2 := rm.old (w' := w2) (BR.trans B2); have hbs2 := (BR.trans B2).size)
        | (at_builtin; refine wpList_app4o rfl (.tmp 48) (.tmp 49) 155 rfl w.heap.size 159 i0 _ 32 Tryd.underlying155 hi hz0 hz1 hz2 rfl OR2 hq rm2 hnb rfl rfl (by omega) (by omega) hbs2 ?_; intro b3 c3 w3 OR3 B3))
      go_ret
      have BF : Below w.heap.size w w3 := BR.trans (B2.trans B3)
      have hlen : (R ++ L ++ M).length = k + p + q := by rw [List.length_append, List.length_append, hk.out, hp.out, hq.out]
      have hml := ((HX.out.2.2.1.app HX.out.1).app HX.out.2.1).keep (w' := w3) (fun b hb => BF.block b (hG b hb))
      rw [HFIN.out] at hml
      have hcap : k + p + q ≤ c3 ∧ (b3 = none → c3 = 0) ∧ ∀ x, b3 = some x → w.heap.size ≤ x.block := by
        rcases OR3.2 with ⟨h1, h2⟩ | ⟨g, cp, cur, h1, h2, h3, h4, _⟩
        · simp only [Value.slice.injEq] at h1
          obtain ⟨rfl, _, rfl⟩ := h1
          exact ⟨by omega, (fun _ => rfl), (fun x h => by cases h)⟩
        · simp only [Value.slice.injEq] at h1
          obtain ⟨rfl, _, rfl⟩ := h1
          exact ⟨h4, (fun h => by cases h), (fun x h => by cases h; exact h2)⟩
      refine ⟨b3, c3, R ++ L ++ M, by rw [hlen]; rfl, by rw [hlen, HSUM.out]; exact HH.out, by rw [hlen]; exact hcap.1, hcap.2.1, own_RL OR3 hlen, hcap.2.2, hml, BF⟩
end Go.Proofs.YtoeabfcnfofbiaaDoor
