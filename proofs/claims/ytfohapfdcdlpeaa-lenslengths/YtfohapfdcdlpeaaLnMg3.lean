
import Derived.Test.YtfohapfdcdlpeaaLnR3
namespace Go.Proofs.Ytfohapfdcdlpeaa
open Go.RowKit
set_option linter.unusedVariables false

theorem mg_left {s : It} {xs ys zs R : List It} (h : zs ++ List.merge (s :: xs) ys leI = R) (hc : ∀ u ys', ys = u :: ys' → s.1 ≤ u.1) : (zs ++ [s]) ++ List.merge xs ys leI = R := by
  rw [← h]
  match ys, hc with
  | [], _ => simp
  | u :: ys', hc => rw [List.cons_merge_cons, if_pos (show leI s u = true by have := hc u ys' rfl; simp [leI]; omega)]; simp
theorem mg_right {u : It} {xs ys zs R : List It} (h : zs ++ List.merge xs (u :: ys) leI = R) (hc : ∀ s xs', xs = s :: xs' → ¬ s.1 ≤ u.1) : (zs ++ [u]) ++ List.merge xs ys leI = R := by
  rw [← h]
  match xs, hc with
  | [], _ => simp
  | s :: xs', hc => rw [List.cons_merge_cons, if_neg (show ¬ leI s u = true by have := hc s xs' rfl; simp [leI]; omega)]; simp
theorem headR {L : List Rm} {ts : List It} {p : Nat} (h : L.length = p) (h0 : 0 < p) (hl : L.length = ts.length) : ∃ X L' s ts', L = X :: L' ∧ ts = s :: ts' := by
  match L, ts, h, hl with
  | [], _, h, _ => simp at h; omega
  | X :: L', [], _, hl => simp at hl
  | X :: L', s :: ts', _, _ => exact ⟨X, L', s, ts', rfl, rfl⟩

set_option maxRecDepth 100000 in
set_option maxHeartbeats 2000000 in
theorem rmerged_any (N : Nat) (a b : Option Addr) (n m ca cb : Nat) (L M : List Rm) (ts us : List It) (w : World) (hn : Hid (L.length = n)) (hm : Hid (M.length = m)) (hR : RR N w a L) (hS : RR N w b M) (hL : M3 N w L ts) (hM : M3 N w M us)
    (hl : n ≤ 100000) (hl2 : m ≤ 100000) (hca : n ≤ ca) (hcb : m ≤ cb) :
    Calls Try.prog 12 #[.slice a n ca, .slice b m cb] w fun e w' => ∃ b' c' R, e = .returned (.slice b' R.length c') ∧ R.length = n + m ∧ R.length ≤ c' ∧ RR N w' b' R ∧ M3 N w' R (List.merge ts us leI) ∧ Below w.heap.size w w' := by
  obtain ⟨i0, hi, hz0, hz1, hz2⟩ := info_parts info_item3
  go_enter Try.func12, Try.ntmps12
  go_wp2_with fail
  go_loopw [0, 1, 5] (fun tl tp to wr => ∃ (p q k ca cb co : Nat) (a b o : Option Addr) (L M R : List Rm) (xs ys zs : List It), tl = .slice a p ca ∧ tp = .slice b q cb ∧ to = .slice o k co ∧ Hid (L.length = p) ∧ Hid (M.length = q) ∧ Hid (R.length = k) ∧ p ≤ ca ∧ q ≤ cb ∧ p ≤ 100000 ∧ q ≤ 100000 ∧ k ≤ 200000 ∧ RR N w a L ∧ RR N w b M ∧ wr.ownsRow w.heap.size 38 3 (.slice o k co) k (flatR N R) ∧ Below w.heap.size w wr ∧ Hid (M3 N w L xs ∧ M3 N w M ys ∧ M3 N w R zs ∧ zs ++ List.merge xs ys leI = List.merge ts us leI ∧ k + p + q = n + m)) (fun tl tp _ _ => (match tl with | .slice _ p _ => p | _ => 0) + (match tp with | .slice _ q _ => q | _ => 0))
  case atStart => exact ⟨n, m, 0, ca, cb, 0, a, b, none, L, M, [], ts, us, [], rfl, rfl, rfl, hn, hm, (rfl : _ = _), hca, hcb, hl, hl2, by omega, hR, hS, World.ownsRow_nil _ _ _ _, Below.refl _ _, (⟨hL, hM, M3.nil _ _, rfl, by omega⟩ : _ ∧ _)⟩
  case round =>
    obtain ⟨p, q, k, ca, cb, co, a, b, o, L, M, R, xs, ys, zs, rfl, rfl, rfl, hp, hq, hk, hpa, hqb, hp5, hq5, hk5, rl, rm, OR, BR, HX⟩ := hrel
    have hbs := BR.size
    have hsum : k + p + q = n + m := HX.out.2.2.2.2
    have HSUM : Hid (k + p + q = n + m) := hsum
    have hk6 : k ≤ 200000 := by omega
    clear hsum
    by_cases hp0 : 0 < p
    · have hp0i : (0 : Int) < (p : Int) := by omega
      obtain ⟨X, L', s, xs', rfl, rfl⟩ := headR hp.out hp0 HX.out.1.len
      obtain ⟨g1, o1, rfl, x⟩ := rl.at_ 0 (by simp)
      have x2 := x.of_block (BR.block g1 x.lt)
      have gx : (X :: L').getD 0 rm0 = X := rfl
      rw [gx] at x x2
      obtain ⟨x0, x1, x2'⟩ := x2
      simp only [Nat.zero_mul, Nat.add_zero] at x0 x1 x2'
      obtain ⟨mx, tx⟩ := HX.out.1.tail
      have e1 : Hid (X.wt = (s.1 : Int)) := mx.wt 0 (by simp)
      by_cases hq0 : 0 < q
      · have hq0i : (0 : Int) < (q : Int) := by omega
        have hqb0 : ((q : Int) == 0) = false := by simp; omega
        obtain ⟨Y, M', u, ys', rfl, rfl⟩ := headR hq.out hq0 HX.out.2.1.len
        obtain ⟨g2, o2, rfl, y⟩ := rm.at_ 0 (by simp)
        have y2 := y.of_block (BR.block g2 y.lt)
        have gy : (Y :: M').getD 0 rm0 = Y := rfl
        rw [gy] at y y2
        obtain ⟨y0, y1, y2'⟩ := y2
        simp only [Nat.zero_mul, Nat.add_zero] at y0 y1 y2'
        obtain ⟨my, ty⟩ := HX.out.2.1.tail
        have e2 : Hid (Y.wt = (u.1 : Int)) := my.wt 0 (by simp)
        by_cases hc : X.wt ≤ Y.wt
        · have HMG : Hid ((zs ++ [s]) ++ List.merge xs' (u :: ys') leI = List.merge ts us leI) := mg_left HX.out.2.2.2.1 (fun u2 y2 e => by cases e; have := e1.out; have := e2.out; omega)
          go_wp2_with fail
          go_quiet (fail)
          have ORd : (wr.drewN nq).ownsRow w.heap.size 38 3 (.slice o k co) k (flatR N R) := OR
          have BRd : Below w.heap.size w (wr.drewN nq) := ⟨BR.os, BR.tape, BR.output, BR.size, BR.block⟩
          have c0d : (wr.drewN nq).cell? ⟨g1, o1, none⟩ = some (.int .i64 X.wt) := x0
          have c1d : (wr.drewN nq).cell? ⟨g1, o1 + 1, none⟩ = some (.bool X.lf) := x1
          have c2d : (wr.drewN nq).cell? ⟨g1, o1 + 2, none⟩ = some (.slice (some ⟨X.gc, 0, none⟩) N N) := x2'
          clear OR BR x0 x1 x2'
          generalize wr.drewN nq = w2 at *
          have hbs := BRd.size
          have hp1 : (1 : Int) ≤ (p : Int) := by omega
          have hp2 : (1 : Int) ≤ (ca : Int) := by omega
          have hpa2 : (p : Int) ≤ (ca : Int) := by omega
          go_wp2_with (at_builtin; refine wpList_app3 rfl (.tmp 33) (.tmp 37) 34 rfl w.heap.size 38 i0 _ 40 Try.underlying34 hi hz0 hz1 hz2 rfl (ORd.alloc _) (r := Rm.cells N X) rfl (by simp [Rm.cells, Value.oneCell']) (new_cells3 w2 _ _ _ _) rfl rfl (by omega) (by omega) (by simp; omega) ?_; intro b2 c2 w3 OR2 hg2 B2)
          have B3 : Below w.heap.size w w3 := BRd.trans (((Below.refl _ _).alloc hbs _).trans B2)
          have hlen := hp.out
          have hkl := hk.out
          have HTL : Hid (L'.length = p - 1) := by show _ = _; rw [← hlen]; simp
          have HRL : Hid (RR N w (if ca = 1 then some ⟨g1, o1, none⟩ else some ⟨g1, o1 + 3, none⟩) L') := by
            split
            · refine ⟨fun j hj => ?_⟩
              have := HTL.out
              omega
            · exact rl.tail
          have HRk : Hid ((R ++ [X]).length = k + 1) := by show _ = _; rw [List.length_append, hkl]; rfl
          have OR3 : w3.ownsRow w.heap.size 38 3 (.slice b2 (k + 1) c2) (k + 1) (flatR N (R ++ [X])) := by
            rw [flatR_app]
            simpa [flatR] using OR2
          clear hlen hkl hg2 B2 ORd OR2
          go_roundw
          case rel => exact ⟨p - 1, q, k + 1, ca - 1, cb, c2, _, _, b2, L', Y :: M', R ++ [X], xs', u :: ys', zs ++ [s], rfl, rfl, rfl, HTL, hq, HRk, by omega, by omega, by omega, by omega, by have := HSUM.out; omega, HRL.out, rm, OR3, B3, (⟨tx, HX.out.2.1, HX.out.2.2.1.app mx, HMG.out, by have := HSUM.out; omega⟩ : _ ∧ _)⟩
          case measure => simp only; omega
        · have HMG : Hid ((zs ++ [u]) ++ List.merge (s :: xs') ys' leI = List.merge ts us leI) := mg_right HX.out.2.2.2.1 (fun s2 x2 e => by cases e; have := e1.out; have := e2.out; omega)
          go_wp2_with fail
          go_quiet (fail)
          have ORd : (wr.drewN nq).ownsRow w.heap.size 38 3 (.slice o k co) k (flatR N R) := OR
          have BRd : Below w.heap.size w (wr.drewN nq) := ⟨BR.os, BR.tape, BR.output, BR.size, BR.block⟩
          have c0d : (wr.drewN nq).cell? ⟨g2, o2, none⟩ = some (.int .i64 Y.wt) := y0
          have c1d : (wr.drewN nq).cell? ⟨g2, o2 + 1, none⟩ = some (.bool Y.lf) := y1
          have c2d : (wr.drewN nq).cell? ⟨g2, o2 + 2, none⟩ = some (.slice (some ⟨Y.gc, 0, none⟩) N N) := y2'
          clear OR BR y0 y1 y2'
          generalize wr.drewN nq = w2 at *
          have hbs := BRd.size
          have hp1 : (1 : Int) ≤ (q : Int) := by omega
          have hp2 : (1 : Int) ≤ (cb : Int) := by omega
          have hpa2 : (q : Int) ≤ (cb : Int) := by omega
          go_wp2_with (at_builtin; refine wpList_app3 rfl (.tmp 41) (.tmp 45) 34 rfl w.heap.size 38 i0 _ 40 Try.underlying34 hi hz0 hz1 hz2 rfl (ORd.alloc _) (r := Rm.cells N Y) rfl (by simp [Rm.cells, Value.oneCell']) (new_cells3 w2 _ _ _ _) rfl rfl (by omega) (by omega) (by simp; omega) ?_; intro b2 c2 w3 OR2 hg2 B2)
          have B3 : Below w.heap.size w w3 := BRd.trans (((Below.refl _ _).alloc hbs _).trans B2)
          have hlen := hq.out
          have hkl := hk.out
          have HTL : Hid (M'.length = q - 1) := by show _ = _; rw [← hlen]; simp
          have HRL : Hid (RR N w (if cb = 1 then some ⟨g2, o2, none⟩ else some ⟨g2, o2 + 3, none⟩) M') := by
            split
            · refine ⟨fun j hj => ?_⟩
              have := HTL.out
              omega
            · exact rm.tail
          have HRk : Hid ((R ++ [Y]).length = k + 1) := by show _ = _; rw [List.length_append, hkl]; rfl
          have OR3 : w3.ownsRow w.heap.size 38 3 (.slice b2 (k + 1) c2) (k + 1) (flatR N (R ++ [Y])) := by
            rw [flatR_app]
            simpa [flatR] using OR2
          clear hlen hkl hg2 B2 ORd OR2
          go_roundw
          case rel => exact ⟨p, q - 1, k + 1, ca, cb - 1, c2, _, _, b2, X :: L', M', R ++ [Y], s :: xs', ys', zs ++ [u], rfl, rfl, rfl, hp, HTL, HRk, by omega, by omega, by omega, by omega, by have := HSUM.out; omega, rl, HRL.out, OR3, B3, (⟨HX.out.1, ty, HX.out.2.2.1.app my, HMG.out, by have := HSUM.out; omega⟩ : _ ∧ _)⟩
          case measure => simp only; omega
      · obtain rfl : q = 0 := by omega
        have HMG : Hid ((zs ++ [s]) ++ List.merge xs' ys leI = List.merge ts us leI) := mg_left HX.out.2.2.2.1 (fun u2 y2 e => by have h1 := HX.out.2.1.len; have h2 := hq.out; rw [e, h2] at h1; simp at h1)
        go_wp2_with fail
        go_quiet (fail)
        have ORd : (wr.drewN nq).ownsRow w.heap.size 38 3 (.slice o k co) k (flatR N R) := OR
        have BRd : Below w.heap.size w (wr.drewN nq) := ⟨BR.os, BR.tape, BR.output, BR.size, BR.block⟩
        have c0d : (wr.drewN nq).cell? ⟨g1, o1, none⟩ = some (.int .i64 X.wt) := x0
        have c1d : (wr.drewN nq).cell? ⟨g1, o1 + 1, none⟩ = some (.bool X.lf) := x1
        have c2d : (wr.drewN nq).cell? ⟨g1, o1 + 2, none⟩ = some (.slice (some ⟨X.gc, 0, none⟩) N N) := x2'
        clear OR BR x0 x1 x2'
        generalize wr.drewN nq = w2 at *
        have hbs := BRd.size
        have hp1 : (1 : Int) ≤ (p : Int) := by omega
        have hp2 : (1 : Int) ≤ (ca : Int) := by omega
        have hpa2 : (p : Int) ≤ (ca : Int) := by omega
        go_wp2_with (at_builtin; refine wpList_app3 rfl (.tmp 33) (.tmp 37) 34 rfl w.heap.size 38 i0 _ 40 Try.underlying34 hi hz0 hz1 hz2 rfl (ORd.alloc _) (r := Rm.cells N X) rfl (by simp [Rm.cells, Value.oneCell']) (new_cells3 w2 _ _ _ _) rfl rfl (by omega) (by omega) (by simp; omega) ?_; intro b2 c2 w3 OR2 hg2 B2)
        have B3 : Below w.heap.size w w3 := BRd.trans (((Below.refl _ _).alloc hbs _).trans B2)
        have hlen := hp.out
        have hkl := hk.out
        have HTL : Hid (L'.length = p - 1) := by show _ = _; rw [← hlen]; simp
        have HRL : Hid (RR N w (if ca = 1 then some ⟨g1, o1, none⟩ else some ⟨g1, o1 + 3, none⟩) L') := by
          split
          · refine ⟨fun j hj => ?_⟩
            have := HTL.out
            omega
          · exact rl.tail
        have HRk : Hid ((R ++ [X]).length = k + 1) := by show _ = _; rw [List.length_append, hkl]; rfl
        have OR3 : w3.ownsRow w.heap.size 38 3 (.slice b2 (k + 1) c2) (k + 1) (flatR N (R ++ [X])) := by
          rw [flatR_app]
          simpa [flatR] using OR2
        clear hlen hkl hg2 B2 ORd OR2
        go_roundw
        case rel => exact ⟨p - 1, 0, k + 1, ca - 1, cb, c2, _, _, b2, L', M, R ++ [X], xs', ys, zs ++ [s], rfl, rfl, rfl, HTL, hq, HRk, by omega, by omega, by omega, by omega, by have := HSUM.out; omega, HRL.out, rm, OR3, B3, (⟨tx, HX.out.2.1, HX.out.2.2.1.app mx, HMG.out, by have := HSUM.out; omega⟩ : _ ∧ _)⟩
        case measure => simp only; omega
    · obtain rfl : p = 0 := by omega
      by_cases hq0 : 0 < q
      · have hq0i : (0 : Int) < (q : Int) := by omega
        have hqb0 : ((q : Int) == 0) = false := by simp; omega
        obtain ⟨Y, M', u, ys', rfl, rfl⟩ := headR hq.out hq0 HX.out.2.1.len
        obtain ⟨g2, o2, rfl, y⟩ := rm.at_ 0 (by simp)
        have y2 := y.of_block (BR.block g2 y.lt)
        have gy : (Y :: M').getD 0 rm0 = Y := rfl
        rw [gy] at y y2
        obtain ⟨y0, y1, y2'⟩ := y2
        simp only [Nat.zero_mul, Nat.add_zero] at y0 y1 y2'
        obtain ⟨my, ty⟩ := HX.out.2.1.tail
        have e2 : Hid (Y.wt = (u.1 : Int)) := my.wt 0 (by simp)
        have HMG : Hid ((zs ++ [u]) ++ List.merge xs ys' leI = List.merge ts us leI) := mg_right HX.out.2.2.2.1 (fun s2 x2 e => by have h1 := HX.out.1.len; have h2 := hp.out; rw [e, h2] at h1; simp at h1)
        go_wp2_with fail
        go_quiet (fail)
        have ORd : (wr.drewN nq).ownsRow w.heap.size 38 3 (.slice o k co) k (flatR N R) := OR
        have BRd : Below w.heap.size w (wr.drewN nq) := ⟨BR.os, BR.tape, BR.output, BR.size, BR.block⟩
        have c0d : (wr.drewN nq).cell? ⟨g2, o2, none⟩ = some (.int .i64 Y.wt) := y0
        have c1d : (wr.drewN nq).cell? ⟨g2, o2 + 1, none⟩ = some (.bool Y.lf) := y1
        have c2d : (wr.drewN nq).cell? ⟨g2, o2 + 2, none⟩ = some (.slice (some ⟨Y.gc, 0, none⟩) N N) := y2'
        clear OR BR y0 y1 y2'
        generalize wr.drewN nq = w2 at *
        have hbs := BRd.size
        have hp1 : (1 : Int) ≤ (q : Int) := by omega
        have hp2 : (1 : Int) ≤ (cb : Int) := by omega
        have hpa2 : (q : Int) ≤ (cb : Int) := by omega
        go_wp2_with (at_builtin; refine wpList_app3 rfl (.tmp 41) (.tmp 45) 34 rfl w.heap.size 38 i0 _ 40 Try.underlying34 hi hz0 hz1 hz2 rfl (ORd.alloc _) (r := Rm.cells N Y) rfl (by simp [Rm.cells, Value.oneCell']) (new_cells3 w2 _ _ _ _) rfl rfl (by omega) (by omega) (by simp; omega) ?_; intro b2 c2 w3 OR2 hg2 B2)
        have B3 : Below w.heap.size w w3 := BRd.trans (((Below.refl _ _).alloc hbs _).trans B2)
        have hlen := hq.out
        have hkl := hk.out
        have HTL : Hid (M'.length = q - 1) := by show _ = _; rw [← hlen]; simp
        have HRL : Hid (RR N w (if cb = 1 then some ⟨g2, o2, none⟩ else some ⟨g2, o2 + 3, none⟩) M') := by
          split
          · refine ⟨fun j hj => ?_⟩
            have := HTL.out
            omega
          · exact rm.tail
        have HRk : Hid ((R ++ [Y]).length = k + 1) := by show _ = _; rw [List.length_append, hkl]; rfl
        have OR3 : w3.ownsRow w.heap.size 38 3 (.slice b2 (k + 1) c2) (k + 1) (flatR N (R ++ [Y])) := by
          rw [flatR_app]
          simpa [flatR] using OR2
        clear hlen hkl hg2 B2 ORd OR2
        go_roundw
        case rel => exact ⟨0, q - 1, k + 1, ca, cb - 1, c2, _, _, b2, L, M', R ++ [Y], xs, ys', zs ++ [u], rfl, rfl, rfl, hp, HTL, HRk, by omega, by omega, by omega, by omega, by have := HSUM.out; omega, rl, HRL.out, OR3, B3, (⟨HX.out.1, ty, HX.out.2.2.1.app my, HMG.out, by have := HSUM.out; omega⟩ : _ ∧ _)⟩
        case measure => simp only; omega
      · obtain rfl : q = 0 := by omega
        go_wp2
        go_ret
        obtain ⟨h1, h2, h3, h4, h5⟩ := HX.out
        have ex : xs = [] := List.eq_nil_of_length_eq_zero (by have := h1.len; have := hp.out; omega)
        have ey : ys = [] := List.eq_nil_of_length_eq_zero (by have := h2.len; have := hq.out; omega)
        subst ex ey
        have hml := h3.old (w' := wr) BR
        have h6 : zs = List.merge ts us leI := by rw [← h4]; simp
        rw [h6] at hml
        have hf := own_facts3 OR
        have hkl := hk.out
        exact ⟨o, co, R, by rw [hkl]; rfl, by omega, by omega, own_RR OR hkl, hml, BR⟩
end Go.Proofs.Ytfohapfdcdlpeaa
