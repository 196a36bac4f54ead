import Derived.Test.YtcifalelnfeggaaGreatDoorPo
import Derived.Test.YtcifalelnfeggaaGreatDoorPc
import Derived.Test.YtcifalelnfeggaaGreatDoorPk
import Derived.Laws.CopyOwn
import Derived.Test.YtcifalelnfeggaaGreatDoorPn
import Derived.Test.YtcifalelnfeggaaGreatDoorPl
namespace Go.Proofs.YtcifalelnfeggaaGreatDoor
open Go.RowKit
set_option linter.unusedVariables false

theorem mg_left {s : It} {xs ys zs R : List It} (h : zs ++ List.merge (s :: xs) ys leI = R) (hc : ∀ u ys', ys = u :: ys' → s.1 ≤ u.1) : (zs ++ [s]) ++ List.merge xs ys leI = R := by
  rw [← h]
  match ys, hc with
  | [], _ => simp
  | u :: ys', hc => rw [List.cons_merge_cons, if_pos (show leI s u = true by have := hc u ys' rfl; simp [leI]; omega)]; simp
theorem mg_right {u : It} {xs ys zs R : List It} (h : zs ++ List.merge xs (u :: ys) leI = R) (hc : ∀ s xs', xs = s :: xs' → ¬ s.1 ≤ u.1) : (zs ++ [u]) ++ List.merge xs ys leI = R := by
  rw [← h]
  match xs, hc with
  | [], _ => simp
  | s :: xs', hc => rw [List.cons_merge_cons, if_neg (show ¬ leI s u = true by have := hc s xs' rfl; simp [leI]; omega)]; simp
theorem headR {L : List Rm} {ts : List It} {p : Nat} (h : L.length = p) (h0 : 0 < p) (hl : L.length = ts.length) : ∃ X L' s ts', L = X :: L' ∧ ts = s :: ts' := by
  match L, ts, h, hl with
  | [], _, h, _ => simp at h; omega
  | X :: L', [], _, hl => simp at hl
  | X :: L', s :: ts', _, _ => exact ⟨X, L', s, ts', rfl, rfl⟩

set_option maxRecDepth 100000 in
set_option maxHeartbeats 2000000 in
theorem rmerged_any (N : Nat) (a b : Option Addr) (n m ca cb : Nat) (L M : List Rm) (ts us : List It) (w : World) (hn : Hid (L.length = n)) (hm : Hid (M.length = m)) (hR : RR N w a L) (hS : RR N w b M) (hL : M3 N w L ts) (hM : M3 N w M us)
    (hl : n ≤ 100000) (hl2 : m ≤ 100000) (hca : n ≤ ca) (hcb : m ≤ cb) :
    Calls Tryz.prog 72 #[.slice a n ca, .slice b m cb] w fun e w' => ∃ b' c' R, e = .returned (.slice b' R.length c') ∧ R.length = n + m ∧ R.length ≤ c' ∧ RR N w' b' R ∧ M3 N w' R (List.merge ts us leI) ∧ Below w.heap.size w w' := by
  obtain ⟨i0, hi, hz0, hz1, hz2⟩ := info_parts info_item3
  go_enter Tryz.func72, Tryz.ntmps72
  go_wp2_with fail
  go_loopw [0, 1, 5] (fun tl tp to wr => ∃ (p q k ca cb co : Nat) (a b o : Option Addr) (L M R : List Rm) (xs ys zs : List It), tl = .slice a p ca ∧ tp = .slice b q cb ∧ to = .slice o k co ∧ Hid (L.length = p) ∧ Hid (M.length = q) ∧ Hid (R.length = k) ∧ p ≤ ca ∧ q ≤ cb ∧ p ≤ 100000 ∧ q ≤ 100000 ∧ k ≤ 200000 ∧ RR N w a L ∧ RR N w b M ∧ wr.ownsRow w.heap.size 138 3 (.slice o k co) k (flatR N R) ∧ Below w.heap.size w wr ∧ Hid (M3 N w L xs ∧ M3 N w M ys ∧ M3 N w R zs ∧ zs ++ List.merge xs ys leI = List.merge ts us leI ∧ k + p + q = n + m)) (fun tl tp _ _ => (match tl with | .slice _ p _ => p | _ => 0) + (match tp with | .slice _ q _ => q | _ => 0))
  case atStart => exact ⟨n, m, 0, ca, cb, 0, a, b, none, L, M, [], ts, us, [], rfl, rfl, rfl, hn, hm, (rfl : _ = _), hca, hcb, hl, hl2, by omega, hR, hS, World.ownsRow_nil _ _ _ _, Below.refl _ _, (⟨hL, hM, M3.nil _ _, rfl, by omega⟩ : _ ∧ _)⟩
  case round =>
    obtain ⟨p, q, k, ca, cb, co, a, b, o, L, M, R, xs, ys, zs, rfl, rfl, rfl, hp, hq, hk, hpa, hqb, hp5, hq5, hk5, rl, rm, OR, BR, HX⟩ := hrel
    have hbs := BR.size
    have hsum : k + p + q = n + m := HX.out.2.2.2.2
    have HSUM : Hid (k + p + q = n + m) := hsum
    have hk6 : k ≤ 200000 := by omega
    clear hsum
    by_cases hp0 : 0 < p
    · have hp0i : (0 : Int) < (p : Int) := by omega
      obtain ⟨X, L', s, xs', rfl, rfl⟩ := headR hp.out hp0 HX.out.1.len
      obtain ⟨g1, o1, rfl, x⟩ := rl.at_ 0 (by simp)
      have x2 := x.of_block (BR.block g1 x.lt)
      have gx : (X :: L').getD 0 rm0 = X := rfl
      rw [gx] at x x2
      obtain ⟨x0, x1, x2'⟩ := x2
      simp only [Nat.zero_mul, Nat.add_zero] at x0 x1 x2'
      obtain ⟨mx, tx⟩ := HX.out.1.tail
      have e1 : Hid (X.wt = (s.1 : Int)) := mx.wt 0 (by simp)
      by_cases hq0 : 0 < q
      · have hq0i : (0 : Int) < (q : Int) := by omega
        have hqb0 : ((q : Int) == 0) = false := by simp; omega
        obtain ⟨Y, M', u, ys', rfl, rfl⟩ := headR hq.out hq0 HX.out.2.1.len
        obtain ⟨g2, o2, rfl, y⟩ := rm.at_ 0 (by simp)
        have y2 := y.of_block (BR.block g2 y.lt)
        have gy : (Y :: M').getD 0 rm0 = Y := rfl
        rw [gy] at y y2
        obtain ⟨y0, y1, y2'⟩ := y2
        simp only [Nat.zero_mul, Nat.add_zero] at y0 y1 y2'
        obtain ⟨my, ty⟩ := HX.out.2.1.tail
        have e2 : Hid (Y.wt = (u.1 : Int)) := my.wt 0 (by simp)
        by_cases hc : X.wt ≤ Y.wt
        · have HMG : Hid ((zs ++ [s]) ++ List.merge xs' (u :: ys') leI = List.merge ts us leI) := mg_left HX.out.2.2.2.1 (fun u2 y2 e => by cases e; have := e1.out; have := e2.out; omega)
          go_wp2_with fail
          go_quiet (fail)
          have ORd : (wr.drewN nq).ownsRow w.heap.size 138 3 (.slice o k co) k (flatR N R) := OR
          have BRd : Below w.heap.size w (wr.drewN nq) := ⟨BR.os, BR.tape, BR.output, BR.size, BR.block⟩
          have c0d : (wr.drewN nq).cell? ⟨g1, o1, none⟩ = some (.int .i64 X.wt) := x0
          have c1d : (wr.drewN nq).cell? ⟨g1, o1 + 1, none⟩ = some (.bool X.lf) := x1
          have c2d : (wr.drewN nq).cell? ⟨g1, o1 + 2, none⟩ = some (.slice (some ⟨X.gc, 0, none⟩) N N) := x2'
          clear OR BR x0 x1 x2'
          generalize wr.drewN nq = w2 at *
          have hbs := BRd.size
          have hp1 : (1 : Int) ≤ (p : Int) := by omega
          have hp2 : (1 : Int) ≤ (ca : Int) := by omega
          have hpa2 : (p : Int) ≤ (ca : Int) := by omega
          go_wp2_with (at_builtin; refine wpList_app3 rfl (.tmp 33) (.tmp 37) 135 rfl w.heap.size 138 i0 _ 40 Tryz.underlying135 hi hz0 hz1 hz2 rfl (ORd.alloc _) (r := Rm.cells N X) rfl (by simp [Rm.cells, Value.oneCell']) (new_cells3 w2 _ _ _ _) rfl rfl (by omega) (by omega) (by simp; omega) ?_; intro b2 c2 w3 OR2 hg2 B2)
          have B3 : Below w.heap.size w w3 := BRd.trans (((Below.refl _ _).alloc hbs _).trans B2)
          have hlen := hp.out
          have hkl := hk.out
          have HTL : Hid (L'.length = p - 1) := by show _ = _; rw [← hlen]; simp
          have HRL : Hid (RR N w (if ca = 1 then some ⟨g1, o1, none⟩ else some ⟨g1, o1 + 3, none⟩) L') := by
            split
            · refine ⟨fun j hj => ?_⟩
              have := HTL.out
              omega
            · exact rl.tail
          have HRk : Hid ((R ++ [X]).length = k + 1) := by show _ = _; rw [List.length_append, hkl]; rfl
          have OR3 : w3.ownsRow w.heap.size 138 3 (.slice b2 (k + 1) c2) (k + 1) (flatR N (R ++ [X])) := by
            rw [flatR_app]
            simpa [flatR] using OR2
          clear hlen hkl hg2 B2 ORd OR2
          go_roundw
          case rel => exact ⟨p - 1, q, k + 1, ca - 1, cb, c2, _, _, b2, L', Y :: M', R ++ [X], xs', u :: ys', zs ++ [s], rfl, rfl, rfl, HTL, hq, HRk, by omega, by omega, by omega, by omega, by have := HSUM.out; omega, HRL.out, rm, OR3, B3, (⟨tx, HX.out.2.1, HX.out.2.2.1.app mx, HMG.out, by have := HSUM.out; omega⟩ : _ ∧ _)⟩
          case measure => simp only; omega
        · have HMG : Hid ((zs ++ [u]) ++ List.merge (s :: xs') ys' leI = List.merge ts us leI) := mg_right HX.out.2.2.2.1 (fun s2 x2 e => by cases e; have := e1.out; have := e2.out; omega)
          go_wp2_with fail
          go_quiet (fail)
          have ORd : (wr.drewN nq).ownsRow w.heap.size 138 3 (.slice o k co) k (flatR N R) := OR
          have BRd : Below w.heap.size w (wr.drewN nq) := ⟨BR.os, BR.tape, BR.output, BR.size, BR.block⟩
          have c0d : (wr.drewN nq).cell? ⟨g2, o2, none⟩ = some (.int .i64 Y.wt) := y0
          have c1d : (wr.drewN nq).cell? ⟨g2, o2 + 1, none⟩ = some (.bool Y.lf) := y1
          have c2d : (wr.drewN nq).cell? ⟨g2, o2 + 2, none⟩ = some (.slice (some ⟨Y.gc, 0, none⟩) N N) := y2'
          clear OR BR y0 y1 y2'
          generalize wr.drewN nq = w2 at *
          have hbs := BRd.size
          have hp1 : (1 : Int) ≤ (q : Int) := by omega
          have hp2 : (1 : Int) ≤ (cb : Int) := by omega
          have hpa2 : (q : Int) ≤ (cb : Int) := by omega
          go_wp2_with (at_builtin; refine wpList_app3 rfl (.tmp 41) (.tmp 45) 135 rfl w.heap.size 138 i0 _ 40 Tryz.underlying135 hi hz0 hz1 hz2 rfl (ORd.alloc _) (r := Rm.cells N Y) rfl (by simp [Rm.cells, Value.oneCell']) (new_cells3 w2 _ _ _ _) rfl rfl (by omega) (by omega) (by simp; omega) ?_; intro b2 c2 w3 OR2 hg2 B2)
          have B3 : Below w.heap.size w w3 := BRd.trans (((Below.refl _ _).alloc hbs _).trans B2)
          have hlen := hq.out
          have hkl := hk.out
          have HTL : Hid (M'.length = q - 1) := by show _ = _; rw [← hlen]; simp
          have HRL : Hid (RR N w (if cb = 1 then some ⟨g2, o2, none⟩ else some ⟨g2, o2 + 3, none⟩) M') := by
            split
            · refine ⟨fun j hj => ?_⟩
              have := HTL.out
              omega
            · exact rm.tail
          have HRk : Hid ((R ++ [Y]).length = k + 1) := by show _ = _; rw [List.length_append, hkl]; rfl
          have OR3 : w3.ownsRow w.heap.size 138 3 (.slice b2 (k + 1) c2) (k + 1) (flatR N (R ++ [Y])) := by
            rw [flatR_app]
            simpa [flatR] using OR2
          clear hlen hkl hg2 B2 ORd OR2
          go_roundw
          case rel => exact ⟨p, q - 1, k + 1, ca, cb - 1, c2, _, _, b2, X :: L', M', R ++ [Y], s :: xs', ys', zs ++ [u], rfl, rfl, rfl, hp, HTL, HRk, by omega, by omega, by omega, by omega, by have := HSUM.out; omega, rl, HRL.out, OR3, B3, (⟨HX.out.1, ty, HX.out.2.2.1.app my, HMG.out, by have := HSUM.out; omega⟩ : _ ∧ _)⟩
          case measure => simp only; omega
      · obtain rfl : q = 0 := by omega
        have HMG : Hid ((zs ++ [s]) ++ List.merge xs' ys leI = List.merge ts us leI) := mg_left HX.out.2.2.2.1 (fun u2 y2 e => by have h1 := HX.out.2.1.len; have h2 := hq.out; rw [e, h2] at h1; simp at h1)
        go_wp2_with fail
        go_quiet (fail)
        have ORd : (wr.drewN nq).ownsRow w.heap.size 138 3 (.slice o k co) k (flatR N R) := OR
        have BRd : Below w.heap.size w (wr.drewN nq) := ⟨BR.os, BR.tape, BR.output, BR.size, BR.block⟩
        have c0d : (wr.drewN nq).cell? ⟨g1, o1, none⟩ = some (.int .i64 X.wt) := x0
        have c1d : (wr.drewN nq).cell? ⟨g1, o1 + 1, none⟩ = some (.bool X.lf) := x1
        have c2d : (wr.drewN nq).cell? ⟨g1, o1 + 2, none⟩ = some (.slice (some ⟨X.gc, 0, none⟩) N N) := x2'
        clear OR BR x0 x1 x2'
        generalize wr.drewN nq = w2 at *
        have hbs := BRd.size
        have hp1 : (1 : Int) ≤ (p : Int) := by omega
        have hp2 : (1 : Int) ≤ (ca : Int) := by omega
        have hpa2 : (p : Int) ≤ (ca : Int) := by omega
        go_wp2_with (at_builtin; refine wpList_app3 rfl (.tmp 33) (.tmp 37) 135 rfl w.heap.size 138 i0 _ 40 Tryz.underlying135 hi hz0 hz1 hz2 rfl (ORd.alloc _) (r := Rm.cells N X) rfl (by simp [Rm.cells, Value.oneCell']) (new_cells3 w2 _ _ _ _) rfl rfl (by omega) (by omega) (by simp; omega) ?_; intro b2 c2 w3 OR2 hg2 B2)
        have B3 : Below w.heap.size w w3 := BRd.trans (((Below.refl _ _).alloc hbs _).trans B2)
        have hlen := hp.out
        have hkl := hk.out
        have HTL : Hid (L'.length = p - 1) := by show _ = _; rw [← hlen]; simp
        have HRL : Hid (RR N w (if ca = 1 then some ⟨g1, o1, none⟩ else some ⟨g1, o1 + 3, none⟩) L') := by
          split
          · refine ⟨fun j hj => ?_⟩
            have := HTL.out
            omega
          · exact rl.tail
        have HRk : Hid ((R ++ [X]).length = k + 1) := by show _ = _; rw [List.length_append, hkl]; rfl
        have OR3 : w3.ownsRow w.heap.size 138 3 (.slice b2 (k + 1) c2) (k + 1) (flatR N (R ++ [X])) := by
          rw [flatR_app]
          simpa [flatR] using OR2
        clear hlen hkl hg2 B2 ORd OR2
        go_roundw
        case rel => exact ⟨p - 1, 0, k + 1, ca - 1, cb, c2, _, _, b2, L', M, R ++ [X], xs', ys, zs ++ [s], rfl, rfl, rfl, HTL, hq, HRk, by omega, by omega, by omega, by omega, by have := HSUM.out; omega, HRL.out, rm, OR3, B3, (⟨tx, HX.out.2.1, HX.out.2.2.1.app mx, HMG.out, by have := HSUM.out; omega⟩ : _ ∧ _)⟩
        case measure => simp only; omega
    · obtain rfl : p = 0 := by omega
      by_cases hq0 : 0 < q
      · have hq0i : (0 : Int) < (q : Int) := by omega
        have hqb0 : ((q : Int) == 0) = false := by simp; omega
        obtain ⟨Y, M', u, ys', rfl, rfl⟩ := headR hq.out hq0 HX.out.2.1.len
        obtain ⟨g2, o2, rfl, y⟩ := rm.at_ 0 (by simp)
        have y2 := y.of_block (BR.block g2 y.lt)
        have gy : (Y :: M').getD 0 rm0 = Y := rfl
        rw [gy] at y y2
        obtain ⟨y0, y1, y2'⟩ := y2
        simp only [Nat.zero_mul, Nat.add_zero] at y0 y1 y2'
        obtain ⟨my, ty⟩ := HX.out.2.1.tail
        have e2 : Hid (Y.wt = (u.1 : Int)) := my.wt 0 (by simp)
        have HMG : Hid ((zs ++ [u]) ++ List.merge xs ys' leI = List.merge ts us leI) := mg_right HX.out.2.2.2.1 (fun s2 x2 e => by have h1 := HX.out.1.len; have h2 := hp.out; rw [e, h2] at h1; simp at h1)
        go_wp2_with fail
        go_quiet (fail)
        have ORd : (wr.drewN nq).ownsRow w.heap.size 138 3 (.slice o k co) k (flatR N R) := OR
        have BRd : Below w.heap.size w (wr.drewN nq) := ⟨BR.os, BR.tape, BR.output, BR.size, BR.block⟩
        have c0d : (wr.drewN nq).cell? ⟨g2, o2, none⟩ = some (.int .i64 Y.wt) := y0
        have c1d : (wr.drewN nq).cell? ⟨g2, o2 + 1, none⟩ = some (.bool Y.lf) := y1
        have c2d : (wr.drewN nq).cell? ⟨g2, o2 + 2, none⟩ = some (.slice (some ⟨Y.gc, 0, none⟩) N N) := y2'
        clear OR BR y0 y1 y2'
        generalize wr.drewN nq = w2 at *
        have hbs := BRd.size
        have hp1 : (1 : Int) ≤ (q : Int) := by omega
        have hp2 : (1 : Int) ≤ (cb : Int) := by omega
        have hpa2 : (q : Int) ≤ (cb : Int) := by omega
        go_wp2_with (at_builtin; refine wpList_app3 rfl (.tmp 41) (.tmp 45) 135 rfl w.heap.size 138 i0 _ 40 Tryz.underlying135 hi hz0 hz1 hz2 rfl (ORd.alloc _) (r := Rm.cells N Y) rfl (by simp [Rm.cells, Value.oneCell']) (new_cells3 w2 _ _ _ _) rfl rfl (by omega) (by omega) (by simp; omega) ?_; intro b2 c2 w3 OR2 hg2 B2)
        have B3 : Below w.heap.size w w3 := BRd.trans (((Below.refl _ _).alloc hbs _).trans B2)
        have hlen := hq.out
        have hkl := hk.out
        have HTL : Hid (M'.length = q - 1) := by show _ = _; rw [← hlen]; simp
        have HRL : Hid (RR N w (if cb = 1 then some ⟨g2, o2, none⟩ else some ⟨g2, o2 + 3, none⟩) M') := by
          split
          · refine ⟨fun j hj => ?_⟩
            have := HTL.out
            omega
          · exact rm.tail
        have HRk : Hid ((R ++ [Y]).length = k + 1) := by show _ = _; rw [List.length_append, hkl]; rfl
        have OR3 : w3.ownsRow w.heap.size 138 3 (.slice b2 (k + 1) c2) (k + 1) (flatR N (R ++ [Y])) := by
          rw [flatR_app]
          simpa [flatR] using OR2
        clear hlen hkl hg2 B2 ORd OR2
        go_roundw
        case rel => exact ⟨0, q - 1, k + 1, ca, cb - 1, c2, _, _, b2, L, M', R ++ [Y], xs, ys', zs ++ [u], rfl, rfl, rfl, hp, HTL, HRk, by omega, by omega, by omega, by omega, by have := HSUM.out; omega, rl, HRL.out, OR3, B3, (⟨HX.out.1, ty, HX.out.2.2.1.app my, HMG.out, by have := HSUM.out; omega⟩ : _ ∧ _)⟩
        case measure => simp only; omega
      · obtain rfl : q = 0 := by omega
        go_wp2
        go_ret
        obtain ⟨h1, h2, h3, h4, h5⟩ := HX.out
        have ex : xs = [] := List.eq_nil_of_length_eq_zero (by have := h1.len; have := hp.out; omega)
        have ey : ys = [] := List.eq_nil_of_length_eq_zero (by have := h2.len; have := hq.out; omega)
        subst ex ey
        have hml := h3.old (w' := wr) BR
        have h6 : zs = List.merge ts us leI := by rw [← h4]; simp
        rw [h6] at hml
        have hf := own_facts3 OR
        have hkl := hk.out
        exact ⟨o, co, R, by rw [hkl]; rfl, by omega, by omega, own_RR OR hkl, hml, BR⟩
end Go.Proofs.YtcifalelnfeggaaGreatDoor

namespace Go.Proofs.YtcifalelnfeggaaGreatDoor
open Go.RowKit
set_option linter.unusedVariables false

set_option maxRecDepth 100000 in
theorem wrong_any (a : Option Addr) (zs : List Int) (cap : Nat) (w : World) (hs : SegZ w a zs) (hl : zs.length ≤ 9223372036854775807) :
    Calls Tryz.prog 70 #[.slice a zs.length cap] w fun e w' => e = .returned (.int .i64 (errOf zs)) ∧ Below w.heap.size w w' := by
  by_cases hm : 288 < zs.length
  · have hmi : (288 : Int) < (zs.length : Int) := by omega
    have HE : Hid (errOf zs = 40) := errOf_many hm
    go_enter Tryz.func70, Tryz.ntmps70
    go_wp2
    go_ret
    exact ⟨by rw [HE.out] <;> rfl, Below.refl _ _⟩
  · have hmi : ¬ (288 : Int) < (zs.length : Int) := by omega
    go_enter Tryz.func70, Tryz.ntmps70
    go_wp2
    go_loopw [3] (fun ti wr => ∃ k : Nat, k ≤ zs.length ∧ ti = .int .i64 k ∧ Hid ((zs.take k).all okF = true) ∧ Below w.heap.size w wr) (fun ti _ => zs.length - (intOf ti).toNat)
    case atStart => exact ⟨0, Nat.zero_le _, rfl, (by simp : _ = _), Below.refl _ _⟩
    case round =>
      obtain ⟨k, hk, rfl, HA, hb⟩ := hrel
      have hs := hs.old hb
      by_cases h1 : k < zs.length
      · have h1i : (k : Int) < (zs.length : Int) := by omega
        obtain ⟨b1, o1, rfl, c1⟩ := hs.at_ k h1
        have b1 := hs.bd k
        have HB : Hid (¬ (0 ≤ zs.getD k 0 ∧ zs.getD k 0 ≤ 1099511627776) → errOf zs = 42) := errOf_bad hm h1
        have HC : Hid ((0 ≤ zs.getD k 0 ∧ zs.getD k 0 ≤ 1099511627776) → (zs.take (k + 1)).all okF = true) := all_snoc h1 HA.out
        generalize zs.getD k 0 = z at *
        by_cases h0 : z < 0
        · go_wp2
          go_ret
          exact ⟨by rw [HB.out (by omega)] <;> rfl, hb⟩
        · by_cases h4 : 1099511627776 < z
          · go_wp2
            go_ret
            exact ⟨by rw [HB.out (by omega)] <;> rfl, hb⟩
          · go_wp2
            go_roundw
            case rel => exact ⟨k + 1, by omega, by go_num, HC.out (by omega), hb⟩
            case measure => simp [intOf]; omega
      · obtain rfl : k = zs.length := by omega
        have HE : Hid (errOf zs = 0) := errOf_ok hm HA.out
        clear h1
        go_wp2
        go_ret
        exact ⟨by rw [HE.out] <;> rfl, hb⟩
end Go.Proofs.YtcifalelnfeggaaGreatDoor

namespace Go.Proofs.YtcifalelnfeggaaGreatDoor
open Go.RowKit
set_option linter.unusedVariables false

theorem lensL_cnt {zs : List Int} (he : errOf zs = 0) {lim : Nat} (h1 : 1 ≤ lim) (hl : nUse zs ≤ 2 ^ lim) (hn : 2 ≤ nUse zs) : lensL lim zs = cntR zs.length (taken (LFz zs) lim) :=
  cnt_eq (lens_len lim) (fun i _ => by rw [lens_get he h1 hl hn i]; rfl)
theorem info_szI : (Tryz.prog.info? 3).map (·.size) = some 1 := by kernel_rfl
theorem cnt_bd (N : Nat) (l : List Nat) (h : l.length ≤ 4611686018427387904) : ∀ z ∈ cntR N l, -9223372036854775808 ≤ z ∧ z ≤ 9223372036854775807 := fun z hz => by
  unfold cntR at hz
  obtain ⟨q, _, rfl⟩ := List.mem_map.1 hz
  have h5 : l.count q ≤ l.length := List.count_le_length
  omega
theorem row_len2 {F : List It} {m : Nat} (hF : F.length = m) (k : Nat) : (row F k).length ≤ 2 * m := by rw [← hF]; exact row_len_le F k

theorem pk_ne : ∀ l : List It, (∀ t ∈ l, t.2 ≠ []) → ∀ t ∈ pk l, t.2 ≠ []
  | [], _ => by simp [pk]
  | [_], _ => by simp [pk]
  | a :: b :: r, h => by
    intro t ht
    simp only [pk, List.mem_cons] at ht
    rcases ht with rfl | ht
    · have := h a (by simp)
      simp [this]
    · exact pk_ne r (fun x hx => h x (by simp [hx])) t ht
theorem row_ne (F : List It) (h : ∀ t ∈ F, t.2 ≠ []) : ∀ k, ∀ t ∈ row F k, t.2 ≠ []
  | 0, t, ht => h t ht
  | k + 1, t, ht => by
    simp only [row] at ht
    rcases List.mem_append.1 ((List.merge_perm_append _).mem_iff.1 ht) with ht | ht
    · exact h t ht
    · exact pk_ne _ (row_ne F h k) t ht
theorem not_zero_row {w : World} {o n N g off : Nat} {x : Rm} (h : w.heap[o]? = some (.cells (Array.replicate n (.int .i64 0)) 3 (0, 0))) (hx : R3At N w g off x) : g ≠ o := by
  intro e
  subst e
  have h1 := hx.c1
  rw [cell_of_row w g (off + 1) _ _ (0, 0) h] at h1
  rw [Array.getElem?_replicate] at h1
  split at h1 <;> simp at h1
theorem not_zero_counts {w : World} {o n gc : Nat} {l : List Nat} (h : w.heap[o]? = some (.cells (Array.replicate n (.int .i64 0)) 3 (0, 0))) (hs : SegZ w (some ⟨gc, 0, none⟩) (cntR n l)) (hne : l ≠ []) (hsym : ∀ s ∈ l, s < n) : gc ≠ o := by
  intro e
  subst e
  obtain ⟨s, hsm⟩ := List.exists_mem_of_ne_nil l hne
  have hsn := hsym s hsm
  obtain ⟨b, off, e, hc⟩ := hs.at_ s (by rw [cnt_len]; exact hsn)
  cases e
  rw [cnt_get l hsn, Nat.zero_add, cell_of_row w gc s _ _ (0, 0) h, Array.getElem?_replicate, if_pos hsn] at hc
  have h1 : 0 < l.count s := List.count_pos_iff.2 hsm
  simp only [Option.some.injEq, Value.int.injEq, true_and] at hc
  omega
theorem flat_snoc (T : List It) {i : Nat} (hi : i < T.length) (s : Nat) : ((T.take (i + 1)).flatMap (·.2)).count s = ((T.take i).flatMap (·.2)).count s + (T.getD i it0).2.count s := by
  have : T.take (i + 1) = T.take i ++ [T.getD i it0] := by
    rw [List.take_add_one, List.getElem?_eq_getElem hi]
    simp [List.getD, hi]
  rw [this, List.flatMap_append, List.count_append]
  simp
/-- What the rows of the document's reckoning hold. -/
structure RowsOk (F : List It) (n : Nat) : Prop where
  wt : ∀ k, k ≤ 14 → ∀ t ∈ row F k, t.1 ≤ 1152921504606846976 ∧ t.2.length ≤ 16384
  sym : ∀ k, ∀ t ∈ row F k, ∀ s ∈ t.2, s < n
  ne : ∀ k, ∀ t ∈ row F k, t.2 ≠ []
theorem rowsOk {zs : List Int} (hbx : ∀ i, 0 ≤ zs.getD i 0 ∧ zs.getD i 0 ≤ 1099511627776) : RowsOk (itF (LFz zs)) zs.length := by
  have hF : ∀ t ∈ itF (LFz zs), t.1 ≤ 1099511627776 ∧ t.2.length ≤ 1 ∧ (∀ s ∈ t.2, s < zs.length) ∧ t.2 ≠ [] := fun t ht => by
    unfold itF at ht
    obtain ⟨x, hx, rfl⟩ := List.mem_map.1 ht
    have h3 := LF_mem (fun i => (hbx i).1) hx
    have h4 := hbx x.2
    exact ⟨by simp only; omega, by simp, fun s hs => by simp at hs; subst hs; exact h3.1, by simp⟩
  refine ⟨fun k hk t ht => ?_, fun k => row_sym _ (fun s => s < zs.length) (fun t ht => (hF t ht).2.2.1) k, row_ne _ (fun t ht => (hF t ht).2.2.2)⟩
  have h2 := row_le _ 1099511627776 (fun t ht => (hF t ht).1) k t ht
  have h3 := pow14 ⟨k, by omega⟩
  simp only at h3
  have h4 := row_sl _ (fun t ht => (hF t ht).2.1) k t ht
  refine ⟨?_, by omega⟩
  have h5 := Nat.mul_le_mul_left 1099511627776 h3
  omega

/-- As LenQ; and the answer's row is no elder block. -/
theorem lensR_leN (lim : Int) (zs : List Int) : (lensR lim zs).length ≤ zs.length := by
  unfold lensR
  split
  · rw [lens_len]; exact Nat.le_refl _
  · exact Nat.zero_le _
def LenF (w : World) (lim : Int) (zs : List Int) (e : Ending) (w' : World) : Prop := ∃ b c, e = .returned (.tuple #[.slice b (lensR lim zs).length c, .int .i64 (errL lim zs)]) ∧ SegZ w' b (lensR lim zs) ∧ (∀ x, b = some x → w.heap.size ≤ x.block ∧ (lensR lim zs).length ≤ c) ∧ Below w.heap.size w w'
set_option maxRecDepth 100000 in
set_option maxHeartbeats 8000000 in
theorem rlengths_ok (lim : Nat) (a : Option Addr) (zs : List Int) (n cap : Nat) (hn : Hid (zs.length = n)) (w : World) (hs : SegZ w a zs) (h1 : 1 ≤ lim) (h15 : lim ≤ 15) (he : errOf zs = 0) :
    Calls Tryz.prog 49 #[.int .i64 lim, .slice a n cap] w fun e w' => LenF w lim zs e w' := by
  obtain ⟨h288, hbx⟩ := errOf_zero he
  have hn288 : n ≤ 288 := by have := hn.out; omega
  have HC : Hid (∀ W, SegZ W a zs → Calls Tryz.prog 70 #[.slice a n cap] W fun e w' => e = .returned (.int .i64 0) ∧ Below W.heap.size W w') := fun W hW => by
    have := wrong_any a zs cap W hW (by have := hn.out; omega)
    rw [he, hn.out] at this
    exact this
  have HE : Hid (errOf zs = 0) := he
  clear he h288
  have l1 : ¬ (lim : Int) < 1 := by omega
  have l2 : ¬ (15 : Int) < (lim : Int) := by omega
  go_enter Tryz.func49, Tryz.ntmps49
  go_wp2_with fail
  refine (HC.out _ hs).mono ?_
  rintro e w0 ⟨rfl, B0⟩
  go_wp2_with fail
  refine (rleaves_any a zs n cap hn w0 (hs.old B0) hn288 (fun i => (hbx i).1)).mono ?_
  rintro e w1 ⟨b, c, L, rfl, hLF, hLc, RL1, ML1, B1'⟩
  have B1 : Below w.heap.size w w1 := B0.trans (B1'.mono B0.size)
  obtain ⟨m, hm⟩ : ∃ m, m = L.length := ⟨_, rfl⟩
  have HL : Hid (L.length = m) := hm.symm
  have HNU : Hid (nUse zs = m) := by show _ = _; unfold nUse; omega
  have HFL : Hid ((itF (LFz zs)).length = m) := by show _ = _; rw [itF_len]; omega
  rw [← hm] at hLc ⊢
  have hm288 : m ≤ 288 := by
    have h3 := nUse_us zs
    have h4 : (usI zs zs.length).length ≤ zs.length := by unfold usI; have := List.length_filter_le (fun i => decide (zs.getD i 0 ≠ 0)) (List.range zs.length); simpa using this
    have := HNU.out
    have := hn.out
    omega
  obtain ⟨P, hP⟩ : ∃ P : Nat, P = 2 ^ lim := ⟨_, rfl⟩
  have hPb : P ≤ 32768 := by rw [hP]; exact Nat.le_trans (Nat.pow_le_pow_right (by decide) h15) (by decide)
  have hPw : RowKit.wrap64 ((2 : Int) ^ lim) = (P : Int) := by
    have e : ((2 : Int) ^ lim) = (P : Int) := by rw [hP]; exact (Int.natCast_pow 2 lim).symm
    rw [e, ← IntWalk.i64_left]
    exact IntWalk.i64_in _ (by omega)
  have HPP : Hid (P = 2 ^ lim) := hP
  have hlw : IntKind.u64.wrap (lim : Int) = (lim : Int) := IntWalk.u64_in _ (by omega)
  clear hP hm B1' B0 HC hLF
  by_cases hmP : P < m
  · have hmPi : (P : Int) < (m : Int) := by omega
    have HER : Hid (errL lim zs = 41 ∧ lensR lim zs = []) := by
      have e1 : errL lim zs = 41 := by
        unfold errL
        rw [if_neg (by omega), if_pos HE.out, if_pos (by rw [HNU.out, Int.toNat_natCast, ← HPP.out]; exact hmP)]
      exact ⟨e1, by unfold lensR; rw [e1]; rfl⟩
    go_wp2_with fail
    go_ret2
    exact ⟨none, 0, by rw [HER.out.1, HER.out.2]; rfl, by rw [HER.out.2]; exact SegZ.nil _ _, (fun _ h => by cases h), B1⟩
  · have hmPi : ¬ (P : Int) < (m : Int) := by omega
    have HER : Hid (errL lim zs = 0 ∧ lensR lim zs = lensL lim zs) := by
      have e1 : errL lim zs = 0 := by
        unfold errL
        rw [if_neg (by omega), if_pos HE.out, if_neg (by rw [HNU.out, Int.toNat_natCast, ← HPP.out]; exact hmP)]
      exact ⟨e1, by unfold lensR; rw [if_pos e1, Int.toNat_natCast]⟩
    have hmk := run_make_ints n (by omega) w1
    have O2 := own_zeros w1 n (by omega)
    have h2g : (w1.alloc (.cells (Array.replicate n (.int .i64 0)) 3)).heap[w1.heap.size]? = some (.cells (Array.replicate n (.int .i64 0)) 3 (0, 0)) := heap_alloc_new w1 _
    have B2 : Below w1.heap.size w1 (w1.alloc (.cells (Array.replicate n (.int .i64 0)) 3)) := (Below.refl _ _).alloc (Nat.le_refl _) _
    have hsz2 : w1.heap.size < (w1.alloc (.cells (Array.replicate n (.int .i64 0)) 3)).heap.size := by simp
    obtain ⟨o, ho⟩ : ∃ o, o = w1.heap.size := ⟨_, rfl⟩
    have HO : Hid (o = w1.heap.size ∧ w.heap.size ≤ o) := ⟨ho, by have := B1.size; omega⟩
    have RL2 := RL1.old B2
    have ML2 := ML1.old B2
    generalize w1.alloc (.cells (Array.replicate n (.int .i64 0)) 3) = w2 at *
    rw [← ho] at O2 hmk hsz2 h2g
    have B12 : Below w.heap.size w w2 := B1.trans (B2.mono B1.size)
    have hzb : ∀ z ∈ List.replicate n (0 : Int), -9223372036854775808 ≤ z ∧ z ≤ 9223372036854775807 := fun z hz => by obtain ⟨_, rfl⟩ := List.mem_replicate.1 hz; omega
    clear ho RL1 ML1 B2 B1
    by_cases hm0 : m = 0
    · subst hm0
      have HLL : Hid (lensL lim zs = List.replicate n 0) := by show _ = _; unfold lensL; rw [if_pos HNU.out, hn.out]
      go_wp2_with fail
      go_ret2
      refine ⟨some ⟨o, 0, none⟩, n, ?_, ?_, (fun _ h => by cases h; exact ⟨HO.out.2, Nat.le_trans (lensR_leN _ _) (Nat.le_of_eq hn.out)⟩), B12⟩
      · rw [HER.out.1, HER.out.2, HLL.out, List.length_replicate]; rfl
      · rw [HER.out.2, HLL.out]
        exact own_segZ O2 hzb
    · by_cases hm1 : m = 1
      · subst hm1
        have hl1 : L.length = 1 := HL.out
        obtain ⟨g, off, rfl, it⟩ := RL2.at_ 0 (by omega)
        have SG := ML2.seg 0 (by omega)
        obtain ⟨x, hx⟩ := List.length_eq_one_iff.1 (show (LFz zs).length = 1 from HNU.out)
        have hxm : x ∈ LFz zs := by rw [hx]; simp
        have hxs := (LF_mem (fun i => (hbx i).1) hxm).1
        have HLL : Hid (lensL lim zs = cntR n [x.2]) := by
          show _ = _
          unfold lensL
          rw [if_neg (by rw [HNU.out]; decide), if_pos HNU.out, hx, hn.out]
          show (List.replicate n (0 : Int)).set x.2 1 = cntR n [x.2]
          exact unit_cnt (by have := hn.out; omega)
        have e1 : (itF (LFz zs)).getD 0 it0 = (x.1, [x.2]) := by rw [hx]; rfl
        rw [e1] at SG
        simp only at SG
        have c2 := it.c2
        simp only [Nat.zero_mul, Nat.add_zero] at c2
        generalize (L.getD 0 rm0).gc = gc at *
        have hcl := cnt_len n [x.2]
        have HX : Hid (∀ j v, ((cntR n [x.2]).map (Value.int .i64))[j]? = some v → w2.cell? ((⟨gc, 0, none⟩ : Addr).add j) = some v) := segZ_cells SG
        have HB : Hid (∀ z ∈ cntR n [x.2], -9223372036854775808 ≤ z ∧ z ≤ 9223372036854775807) := cnt_bd n [x.2] (by simp)
        generalize cntR n [x.2] = CN at *
        have HCL : Hid (CN.length = n) := hcl
        clear hcl hxs hxm hx e1 SG it RL2 ML2 HL hl1
        have h2l : w2.heap[o]? = some (.cells (List.replicate n (Value.int .i64 0)).toArray 3 (0, 0)) := by rw [h2g]; congr 2
        go_wp2_with (refine wpList_copy_splice rfl (.tmp 39) (.tmp 43) 39 39 rfl 3 Tryz.underlying39 info_szI (some ⟨o, 0, none⟩) (some ⟨gc, 0, none⟩) n n n n rfl rfl o 0 (List.replicate n (Value.int .i64 0)) 3 h2l (CN.map (Value.int .i64)) (by have := HCL.out; simp [this]) (fun _ => ⟨rfl, _, rfl, HX.out⟩) (by have := HCL.out; simp [this]) (ints_oneCell _ _) o w2 (Below.refl _ _) (Nat.le_refl _) ?_; intro w3 HW3 bw3)
        go_ret2
        have hsp : splice (List.replicate n (Value.int .i64 0)) 0 (CN.map (Value.int .i64)) = CN.map (Value.int .i64) := by
          have := HCL.out
          unfold splice
          simp [this]
        have hw3 := HW3.out
        rw [hsp] at hw3
        refine ⟨some ⟨o, 0, none⟩, n, ?_, ?_, (fun _ h => by cases h; exact ⟨HO.out.2, Nat.le_trans (lensR_leN _ _) (Nat.le_of_eq hn.out)⟩), B12.trans (bw3.mono HO.out.2)⟩
        · rw [HER.out.1, HER.out.2, HLL.out, HCL.out]; rfl
        · rw [HER.out.2, HLL.out]
          refine ⟨fun j hj => ⟨o, 0, rfl, ?_⟩, getD_bdz HB.out⟩
          rw [cell_of_row w3 o (0 + j) _ _ (0, 0) hw3, Nat.zero_add]
          simp [List.getD, hj]
      · have hm2 : 2 ≤ m := by omega
        have HROK : Hid (RowsOk (itF (LFz zs)) n) := by
          have := rowsOk hbx
          rw [hn.out] at this
          exact this
        obtain ⟨q, hq⟩ : ∃ q, q = 2 * m - 2 := ⟨_, rfl⟩
        have rq : 2 * (m : Int) - 2 = (q : Int) := by omega
        have HQ : Hid (q = 2 * m - 2) := hq
        have hqm : m ≤ q := by omega
        have hq576 : q ≤ 576 := by omega
        have HTK : Hid (taken (LFz zs) lim = ((row (itF (LFz zs)) (lim - 1)).take q).flatMap (·.2)) := by
          show _ = _
          unfold taken
          rw [hq, show (LFz zs).length = m from HNU.out]
        have HHAS : Hid (q ≤ (row (itF (LFz zs)) (lim - 1)).length) := by
          have h3 := row_has (itF (LFz zs)) lim h1 (by rw [HFL.out, ← HPP.out]; omega)
          rw [HFL.out, ← hq] at h3
          exact h3
        have HLL : Hid (lensL lim zs = cntR n (((row (itF (LFz zs)) (lim - 1)).take q).flatMap (·.2))) := by
          show _ = _
          rw [← HTK.out, lensL_cnt HE.out h1 (by rw [HNU.out, ← HPP.out]; omega) (by rw [HNU.out]; exact hm2), hn.out]
        have HCUT : Hid (∀ k, List.merge (itF (LFz zs)) (pk ((row (itF (LFz zs)) k).take q)) leI = row (itF (LFz zs)) (k + 1)) := fun k => by
          have := row_cut (itF (LFz zs)) (by rw [HFL.out]; exact hm2) k
          rw [HFL.out, ← hq] at this
          exact this
        have HLTK : Hid ((itF (LFz zs)).take q = itF (LFz zs)) := List.take_of_length_le (by rw [HFL.out]; exact hqm)
        generalize itF (LFz zs) = F at *
        have hmi1 : ¬ (m : Int) = 1 := by omega
        have hmi2 : ¬ (m : Int) < 2 := by omega
        clear hq hbx
        go_wp2_with fail
        rw [show ((m : Int) == 1) = false from by simp; omega, show decide ((m : Int) < 2) = false from by simp; omega]
        clear hmPi hmi1 hmi2 hPw hlw l1 l2 hmk hm0 hm1
        go_loopw [10, 11] (fun trow ti wr => ∃ (j r rc : Nat) (rb : Option Addr) (R : List Rm), 1 ≤ j ∧ j ≤ lim ∧ ti = .int .i64 (j : Int) ∧ trow = .slice rb r rc ∧ Hid (R.length = r) ∧ r ≤ rc ∧ r ≤ q ∧ RR n wr rb R ∧ Hid (M3 n wr R ((row F (j - 1)).take q)) ∧ Below w2.heap.size w2 wr) (fun _ ti _ => lim - (intOf ti).toNat)
        case atStart => exact ⟨1, m, c, b, L, by omega, by omega, rfl, rfl, HL, hLc, hqm, RL2, (by show M3 n w2 L ((row F 0).take q); rw [show (row F 0).take q = F from HLTK.out]; exact ML2), Below.refl _ _⟩
        case round =>
          obtain ⟨j, r, rc, rb, R, hj1, hjl, rfl, rfl, HR, hrc, hrq, RRj, HMj, Bj⟩ := hrel
          by_cases hjlt : j < lim
          · have hjli : (j : Int) < (lim : Int) := by omega
            have CPk := rpacked_any n hn288 rb r rc R ((row F (j - 1)).take q) wr HR RRj HMj.out (fun t ht => by
              have := HROK.out.wt (j - 1) (by omega) t (List.mem_of_mem_take ht)
              omega) (by omega)
            go_wp2_with fail
            refine CPk.mono ?_
            rintro e w4 ⟨b1, c1, L1, rfl, hL1, hL1c, RR1, MM1, B4⟩
            have HL1 : Hid (L1.length = r / 2) := hL1
            have RRL := (RL2.old Bj).old B4
            have MML := (ML2.old Bj).old B4
            have CMg := rmerged_any n b b1 m (r / 2) c c1 L L1 F (pk ((row F (j - 1)).take q)) w4 HL HL1 RRL RR1 MML MM1 (by omega) (by omega) hLc (by omega)
            rw [hL1]
            rw [HCUT.out, show j - 1 + 1 = j by omega] at CMg
            clear CPk RR1 MM1 hL1
            have B24 : Below w2.heap.size w2 w4 := Bj.trans (B4.mono Bj.size)
            go_wp2_with fail
            refine CMg.mono ?_
            rintro e w5 ⟨b2, c2, R2, rfl, hR2, hR2c, RR2, MM2, B5⟩
            have B25 : Below w2.heap.size w2 w5 := B24.trans (B5.mono B24.size)
            obtain ⟨r2, hr2⟩ : ∃ r2, r2 = R2.length := ⟨_, rfl⟩
            have HR2 : Hid (R2.length = r2) := hr2.symm
            rw [← hr2] at hR2c hR2 ⊢
            have hr2b : r2 ≤ 1000 := by omega
            clear hr2 CMg RRL MML HL1 hR2
            have hjj : Hid (j + 1 - 1 = j) := by show _ = _; omega
            by_cases hcut : q < r2
            · have hcuti : (q : Int) < (r2 : Int) := by omega
              have hqc : (q : Int) ≤ (c2 : Int) := by omega
              have hq0 : (0 : Int) ≤ (q : Int) := by omega
              go_wp2_with fail
              go_roundw
              case rel => exact ⟨j + 1, q, c2, b2, R2.take q, by omega, by omega, by go_num, rfl, (by show _ = _; rw [List.length_take, HR2.out]; omega), by omega, Nat.le_refl _, RR2.take q, (by show M3 _ _ _ _; rw [hjj.out]; exact MM2.take q), B25⟩
              case measure => simp [intOf]; omega
            · have hcuti : ¬ (q : Int) < (r2 : Int) := by omega
              have HTA : Hid ((row F j).take q = row F j) := List.take_of_length_le (by have := MM2.len; have := HR2.out; omega)
              go_wp2_with fail
              go_roundw
              case rel => exact ⟨j + 1, r2, c2, b2, R2, by omega, by omega, by go_num, rfl, HR2, hR2c, by omega, RR2, (by show M3 _ _ _ _; rw [hjj.out, HTA.out]; exact MM2), B25⟩
              case measure => simp [intOf]; omega
          · obtain rfl : j = lim := by omega
            have HTL : Hid (((row F (j - 1)).take q).length = q) := by show _ = _; rw [List.length_take]; have := HHAS.out; omega
            have hwo : wr.heap[o]? = some (.cells (Array.replicate n (.int .i64 0)) 3 (0, 0)) := (Bj.block o hsz2).trans h2g
            have Oj := own_below O2 Bj
            have HTW : Hid (∀ t ∈ (row F (j - 1)).take q, t.2.length ≤ 16384 ∧ t.2 ≠ [] ∧ ∀ s ∈ t.2, s < n) := fun t ht => ⟨(HROK.out.wt (j - 1) (by omega) t (List.mem_of_mem_take ht)).2, HROK.out.ne (j - 1) t (List.mem_of_mem_take ht), HROK.out.sym (j - 1) t (List.mem_of_mem_take ht)⟩
            clear HTK HHAS HCUT HLTK HROK HFL ML2 RL2 O2 hzb h2g hLc HL
            generalize (row F (j - 1)).take q = T at *
            have hrr : R.length = q := by rw [HMj.out.len]; exact HTL.out
            obtain rfl : q = r := by have := HR.out; omega
            have hq1 : 0 < q := by have := HQ.out; omega
            obtain ⟨g, off, rfl, it00⟩ := RRj.at_ 0 (by omega)
            have hgo : g ≠ o := not_zero_row hwo it00
            have HGC : Hid (∀ i, i < q → (R.getD i rm0).gc ≠ o ∧ SegZ wr (some ⟨(R.getD i rm0).gc, 0, none⟩) (cntR n (T.getD i it0).2) ∧ R3At n wr g (off + i * 3) (R.getD i rm0) ∧ (T.getD i it0).2.length ≤ 16384) := fun i hi => by
              have hi2 : i < T.length := by rw [HTL.out]; exact hi
              have hmem : T.getD i it0 ∈ T := by rw [List.getD_eq_getElem?_getD, List.getElem?_eq_getElem hi2]; exact List.getElem_mem hi2
              have h3 := HTW.out _ hmem
              have h4 := HMj.out.seg i (by omega)
              obtain ⟨g', off', e, h5⟩ := RRj.at_ i (by omega)
              cases e
              exact ⟨not_zero_counts hwo h4 h3.2.1 h3.2.2, h4, h5, h3.1⟩
            have hgl : g < wr.heap.size := it00.lt
            have hFB : Hid (∀ i, ((T.take i).flatMap (·.2)).length ≤ 9437184) := fun i => by
              have h3 := flat_len 16384 (T.take i) (fun t ht => (HTW.out t (List.mem_of_mem_take ht)).1)
              have h4 : (T.take i).length ≤ 576 := by rw [List.length_take, HTL.out]; omega
              have h7 := Nat.mul_le_mul_right 16384 h4
              show _ ≤ _
              omega
            have HFS : Hid (∀ i s, i < q → ((T.take (i + 1)).flatMap (·.2)).count s = ((T.take i).flatMap (·.2)).count s + (T.getD i it0).2.count s) := fun i s hi => flat_snoc T (by rw [HTL.out]; exact hi) s
            have HT0 : Hid ((List.replicate n (0 : Int)) = cntR n ((T.take 0).flatMap (·.2))) := cnt_eq (by simp) (fun i hi => by simp [List.getD, hi])
            have hTq : Hid (T.take q = T) := List.take_of_length_le (by rw [HTL.out]; exact Nat.le_refl _)
            clear hwo it00 RRj HMj HTW hrr
            go_wp2_with fail
            generalize wr = w3 at *
            go_loopw [12] (fun ti wi => ∃ i : Nat, i ≤ q ∧ ti = .int .i64 (i : Int) ∧ wi.ownsRow o 3 1 (.slice (some ⟨o, 0, none⟩) n n) n ((cntR n ((T.take i).flatMap (·.2))).map (Value.int .i64)) ∧ w3.grownBy wi (some o)) (fun ti _ => q - (intOf ti).toNat)
            case atStart => exact ⟨0, by omega, rfl, by rw [← HT0.out]; exact Oj, World.grownBy.refl _ _⟩
            case round =>
              obtain ⟨i, hiq, rfl, Oi, Gi⟩ := hrel
              clear Oj
              by_cases hi : i < q
              · have hii : (i : Int) < (q : Int) := by omega
                obtain ⟨hgc, sgc, itx, hl16⟩ := HGC.out i hi
                have c2 := itx.c2
                have HFSi : Hid (∀ s, ((T.take (i + 1)).flatMap (·.2)).count s = ((T.take i).flatMap (·.2)).count s + (T.getD i it0).2.count s) := fun s => HFS.out i s hi
                have hgcl : (R.getD i rm0).gc < w3.heap.size ∨ n = 0 := by
                  by_cases h0 : n = 0
                  · exact .inr h0
                  · exact .inl (sgc.lt _ _ rfl (by rw [cnt_len]; omega))
                have HB0 : Hid (∀ s, ((T.take i).flatMap (·.2)).count s ≤ 9437184) := fun s => Nat.le_trans List.count_le_length (hFB.out i)
                have HB1 : Hid (∀ s, (T.getD i it0).2.count s ≤ 16384) := fun s => Nat.le_trans List.count_le_length hl16
                generalize (R.getD i rm0).gc = gc at *
                obtain ⟨L0, hL0⟩ : ∃ L0, L0 = (T.take i).flatMap (·.2) := ⟨_, rfl⟩
                obtain ⟨L1, hL1⟩ : ∃ L1, L1 = (T.take (i + 1)).flatMap (·.2) := ⟨_, rfl⟩
                rw [← hL0] at Oi HFSi HB0
                rw [← hL1] at HFSi
                have HL1 : Hid (L1 = (T.take (i + 1)).flatMap (·.2)) := hL1
                generalize (T.getD i it0).2 = ct at *
                clear hL0 hL1 itx
                have n0 : (cntR n L0).length = n := cnt_len n L0
                go_wp2_with fail
                go_loopw [13] (fun tk wk => ∃ (k : Nat) (A : List Int), k ≤ n ∧ tk = .int .i64 (k : Int) ∧ Hid (A.length = n ∧ (∀ s, s < k → A.getD s 0 = (L1.count s : Int)) ∧ ∀ s, k ≤ s → s < n → A.getD s 0 = (L0.count s : Int)) ∧ wk.ownsRow o 3 1 (.slice (some ⟨o, 0, none⟩) n n) n (A.map (Value.int .i64)) ∧ w3.grownBy wk (some o)) (fun tk _ => n - (intOf tk).toNat)
                case atStart => exact ⟨0, cntR n L0, Nat.zero_le _, rfl, (⟨n0, fun s h => by omega, fun s _ h => cnt_get L0 h⟩ : _ ∧ _ ∧ _), Oi, Gi⟩
                case round =>
                  obtain ⟨k, A, hk, rfl, HA, OK, GK⟩ := hrel
                  clear Oi Gi n0
                  by_cases hkn : k < n
                  · have hki : (k : Int) < (n : Int) := by omega
                    have c2k : wr.cell? ⟨g, off + i * 3 + 2, none⟩ = some (.slice (some ⟨gc, 0, none⟩) n n) := (World.cell?_of_block (a := ⟨g, off + i * 3 + 2, none⟩) (GK.block g hgl (by simpa using hgo))).trans c2
                    obtain ⟨_, _, ee, cck⟩ := sgc.at_ k (by rw [cnt_len]; exact hkn)
                    cases ee
                    rw [cnt_get ct hkn, Nat.zero_add] at cck
                    have cck2 : wr.cell? ⟨gc, k, none⟩ = some (.int .i64 (ct.count k : Int)) := (World.cell?_of_block (a := ⟨gc, k, none⟩) (GK.block gc (World.block_lt_of_cell? w3 _ cck) (by simpa using hgc))).trans cck
                    obtain ⟨a0, fz⟩ := own_cell1 OK (i := k) (by have := HA.out.1; omega)
                    have f0 := fz k
                    rw [HA.out.2.2 k (Nat.le_refl _) hkn] at a0
                    have e0 := HFSi.out k
                    have e1 := HB0.out k
                    have e2 := HB1.out k
                    obtain ⟨y, hy⟩ : ∃ y, y = L1.count k := ⟨_, rfl⟩
                    have HY : Hid (L1.count k = y) := hy.symm
                    rw [← hy] at e0
                    have HST := OK.stored k (.int .i64 (y : Int))
                    rw [← List.map_set] at HST
                    have HSS : Hid _ := HST
                    have HA2 : Hid ((A.set k (y : Int)).length = n ∧ (∀ s, s < k + 1 → (A.set k (y : Int)).getD s 0 = (L1.count s : Int)) ∧ ∀ s, k + 1 ≤ s → s < n → (A.set k (y : Int)).getD s 0 = (L0.count s : Int)) := by
                      obtain ⟨q1, q2, q3⟩ := HA.out
                      refine ⟨by simp [q1], fun s hs => ?_, fun s hs hs2 => ?_⟩
                      · by_cases e : s = k
                        · subst e
                          rw [hy]
                          simp [List.getD, show s < A.length by omega]
                        · rw [← q2 s (by omega)]
                          simp [List.getD, show ¬ k = s by omega]
                      · rw [← q3 s (by omega) hs2]
                        simp [List.getD, show ¬ k = s by omega]
                    generalize L0.count k = x0 at *
                    generalize ct.count k = x1 at *
                    have r9 : (x0 : Int) + (x1 : Int) = (y : Int) := by omega
                    have hyb : y ≤ 10000000 := by omega
                    clear HST hy e0 fz cck HA
                    go_wp2_with fail
                    go_region
                    all_goals
                      go_wp2
                      go_roundw
                      case rel =>
                        obtain ⟨o3, g3⟩ := HSS.out
                        exact ⟨k + 1, A.set k (y : Int), by omega, by go_num, HA2, o3.drew, by have h7 := GK.trans g3; exact ⟨h7.os, h7.tape, h7.output, h7.size, h7.block⟩⟩
                      case measure => simp [intOf]; omega
                  · obtain rfl : n = k := by omega
                    have hAE : A = cntR n L1 := cnt_eq HA.out.1 HA.out.2.1
                    subst hAE
                    clear HA
                    go_wp2_with fail
                    go_roundw
                    case rel => exact ⟨i + 1, by omega, by go_num, by rw [← HL1.out]; exact OK, GK⟩
                    case measure => simp [intOf]; omega
              · obtain rfl : q = i := by omega
                rw [hTq.out] at Oi
                have hbl := hFB.out q
                rw [hTq.out] at hbl
                have HSG : Hid (SegZ wr (some ⟨o, 0, none⟩) (cntR n (T.flatMap (·.2)))) := own_segZ Oi (cnt_bd n _ (by omega))
                have HBW : Hid (Below w.heap.size w wr) := by
                  have x3 : Below w.heap.size w w3 := B12.trans (Bj.mono B12.size)
                  exact x3.trans (below_of_grown Gi HO.out.2 x3.size)
                clear Oi Gi
                go_wp2_with fail
                go_ret2
                exact ⟨some ⟨o, 0, none⟩, n, by rw [HER.out.1, HER.out.2, HLL.out, cnt_len]; rfl, by rw [HER.out.2, HLL.out]; exact HSG.out, (fun _ h => by cases h; exact ⟨HO.out.2, Nat.le_trans (lensR_leN _ _) (Nat.le_of_eq hn.out)⟩), HBW.out⟩

set_option maxRecDepth 100000 in
theorem rlengths_far (lim : Int) (a : Option Addr) (zs : List Int) (n cap : Nat) (hn : Hid (zs.length = n)) (w : World) (hs : SegZ w a zs) (hl : n ≤ 9223372036854775807) :
    Calls Tryz.prog 49 #[.int .i64 lim, .slice a n cap] w fun e w' => LenF w lim zs e w' := by
  by_cases h1 : lim < 1
  · have HER : Hid (errL lim zs = 1 ∧ lensR lim zs = []) := by
      have e1 : errL lim zs = 1 := by unfold errL; rw [if_pos (.inl h1)]
      exact ⟨e1, by unfold lensR; rw [e1]; rfl⟩
    go_enter Tryz.func49, Tryz.ntmps49
    go_wp2_with fail
    go_ret2
    exact ⟨none, 0, by rw [HER.out.1, HER.out.2]; rfl, by rw [HER.out.2]; exact SegZ.nil _ _, (fun _ h => by cases h), Below.refl _ _⟩
  · by_cases h2 : 15 < lim
    · have HER : Hid (errL lim zs = 1 ∧ lensR lim zs = []) := by
        have e1 : errL lim zs = 1 := by unfold errL; rw [if_pos (.inr h2)]
        exact ⟨e1, by unfold lensR; rw [e1]; rfl⟩
      go_enter Tryz.func49, Tryz.ntmps49
      go_wp2_with fail
      go_ret2
      exact ⟨none, 0, by rw [HER.out.1, HER.out.2]; rfl, by rw [HER.out.2]; exact SegZ.nil _ _, (fun _ h => by cases h), Below.refl _ _⟩
    · by_cases he : errOf zs = 0
      · obtain ⟨l, rfl⟩ : ∃ l : Nat, lim = (l : Int) := ⟨lim.toNat, by omega⟩
        exact rlengths_ok l a zs n cap hn w hs (by omega) (by omega) he
      · have HER : Hid (errL lim zs = errOf zs ∧ lensR lim zs = []) := by
          have e1 : errL lim zs = errOf zs := by unfold errL; rw [if_neg (by omega), if_neg he]
          exact ⟨e1, by unfold lensR; rw [e1, if_neg he]⟩
        have HC := wrong_any a zs cap w hs (by have := hn.out; omega)
        rw [hn.out] at HC
        generalize errOf zs = E at *
        go_enter Tryz.func49, Tryz.ntmps49
        go_wp2_with fail
        refine HC.mono ?_
        rintro e w' ⟨rfl, hw'⟩
        go_wp2_with fail
        go_ret2
        exact ⟨none, 0, by rw [HER.out.1, HER.out.2]; rfl, by rw [HER.out.2]; exact SegZ.nil _ _, (fun _ h => by cases h), hw'⟩
theorem rlengths_any (lim : Int) (a : Option Addr) (zs : List Int) (n cap : Nat) (hn : Hid (zs.length = n)) (w : World) (hs : SegZ w a zs) (hl : n ≤ 9223372036854775807) :
    Calls Tryz.prog 49 #[.int .i64 lim, .slice a n cap] w fun e w' => LenQ w lim zs e w' :=
  (rlengths_far lim a zs n cap hn w hs hl).mono fun e w' ⟨b, c, h1, h2, _, h3⟩ => ⟨b, c, h1, h2, h3⟩
end Go.Proofs.YtcifalelnfeggaaGreatDoor

namespace Go.Proofs.YtcifalelnfeggaaGreatDoor
open Go.RowKit
set_option linter.unusedVariables false

/-! How often each symbol stands there, as lists; the program's OwnLens. -/
theorem gset9 (X : List Int) (k j : Nat) (v : Int) (hk : k < X.length) : (X.set k v).getD j 0 = if k = j then v else X.getD j 0 := by
  by_cases h : k = j
  · subst h
    rw [if_pos rfl]
    simp [List.getD, hk]
  · rw [if_neg h]
    simp only [List.getD]
    rw [List.getElem?_set_ne h]
theorem inc9_get (X : List Int) (k j : Nat) (v : Int) (hk : k < X.length) : (inc9 X k v).getD j 0 = X.getD j 0 + if k = j then v else 0 := by
  unfold inc9
  rw [gset9 X k j _ hk]
  by_cases h : k = j
  · subst h; rw [if_pos rfl, if_pos rfl]
  · rw [if_neg h, if_neg h]; omega
theorem inc9_len (X : List Int) (k : Nat) (v : Int) : (inc9 X k v).length = X.length := by unfold inc9; exact List.length_set
theorem ext9 {a b : List Int} (h : a.length = b.length) (hg : ∀ i, i < a.length → a.getD i 0 = b.getD i 0) : a = b := by
  refine List.ext_getElem h fun i h1 h2 => ?_
  have := hg i h1
  simpa [List.getD, h1, h2] using this
def cl9 (X : List Int) : List Int := (List.range 286).map fun j => X.getD (2 + j) 0
def cd9 (X : List Int) : List Int := (List.range 30).map fun j => X.getD (288 + j) 0
theorem cl9_len (X : List Int) : (cl9 X).length = 286 := by simp [cl9]
theorem cd9_len (X : List Int) : (cd9 X).length = 30 := by simp [cd9]
theorem cl9_get (X : List Int) {j : Nat} (h : j < 286) : (cl9 X).getD j 0 = X.getD (2 + j) 0 := by simp [cl9, List.getD, h]
theorem cd9_get (X : List Int) {j : Nat} (h : j < 30) : (cd9 X).getD j 0 = X.getD (288 + j) 0 := by simp [cd9, List.getD, h]
theorem tst9_len (X : List Int) (t : Tok7) : (tst9 X t).length = X.length := by
  unfold tst9
  split <;> simp only [inc9_len]
theorem tals9_len (l : List Tok7) : (tals9 l).length = 318 := by
  unfold tals9
  have : ∀ (l : List Tok7) (X : List Int), (l.foldl tst9 X).length = X.length := by
    intro l
    induction l with
    | nil => intro X; rfl
    | cons t r ih => intro X; rw [List.foldl_cons, ih, tst9_len]
  rw [this]
  exact List.length_replicate ..
/-- The symbol of a token among the lengths' and the bytes'. -/
def sym9 (t : Tok7) : Nat := if t.len = 0 then t.lit.toNat else 257 + lix9 t.len
theorem fit_may9 {t : Tok7} (hf : t.Fit) (hm : may7 t) : 0 ≤ t.lit ∧ t.lit ≤ 255 ∧ ((t.len = 0 ∧ t.dist = 0) ∨ (t.len ≠ 0 ∧ 3 ≤ t.len ∧ t.len ≤ 258 ∧ 1 ≤ t.dist ∧ t.dist ≤ 32768 ∧ t.lit = 0)) := by
  unfold Tok7.Fit at hf
  unfold may7 at hm
  by_cases h : t.len = 0
  · rw [if_pos h] at hm
    exact ⟨hf.1.1, hf.1.2, .inl ⟨h, by omega⟩⟩
  · rw [if_neg h] at hm
    exact ⟨hf.1.1, hf.1.2, .inr ⟨h, by omega⟩⟩
theorem sym9_lt {t : Tok7} (hf : t.Fit) (hm : may7 t) : sym9 t < 286 ∧ sym9 t ≠ 256 := by
  obtain ⟨a, b, c⟩ := fit_may9 hf hm
  unfold sym9
  rcases c with ⟨c, _⟩ | ⟨c, c3, _⟩
  · rw [if_pos c]; omega
  · rw [if_neg c]
    have := (lspec9 c3).2.1
    omega
theorem cl9_step {X : List Int} (hX : X.length = 318) {t : Tok7} (hf : t.Fit) (hm : may7 t) : (cl9 (tst9 X t)).set 256 1 = inc9 ((cl9 X).set 256 1) (sym9 t) 1 := by
  obtain ⟨hs, hs2⟩ := sym9_lt hf hm
  refine ext9 (by rw [inc9_len, List.length_set, List.length_set, cl9_len, cl9_len]) fun j hj => ?_
  rw [List.length_set, cl9_len] at hj
  rw [inc9_get _ _ _ _ (by rw [List.length_set, cl9_len]; exact hs), gset9 _ _ _ _ (by rw [cl9_len]; omega), gset9 _ _ _ _ (by rw [cl9_len]; omega)]
  by_cases h : 256 = j
  · rw [if_pos h, if_pos h, if_neg (by omega)]; rfl
  · rw [if_neg h, if_neg h, cl9_get _ hj, cl9_get _ hj]
    obtain ⟨a, b, c⟩ := fit_may9 hf hm
    unfold tst9 sym9
    rcases c with ⟨c, _⟩ | ⟨c, c3, c4, c5, c6, _⟩
    · rw [if_pos c, if_pos c, inc9_get _ _ _ _ (by rw [inc9_len, hX]; omega), inc9_get _ _ _ _ (by omega), if_neg (by omega)]
      by_cases q : t.lit.toNat = j
      · rw [if_pos q, if_pos (by omega)]; omega
      · rw [if_neg q, if_neg (by omega)]; omega
    · have h1 := (lspec9 c3).2.1
      have h2 := (dspec9 c5).2.1
      rw [if_neg c, if_neg c, inc9_get _ _ _ _ (by simp only [inc9_len, hX]; omega), inc9_get _ _ _ _ (by simp only [inc9_len, hX]; omega), inc9_get _ _ _ _ (by simp only [inc9_len, hX]; omega), inc9_get _ _ _ _ (by simp only [inc9_len, hX]; omega), inc9_get _ _ _ _ (by omega)]
      simp only [eq_false (show ¬ 0 = 2 + j by omega), eq_false (show ¬ 1 = 2 + j by omega), eq_false (show ¬ 288 + dix9 t.dist = 2 + j by omega), if_false]
      by_cases q : 257 + lix9 t.len = j
      · rw [if_pos q, if_pos (by omega)]; omega
      · rw [if_neg q, if_neg (by omega)]; omega
theorem cd9_lit {X : List Int} (hX : X.length = 318) {t : Tok7} (hf : t.Fit) (hm : may7 t) (h : t.len = 0) : cd9 (tst9 X t) = cd9 X := by
  refine ext9 (by rw [cd9_len, cd9_len]) fun j hj => ?_
  rw [cd9_len] at hj
  obtain ⟨a, b, c⟩ := fit_may9 hf hm
  rw [cd9_get _ hj, cd9_get _ hj]
  unfold tst9
  rw [if_pos h, inc9_get _ _ _ _ (by rw [inc9_len, hX]; omega), inc9_get _ _ _ _ (by omega), if_neg (by omega), if_neg (by omega)]
  omega
theorem cd9_step {X : List Int} (hX : X.length = 318) {t : Tok7} (hf : t.Fit) (hm : may7 t) (h : t.len ≠ 0) : cd9 (tst9 X t) = inc9 (cd9 X) (dix9 t.dist) 1 := by
  obtain ⟨a, b, c⟩ := fit_may9 hf hm
  have c := c.resolve_left (fun q => h q.1)
  obtain ⟨_, c3, c4, c5, c6, _⟩ := c
  have h1 := (lspec9 c3).2.1
  have h2 := (dspec9 c5).2.1
  refine ext9 (by rw [inc9_len, cd9_len, cd9_len]) fun j hj => ?_
  rw [cd9_len] at hj
  rw [inc9_get _ _ _ _ (by rw [cd9_len]; exact h2), cd9_get _ hj, cd9_get _ hj]
  unfold tst9
  rw [if_neg h, inc9_get _ _ _ _ (by simp only [inc9_len, hX]; omega), inc9_get _ _ _ _ (by simp only [inc9_len, hX]; omega), inc9_get _ _ _ _ (by simp only [inc9_len, hX]; omega), inc9_get _ _ _ _ (by simp only [inc9_len, hX]; omega), inc9_get _ _ _ _ (by omega)]
  simp only [eq_false (show ¬ 0 = 288 + j by omega), eq_false (show ¬ 1 = 288 + j by omega), eq_false (show ¬ 259 + lix9 t.len = 288 + j by omega), if_false]
  by_cases q : dix9 t.dist = j
  · rw [if_pos q, if_pos (by omega)]; omega
  · rw [if_neg q, if_neg (by omega)]; omega
theorem cl9_tal (l : List Tok7) : cl9 (tal9 l) = (cl9 (tals9 l)).set 256 1 := by
  refine ext9 (by rw [List.length_set, cl9_len, cl9_len]) fun j hj => ?_
  rw [cl9_len] at hj
  unfold tal9
  rw [gset9 _ _ _ _ (by rw [cl9_len]; omega), cl9_get _ hj, gset9 _ _ _ _ (by rw [tals9_len]; omega), cl9_get _ hj]
  by_cases h : 256 = j
  · rw [if_pos h, if_pos (by omega)]
  · rw [if_neg h, if_neg (by omega)]
theorem cd9_tal (l : List Tok7) : cd9 (tal9 l) = cd9 (tals9 l) := by
  refine ext9 (by rw [cd9_len, cd9_len]) fun j hj => ?_
  rw [cd9_len] at hj
  unfold tal9
  rw [cd9_get _ hj, gset9 _ _ _ _ (by rw [tals9_len]; omega), cd9_get _ hj, if_neg (by omega)]
theorem Ta9.segL {w : World} {b : Nat} {X : List Int} (h : Ta9 w b X) : SegZ w (some ⟨b, 2, none⟩) (cl9 X) := by
  refine ⟨fun i hi => ⟨b, 2, rfl, ?_⟩, fun i => ?_⟩
  · rw [cl9_len] at hi
    rw [cl9_get _ hi]
    exact h.cell (by omega)
  · by_cases hi : i < 286
    · rw [cl9_get _ hi]
      have := h.get (2 + i)
      omega
    · simp only [List.getD, List.getElem?_eq_none (show (cl9 X).length ≤ i by rw [cl9_len]; omega), Option.getD_none]; omega
theorem Ta9.segD {w : World} {b : Nat} {X : List Int} (h : Ta9 w b X) : SegZ w (some ⟨b, 288, none⟩) (cd9 X) := by
  refine ⟨fun i hi => ⟨b, 288, rfl, ?_⟩, fun i => ?_⟩
  · rw [cd9_len] at hi
    rw [cd9_get _ hi]
    exact h.cell (by omega)
  · by_cases hi : i < 30
    · rw [cd9_get _ hi]
      have := h.get (288 + i)
      omega
    · simp only [List.getD, List.getElem?_eq_none (show (cd9 X).length ≤ i by rw [cd9_len]; omega), Option.getD_none]; omega
/-- The lengths of a block's own codes. -/
def oL9 (X : List Int) : List Int := lensR 15 (cl9 X)
def oD9 (X : List Int) : List Int := lensR 15 (cd9 X)
def OwQ (w : World) (A D : List Int) (e : Ending) (w' : World) : Prop := ∃ la lc da dc, e = .returned (.tuple #[.slice la A.length lc, .slice da D.length dc]) ∧ w'.ownsRow w.heap.size 3 1 (.slice la A.length lc) A.length (A.map (Value.int .i64)) ∧ w'.ownsRow w.heap.size 3 1 (.slice da D.length dc) D.length (D.map (Value.int .i64)) ∧ (∀ g h, (Value.slice la A.length lc).ownBlock = some g → (Value.slice da D.length dc).ownBlock = some h → g < h) ∧ Below w.heap.size w w'
set_option maxRecDepth 100000 in
set_option maxHeartbeats 4000000 in
theorem pol9 (b : Nat) (X : List Int) (w : World) (h : Ta9 w b X) :
    Calls Tryz.prog 47 #[.pointer (some ⟨b, 0, none⟩)] w (OwQ w (oL9 X) (oD9 X)) := by
  have CL : Calls Tryz.prog 68 #[.int .i64 15, .slice (some ⟨b, 2, none⟩) 286 286] w (LenO w 15 (cl9 X)) := lengths_own 15 _ (cl9 X) 286 286 (cl9_len X) w h.segL (by omega)
  have hlt := h.lt
  have HD : Hid (∀ W, Below w.heap.size w W → Calls Tryz.prog 68 #[.int .i64 15, .slice (some ⟨b, 288, none⟩) 30 30] W (LenO W 15 (cd9 X))) := fun W hW => lengths_own 15 _ (cd9 X) 30 30 (cd9_len X) W (h.keep (hW.block b hlt)).segD (by omega)
  clear h
  go_enter Tryz.func47, Tryz.ntmps47
  go_wp2_with fail
  refine CL.mono ?_
  rintro e w1 ⟨la, lc, rfl, O1, b1⟩
  have CD := HD.out w1 b1
  clear CL HD
  go_wp2_with fail
  refine CD.mono ?_
  rintro e w2 ⟨da, dc, rfl, O2, b2⟩
  have O3 := own_below O1 b2
  have hap : ∀ g h, (Value.slice la (lensR 15 (cl9 X)).length lc).ownBlock = some g → (Value.slice da (lensR 15 (cd9 X)).length dc).ownBlock = some h → g < h := fun g h e1 e2 => by
    have := (O1.lt g e1).2
    have := own_ge9 O2 e2
    omega
  have O4 := own_baseN O2 b1.size
  have B2 := b1.trans (b2.mono b1.size)
  clear CD O1 O2 b1 b2
  go_wp2_with fail
  go_ret2
  exact ⟨la, lc, da, dc, rfl, O3, O4, hap, B2⟩
/-- What OwnLens answers. -/
def owa9 (l : List Tok7) : List Int := if mer9 l = 0 then oL9 (tal9 l) else []
def owd9 (l : List Tok7) : List Int := if mer9 l = 0 then oD9 (tal9 l) else []
def OnQ (w : World) (A D : List Int) (er : Int) (e : Ending) (w' : World) : Prop := ∃ la lc da dc, e = .returned (.tuple #[.slice la A.length lc, .slice da D.length dc, .int .i64 er]) ∧ w'.ownsRow w.heap.size 3 1 (.slice la A.length lc) A.length (A.map (Value.int .i64)) ∧ w'.ownsRow w.heap.size 3 1 (.slice da D.length dc) D.length (D.map (Value.int .i64)) ∧ (∀ g h, (Value.slice la A.length lc).ownBlock = some g → (Value.slice da D.length dc).ownBlock = some h → g < h) ∧ Below w.heap.size w w'
/-- tallied in one form. -/
theorem ptal9_any (l : List Tok7) (a : Option Addr) (n cap : Nat) (hn : Hid (l.length = n)) (w : World) (hs : SegT w a l) :
    Calls Tryz.prog 46 #[.slice a n cap] w fun e w' => (mer9 l = 0 ∧ ∃ b, w.heap.size ≤ b ∧ e = .returned (.tuple #[.pointer (some ⟨b, 0, none⟩), .int .i64 0]) ∧ Ta9 w' b (tal9 l) ∧ Below w.heap.size w w') ∨ ((mer9 l = 90 ∨ mer9 l = 91) ∧ e = .returned (.tuple #[.pointer none, .int .i64 (mer9 l)]) ∧ Below w.heap.size w w') := by
  by_cases h : n ≤ 65536
  · refine (ptal9 l a n cap hn w hs h).mono ?_
    rintro e w' (⟨hm, b, hb⟩ | ⟨hm, rfl, hb⟩)
    · exact .inl ⟨mer9_ok (by rw [hn.out]; exact h) hm, b, hb⟩
    · have : mer9 l = 91 := by unfold mer9; rw [if_neg (by rw [hn.out]; omega), if_neg hm]
      exact .inr ⟨.inr this, by rw [this], hb⟩
  · refine (ptal9_long l a n cap w (by omega)).mono ?_
    rintro e w' ⟨rfl, rfl⟩
    have : mer9 l = 90 := by unfold mer9; rw [if_pos (by rw [hn.out]; omega)]
    exact .inr ⟨.inl this, by rw [this], Below.refl _ _⟩
set_option maxRecDepth 100000 in
set_option maxHeartbeats 4000000 in
theorem pown9 (l : List Tok7) (a : Option Addr) (n cap : Nat) (hn : Hid (l.length = n)) (w : World) (hs : SegT w a l) :
    Calls Tryz.prog 19 #[.slice a n cap] w (OnQ w (owa9 l) (owd9 l) (mer9 l)) := by
  have CT := ptal9_any l a n cap hn w hs
  clear hs
  go_enter Tryz.func19, Tryz.ntmps19
  go_wp2_with fail
  refine CT.mono ?_
  rintro e w1 (⟨hm, b, hb, rfl, TA, b1⟩ | ⟨hm, rfl, b1⟩)
  · have CO := pol9 b (tal9 l) w1 TA
    have HM : Hid (owa9 l = oL9 (tal9 l) ∧ owd9 l = oD9 (tal9 l) ∧ mer9 l = 0) := ⟨if_pos hm, if_pos hm, hm⟩
    clear CT hm TA
    go_wp2_with fail
    refine CO.mono ?_
    rintro e w2 ⟨la, lc, da, dc, rfl, O1, O2, hap, b2⟩
    clear CO
    go_wp2_with fail
    go_ret3
    show OnQ w (owa9 l) (owd9 l) (mer9 l) _ _
    rw [HM.out.1, HM.out.2.1, HM.out.2.2]
    exact ⟨la, lc, da, dc, rfl, own_baseN O1 b1.size, own_baseN O2 b1.size, hap, b1.trans (b2.mono b1.size)⟩
  · have hne : mer9 l ≠ 0 := by omega
    have HM : Hid (owa9 l = [] ∧ owd9 l = []) := ⟨if_neg hne, if_neg hne⟩
    clear CT
    rcases hm with hm | hm
    · rw [hm]
      go_wp2_with fail
      go_ret3
      show OnQ w (owa9 l) (owd9 l) _ _ _
      rw [HM.out.1, HM.out.2]
      refine ⟨none, 0, none, 0, ?_, World.ownsRow_nil _ _ _ _, World.ownsRow_nil _ _ _ _, fun g h e => by simp [Value.ownBlock] at e, b1⟩
      rw [hm]
      rfl
    · rw [hm]
      go_wp2_with fail
      go_ret3
      show OnQ w (owa9 l) (owd9 l) _ _ _
      rw [HM.out.1, HM.out.2]
      refine ⟨none, 0, none, 0, ?_, World.ownsRow_nil _ _ _ _, World.ownsRow_nil _ _ _ _, fun g h e => by simp [Value.ownBlock] at e, b1⟩
      rw [hm]
      rfl
end Go.Proofs.YtcifalelnfeggaaGreatDoor

namespace Go.Proofs.YtcifalelnfeggaaGreatDoor
open Go.RowKit
set_option linter.unusedVariables false

/-- A length that may be. -/
def okL9 (z : Int) : Bool := decide (0 ≤ z ∧ z ≤ 15)
/-- The cost of lengths, of the first so many. -/
def sumC9 (xs ys : List Int) : Nat → Int
  | 0 => 0
  | k + 1 => sumC9 xs ys k + xs.getD k 0 * ys.getD k 0
theorem sumC9_bd {xs ys : List Int} (hx : ∀ i, 0 ≤ xs.getD i 0 ∧ xs.getD i 0 ≤ 1099511627776) : ∀ k, (∀ i, i < k → 0 ≤ ys.getD i 0 ∧ ys.getD i 0 ≤ 15) → 0 ≤ sumC9 xs ys k ∧ sumC9 xs ys k ≤ k * 16492674416640
  | 0, _ => by simp [sumC9]
  | k + 1, h => by
    have h1 := sumC9_bd hx k (fun i hi => h i (by omega))
    have h2 := h k (by omega)
    have h3 := hx k
    have h4 : 0 ≤ xs.getD k 0 * ys.getD k 0 := Int.mul_nonneg h3.1 h2.1
    have h5 : xs.getD k 0 * ys.getD k 0 ≤ 1099511627776 * 15 := Int.mul_le_mul h3.2 h2.2 h2.1 (by decide)
    unfold sumC9
    generalize xs.getD k 0 * ys.getD k 0 = q at *
    push_cast
    omega
def errK9 (xs ys : List Int) : Int := if xs.length ≠ ys.length then 1 else if errOf xs ≠ 0 then errOf xs else if ys.all okL9 then 0 else 41
def costO9 (xs ys : List Int) : Int := if errK9 xs ys = 0 then sumC9 xs ys ys.length else 0
theorem errK9_bad {xs ys : List Int} (h : xs.length = ys.length) (he : errOf xs = 0) {k : Nat} (hk : k < ys.length) (hb : ¬ (0 ≤ ys.getD k 0 ∧ ys.getD k 0 ≤ 15)) : errK9 xs ys = 41 ∧ costO9 xs ys = 0 := by
  have : ys.all okL9 = false := by
    rw [List.all_eq_false]
    refine ⟨ys.getD k 0, ?_, by simp only [okL9, hb]; decide⟩
    simp [List.getD, hk]
  have h1 : errK9 xs ys = 41 := by simp [errK9, h, he, this]
  exact ⟨h1, by simp [costO9, h1]⟩
theorem errK9_ok {xs ys : List Int} (h : xs.length = ys.length) (he : errOf xs = 0) (hb : ∀ i, i < ys.length → 0 ≤ ys.getD i 0 ∧ ys.getD i 0 ≤ 15) : errK9 xs ys = 0 ∧ costO9 xs ys = sumC9 xs ys ys.length := by
  have : ys.all okL9 = true := by
    rw [List.all_eq_true]
    intro z hz
    obtain ⟨i, hi, rfl⟩ := List.mem_iff_getElem.1 hz
    have := hb i hi
    simp only [List.getD, List.getElem?_eq_getElem hi, Option.getD_some] at this
    simp only [okL9, this]
    decide
  have h1 : errK9 xs ys = 0 := by simp [errK9, h, he, this]
  exact ⟨h1, by simp [costO9, h1]⟩
theorem errK9_arg {xs ys : List Int} (h : ¬ xs.length = ys.length) : errK9 xs ys = 1 ∧ costO9 xs ys = 0 := by
  have h1 : errK9 xs ys = 1 := by simp [errK9, h]
  exact ⟨h1, by simp [costO9, h1]⟩
theorem errK9_err {xs ys : List Int} (h : xs.length = ys.length) (he : ¬ errOf xs = 0) : errK9 xs ys = errOf xs ∧ costO9 xs ys = 0 := by
  have h1 : errK9 xs ys = errOf xs := by simp [errK9, h, he]
  exact ⟨h1, by simp [costO9, h1, he]⟩

theorem refusal9 {a : Option Addr} {zs : List Int} {n : Nat} (hn : Hid (zs.length = n)) (cap : Nat) (w : World) (hs : SegZ w a zs) (hl : n ≤ 9223372036854775807) :
    Calls Tryz.prog 92 #[.slice a n cap] w fun e w' => e = .returned (.int .i64 (errOf zs)) ∧ w' = w := by
  have hn := hn.out
  subst hn
  exact refusal_any a zs cap w hs hl
set_option maxRecDepth 100000 in
set_option maxHeartbeats 400000 in
theorem cost9_same (a b : Option Addr) (xs ys : List Int) (n ca cb : Nat) (hx : Hid (xs.length = n)) (hy : Hid (ys.length = n)) (w : World) (hs : SegZ w a xs) (ht : SegZ w b ys) (hl : n ≤ 9223372036854775807) :
    Calls Tryz.prog 123 #[.slice a n ca, .slice b n cb] w fun e w' => e = .returned (.tuple #[.int .i64 (costO9 xs ys), .int .i64 (errK9 xs ys)]) ∧ Below w.heap.size w w' := by
  have hlen : Hid (xs.length = ys.length) := hx.out.trans hy.out.symm
  by_cases he : errOf xs = 0
  · obtain ⟨h288, hbx⟩ := errOf_zero he
    have hn288 : n ≤ 288 := by have := hx.out; omega
    clear h288
    have HB0 : Hid (∀ k, k < n → ¬ (0 ≤ ys.getD k 0 ∧ ys.getD k 0 ≤ 15) → errK9 xs ys = 41 ∧ costO9 xs ys = 0) := fun k hk => errK9_bad hlen.out he (by have := hy.out; omega)
    have HK0 : Hid ((∀ i, i < n → 0 ≤ ys.getD i 0 ∧ ys.getD i 0 ≤ 15) → errK9 xs ys = 0 ∧ costO9 xs ys = sumC9 xs ys n) := fun h => by have := hy.out; subst this; exact errK9_ok hlen.out he h
    have HC : Hid (∀ W, SegZ W a xs → Calls Tryz.prog 92 #[.slice a n ca] W fun e w' => e = .returned (.int .i64 0) ∧ w' = W) := fun W hW => by
      have := refusal9 hx ca W hW hl
      rw [he] at this
      exact this
    clear he
    go_enter Tryz.func123, Tryz.ntmps123
    go_wp2_with (go_at_call 92; refine (HC.out _ hs).mono ?_; rintro e w1 ⟨rfl, hw1⟩; subst w1)
    go_loopw [7, 22] (fun tt ti wr => ∃ (k : Nat) (S : Int), k ≤ n ∧ ti = .int .i64 k ∧ tt = .int .i64 S ∧ Hid (S = sumC9 xs ys k) ∧ Hid (∀ i, i < k → 0 ≤ ys.getD i 0 ∧ ys.getD i 0 ≤ 15) ∧ Below w.heap.size w wr) (fun _ ti _ => n - (intOf ti).toNat)
    case atStart => exact ⟨0, 0, Nat.zero_le _, rfl, rfl, (rfl : _ = _), (fun i h => by omega : ∀ i, _), Below.refl _ _⟩
    case round =>
      obtain ⟨k, S, hk, rfl, rfl, HS, HY, hb⟩ := hrel
      have hs := hs.old hb
      have ht := ht.old hb
      by_cases h1 : k < n
      · have h1i : (k : Int) < (n : Int) := by omega
        obtain ⟨b1, o1, rfl, c1⟩ := hs.at_ k (by have := hx.out; omega)
        obtain ⟨b2, o2, rfl, c2⟩ := ht.at_ k (by have := hy.out; omega)
        have d1 := hbx k
        have d2 := ht.bd k
        have HB : Hid _ := HB0.out k h1
        have d3 := sumC9_bd hbx k HY.out
        rw [← HS.out] at d3
        have HS2 : Hid (sumC9 xs ys (k + 1) = S + xs.getD k 0 * ys.getD k 0) := by show _ = _; rw [HS.out]; rfl
        have HY2 : Hid ((0 ≤ ys.getD k 0 ∧ ys.getD k 0 ≤ 15) → ∀ i, i < k + 1 → 0 ≤ ys.getD i 0 ∧ ys.getD i 0 ≤ 15) := by
          intro h i hi
          by_cases e : i = k
          · subst e; exact h
          · exact HY.out i (by omega)
        generalize xs.getD k 0 = z1 at *
        generalize ys.getD k 0 = z2 at *
        by_cases h0 : z2 < 0
        · go_wp2
          go_ret2
          obtain ⟨e1, e2⟩ := HB.out (by omega)
          exact ⟨by rw [e1, e2] <;> rfl, hb⟩
        · by_cases h4 : 15 < z2
          · go_wp2
            go_ret2
            obtain ⟨e1, e2⟩ := HB.out (by omega)
            exact ⟨by rw [e1, e2] <;> rfl, hb⟩
          · have m1 : 0 ≤ z1 * z2 := Int.mul_nonneg d1.1 (by omega)
            have m2 : z1 * z2 ≤ 1099511627776 * 15 := Int.mul_le_mul d1.2 (by omega) (by omega) (by decide)
            have hm3 : IntKind.i64.wrap (z1 * z2) = z1 * z2 := IntWalk.i64_in _ (by omega)
            have hm4 : IntKind.i64.wrap (S + z1 * z2) = S + z1 * z2 := IntWalk.i64_in _ (by omega)
            have hm5 : RowKit.wrap64 (z1 * z2) = z1 * z2 := by rw [← IntWalk.i64_left]; exact hm3
            have hm6 : RowKit.wrap64 (S + z1 * z2) = S + z1 * z2 := by rw [← IntWalk.i64_left]; exact hm4
            go_wp2
            go_roundw
            case rel => exact ⟨k + 1, S + z1 * z2, by omega, by go_num, rfl, (HS2.out.symm : _ = _), HY2.out (by omega), hb⟩
            case measure => simp [intOf]; omega
      · obtain rfl : k = n := by omega
        obtain ⟨e1, e2⟩ := HK0.out HY.out
        have HR : Hid _ := And.intro e1 e2
        clear e1 e2 h1
        go_wp2
        go_ret2
        exact ⟨by rw [HR.out.1, HR.out.2, HS.out] <;> rfl, hb⟩
  · have HE : Hid _ := errK9_err hlen.out he
    have HC := refusal9 hx ca w hs hl
    generalize errOf xs = E at *
    go_enter Tryz.func123, Tryz.ntmps123
    go_wp2_with (go_at_call 92; refine HC.mono ?_; rintro e w1 ⟨rfl, hw1⟩; subst w1)
    go_ret2
    exact ⟨by rw [HE.out.1, HE.out.2] <;> rfl, Below.refl _ _⟩
set_option maxRecDepth 100000 in
set_option maxHeartbeats 400000 in
theorem cost9_any (a b : Option Addr) (xs ys : List Int) (ca cb : Nat) (w : World) (hs : SegZ w a xs) (ht : SegZ w b ys) (hl : xs.length ≤ 9223372036854775807) (hl2 : ys.length ≤ 9223372036854775807) :
    Calls Tryz.prog 123 #[.slice a xs.length ca, .slice b ys.length cb] w fun e w' => e = .returned (.tuple #[.int .i64 (costO9 xs ys), .int .i64 (errK9 xs ys)]) ∧ Below w.heap.size w w' := by
  by_cases hlen : xs.length = ys.length
  · rw [hlen]
    exact cost9_same a b xs ys ys.length ca cb hlen rfl w hs ht hl2
  · have hleni : ¬ (xs.length : Int) = (ys.length : Int) := by omega
    have HE : Hid _ := errK9_arg hlen
    go_enter Tryz.func123, Tryz.ntmps123
    go_wp2
    go_ret2
    exact ⟨by rw [HE.out.1, HE.out.2] <;> rfl, Below.refl _ _⟩
end Go.Proofs.YtcifalelnfeggaaGreatDoor

namespace Go.Proofs.YtcifalelnfeggaaGreatDoor
open Go.RowKit
set_option linter.unusedVariables false

/-! How many bits tokens take by codes of these lengths: the program's. -/
def bts9 (X ZL ZD : List Int) : Int := costO9 (cl9 X) (ZL.take 286) + costO9 (cd9 X) (ZD.take 30) + X.getD 1 0
theorem costO9_bd {xs ys : List Int} {n : Nat} (hn : ys.length = n) (hn2 : n ≤ 288) : 0 ≤ costO9 xs ys ∧ costO9 xs ys ≤ 4749890231992320 := by
  unfold costO9
  split
  · rename_i h
    unfold errK9 at h
    split at h
    · omega
    · split at h
      · omega
      · rename_i h1 h2
        split at h
        · rename_i h3
          have hx := (errOf_zero (Classical.not_not.1 h2)).2
          have hb := sumC9_bd hx (ys := ys) ys.length (fun i hi => by
            have := List.all_eq_true.1 h3 ys[i] (List.getElem_mem hi)
            unfold okL9 at this
            simpa [List.getD, hi] using of_decide_eq_true this)
          refine ⟨hb.1, Int.le_trans hb.2 ?_⟩
          have : (ys.length : Int) ≤ 288 := by omega
          omega
        · omega
  · omega
set_option maxRecDepth 100000 in
set_option maxHeartbeats 8000000 in
theorem pbits9 (b : Nat) (X ZL ZD : List Int) (gl gd : Nat) (nl lc nd dc : Nat) (hnl : Hid (ZL.length = nl)) (hnd : Hid (ZD.length = nd)) (w : World) (h : Ta9 w b X) (sL : SegZ w (some ⟨gl, 0, none⟩) ZL) (sD : SegZ w (some ⟨gd, 0, none⟩) ZD) (h1 : 286 ≤ nl) (h2 : nl ≤ lc) (h3 : 30 ≤ nd) (h4 : nd ≤ dc) :
    Calls Tryz.prog 101 #[.pointer (some ⟨b, 0, none⟩), .slice (some ⟨gl, 0, none⟩) nl lc, .slice (some ⟨gd, 0, none⟩) nd dc] w fun e w' => e = .returned (.int .i64 (bts9 X ZL ZD)) ∧ Below w.heap.size w w' := by
  have HT : Hid (Ta9 w b X) := h
  have e1 : (ZL.take 286).length = 286 := by rw [List.length_take, hnl.out]; omega
  have e2 : (ZD.take 30).length = 30 := by rw [List.length_take, hnd.out]; omega
  have B1 := costO9_bd (xs := cl9 X) e1 (by omega)
  have B2 := costO9_bd (xs := cd9 X) e2 (by omega)
  have B3 := h.get 1
  have C1 : Calls Tryz.prog 123 #[.slice (some ⟨b, 2, none⟩) 286 286, .slice (some ⟨gl, 0, none⟩) 286 lc] w.drew fun e w' => e = .returned (.tuple #[.int .i64 (costO9 (cl9 X) (ZL.take 286)), .int .i64 (errK9 (cl9 X) (ZL.take 286))]) ∧ Below w.drew.heap.size w.drew w' := cost9_same _ _ (cl9 X) (ZL.take 286) 286 286 lc (cl9_len X) e1 w.drew h.segL.drew (sL.take 286).drew (by omega)
  have HC2 : Hid (∀ W, Below w.heap.size w W → Calls Tryz.prog 123 #[.slice (some ⟨b, 288, none⟩) 30 30, .slice (some ⟨gd, 0, none⟩) 30 dc] W fun e w' => e = .returned (.tuple #[.int .i64 (costO9 (cd9 X) (ZD.take 30)), .int .i64 (errK9 (cd9 X) (ZD.take 30))]) ∧ Below W.heap.size W w') := fun W hW => cost9_same _ _ (cd9 X) (ZD.take 30) 30 30 dc (cd9_len X) e2 W (h.keep (hW.block b h.lt)).segD ((sD.take 30).old hW) (by omega)
  have HB : Hid (∀ a b c : Int, a = costO9 (cl9 X) (ZL.take 286) → b = costO9 (cd9 X) (ZD.take 30) → c = X.getD 1 0 → bts9 X ZL ZD = a + b + c) := fun a b c ea eb ec => by subst ea eb ec; rfl
  have hc1 : (286 : Int) ≤ (lc : Int) := by omega
  have hc2 : (30 : Int) ≤ (dc : Int) := by omega
  obtain ⟨v1, hv1⟩ : ∃ v, v = costO9 (cl9 X) (ZL.take 286) := ⟨_, rfl⟩
  obtain ⟨v2, hv2⟩ : ∃ v, v = costO9 (cd9 X) (ZD.take 30) := ⟨_, rfl⟩
  obtain ⟨v3, hv3⟩ : ∃ v, v = X.getD 1 0 := ⟨_, rfl⟩
  have HV : Hid (bts9 X ZL ZD = v1 + v2 + v3) := HB.out v1 v2 v3 hv1 hv2 hv3
  have c3 := h.cell (i := 1) (by omega)
  have hbl := h.lt
  rw [← hv1] at B1 C1
  rw [← hv2] at B2 HC2
  rw [← hv3] at B3 c3
  generalize errK9 (cl9 X) (ZL.take 286) = E1 at *
  generalize errK9 (cd9 X) (ZD.take 30) = E2 at *
  rw [HV.out]
  clear hv1 hv2 hv3 HB HV h sL sD e1 e2
  go_enter Tryz.func101, Tryz.ntmps101
  go_wp2_with fail
  go_region_held3 (fun _ => True) (trivial) (first | (go_at_call 123; refine C1.mono ?_; rintro e w1 ⟨rfl, b1⟩))
  have b1' : Below w.heap.size w w1 := ⟨b1.os, b1.tape, b1.output, b1.size, b1.block⟩
  have C2 := HC2.out w1.drew ⟨b1.os, b1.tape, b1.output, b1.size, b1.block⟩
  clear C1 HC2
  go_wp2_with fail
  go_region_held3 (fun _ => True) (trivial) (first | (go_at_call 123; refine C2.mono ?_; rintro e w2 ⟨rfl, b2⟩))
  have b2' : Below w1.heap.size w1 w2 := ⟨b2.os, b2.tape, b2.output, b2.size, b2.block⟩
  have B4 : Below w.heap.size w w2 := b1'.trans (b2'.mono b1'.size)
  have c4 := (B4.cell (p := ⟨b, 1, none⟩) hbl).trans c3
  clear C2 b1 b2 b1' b2' c3
  go_wp2_with fail
  go_ret
  exact ⟨rfl, B4⟩
end Go.Proofs.YtcifalelnfeggaaGreatDoor

namespace Go.Proofs.YtcifalelnfeggaaGreatDoor
open Go.RowKit
set_option linter.unusedVariables false

/-! What blocks cost: storedCost, plainCost, ownCost. -/
theorem getD_bd9 {zs : List Int} {P : Int → Prop} (h0 : P 0) (h : ∀ i, i < zs.length → P (zs.getD i 0)) (i : Nat) : P (zs.getD i 0) := by
  by_cases hi : i < zs.length
  · exact h i hi
  · rwa [show zs.getD i 0 = 0 by simp only [List.getD, List.getElem?_eq_none (Nat.le_of_not_lt hi), Option.getD_none]]
theorem errOf_ok9 {zs : List Int} (h : zs.length ≤ 288) (hb : ∀ i, 0 ≤ zs.getD i 0 ∧ zs.getD i 0 ≤ 1099511627776) : errOf zs = 0 := by
  refine errOf_ok (by omega) ?_
  rw [List.take_of_length_le (Nat.le_refl _), List.all_eq_true]
  intro z hz
  obtain ⟨i, hi, rfl⟩ := List.mem_iff_getElem.1 hz
  have := hb i
  simp only [List.getD, List.getElem?_eq_getElem hi, Option.getD_some] at this
  unfold okF
  exact decide_eq_true this
theorem errL_ok9 {zs : List Int} (h : zs.length ≤ 288) (hb : ∀ i, 0 ≤ zs.getD i 0 ∧ zs.getD i 0 ≤ 1099511627776) : errL 15 zs = 0 := by
  have he := errOf_ok9 h hb
  have hu : nUse zs ≤ 288 := by
    rw [nUse_us]
    unfold usI
    have := List.length_filter_le (fun i => decide (zs.getD i 0 ≠ 0)) (List.range zs.length)
    rw [List.length_range] at this
    omega
  unfold errL
  rw [if_neg (by omega), if_pos he, if_neg]
  have : (2 : Nat) ^ (15 : Int).toNat = 32768 := rfl
  omega
theorem lensR_len9 {zs : List Int} (h : zs.length ≤ 288) (hb : ∀ i, 0 ≤ zs.getD i 0 ∧ zs.getD i 0 ≤ 1099511627776) : (lensR 15 zs).length = zs.length := by
  unfold lensR
  rw [if_pos (errL_ok9 h hb), lens_len]
/-- Counts that may be. -/
def Ct9 (X : List Int) : Prop := ∀ j, 0 ≤ X.getD j 0 ∧ X.getD j 0 ≤ 1099511627776
theorem cl9_bd {X : List Int} (h : Ct9 X) : ∀ i, 0 ≤ (cl9 X).getD i 0 ∧ (cl9 X).getD i 0 ≤ 1099511627776 :=
  getD_bd9 (P := fun z => 0 ≤ z ∧ z ≤ 1099511627776) (by omega) fun i hi => by rw [cl9_len] at hi; rw [cl9_get _ hi]; exact h _
theorem cd9_bd {X : List Int} (h : Ct9 X) : ∀ i, 0 ≤ (cd9 X).getD i 0 ∧ (cd9 X).getD i 0 ≤ 1099511627776 :=
  getD_bd9 (P := fun z => 0 ≤ z ∧ z ≤ 1099511627776) (by omega) fun i hi => by rw [cd9_len] at hi; rw [cd9_get _ hi]; exact h _
theorem oL9_len {X : List Int} (h : Ct9 X) : (oL9 X).length = 286 ∧ (oD9 X).length = 30 := by
  unfold oL9 oD9
  rw [lensR_len9 (by rw [cl9_len]; omega) (cl9_bd h), lensR_len9 (by rw [cd9_len]; omega) (cd9_bd h), cl9_len, cd9_len]
  exact ⟨rfl, rfl⟩
theorem tst9_bd {X : List Int} (hX : X.length = 318) {t : Tok7} (hf : t.Fit) (hm : may7 t) (j : Nat) : X.getD j 0 ≤ (tst9 X t).getD j 0 ∧ (tst9 X t).getD j 0 ≤ X.getD j 0 + 300 := by
  obtain ⟨a, b, c⟩ := fit_may9 hf hm
  have hw := wid7_le t
  unfold tst9
  rcases c with ⟨c, _⟩ | ⟨c, c3, c4, c5, c6, _⟩
  · rw [if_pos c, inc9_get _ _ _ _ (by rw [inc9_len, hX]; omega), inc9_get _ _ _ _ (by omega)]
    split <;> split <;> omega
  · have h1 := (lspec9 c3).2.1
    have h2 := (dspec9 c5).2.1
    have b1 := lnb9 (lix9 t.len)
    have b2 := dsb9 (dix9 t.dist)
    rw [if_neg c, inc9_get _ _ _ _ (by simp only [inc9_len, hX]; omega), inc9_get _ _ _ _ (by simp only [inc9_len, hX]; omega), inc9_get _ _ _ _ (by simp only [inc9_len, hX]; omega), inc9_get _ _ _ _ (by simp only [inc9_len, hX]; omega), inc9_get _ _ _ _ (by omega)]
    generalize lnS9.getD (lix9 t.len * 2 + 1) 0 = z1 at *
    generalize dsS9.getD (dix9 t.dist * 2 + 1) 0 = z2 at *
    have e1 : ∀ (P : Prop) [Decidable P] (v : Int), 0 ≤ v → 0 ≤ (if P then v else 0) ∧ (if P then v else 0) ≤ v := fun P _ v hv => by split <;> omega
    have q1 := e1 (0 = j) (wid7 t) (by omega)
    have q2 := e1 (259 + lix9 t.len = j) 1 (by omega)
    have q3 := e1 (1 = j) z1 (by omega)
    have q4 := e1 (288 + dix9 t.dist = j) 1 (by omega)
    have q5 := e1 (1 = j) z2 (by omega)
    omega
theorem tals9_bdk (l : List Tok7) (hf : ∀ t ∈ l, t.Fit) (hm : ∀ t ∈ l, may7 t) (j : Nat) : ∀ k, k ≤ l.length → 0 ≤ (tals9 (l.take k)).getD j 0 ∧ (tals9 (l.take k)).getD j 0 ≤ 300 * (k : Int)
  | 0, _ => by
    rw [List.take_zero]
    have : (tals9 []).getD j 0 = 0 := repl_get 318 j
    rw [this]
    omega
  | k + 1, hk => by
    have h1 := tals9_bdk l hf hm j k (by omega)
    have hmem : l.getD k tk0 ∈ l := by simp only [List.getD, List.getElem?_eq_getElem (show k < l.length by omega), Option.getD_some]; exact List.getElem_mem _
    have h2 := tst9_bd (tals9_len (l.take k)) (hf _ hmem) (hm _ hmem) j
    rw [takeT7 (by omega), tals9_snoc]
    omega
theorem tals9_bd (l : List Tok7) (hf : ∀ t ∈ l, t.Fit) (hm : ∀ t ∈ l, may7 t) (j : Nat) : 0 ≤ (tals9 l).getD j 0 ∧ (tals9 l).getD j 0 ≤ 300 * (l.length : Int) := by
  have := tals9_bdk l hf hm j l.length (Nat.le_refl _)
  rwa [List.take_of_length_le (Nat.le_refl _)] at this
theorem tal9_ct {l : List Tok7} (h : mer9 l = 0) (hf : ∀ t ∈ l, t.Fit) : Ct9 (tal9 l) := by
  obtain ⟨h1, h2⟩ := mer9_zero h
  intro j
  unfold tal9
  rw [gset9 _ _ _ _ (by rw [tals9_len]; omega)]
  have := tals9_bd l hf h2 j
  split <;> omega
theorem bts9_bd {X ZL ZD : List Int} (h : Ct9 X) : 0 ≤ bts9 X ZL ZD ∧ bts9 X ZL ZD ≤ 9499780463984640 + 1099511627776 := by
  unfold bts9
  have b1 := costO9_bd (xs := cl9 X) (ys := ZL.take 286) rfl (by rw [List.length_take]; omega)
  have b2 := costO9_bd (xs := cd9 X) (ys := ZD.take 30) rfl (by rw [List.length_take]; omega)
  have b3 := h 1
  omega
def sto9 (x : Nat) (X : List Int) : Int := 35 + (((8 - (x + 3) % 8) % 8 : Nat) : Int) + 8 * X.getD 0 0
set_option maxRecDepth 100000 in
set_option maxHeartbeats 4000000 in
theorem pstc9 (b : Nat) (X : List Int) (x : Nat) (hx : x < 8) (w : World) (h : Ta9 w b X) (hc : Ct9 X) :
    Calls Tryz.prog 74 #[.int .i64 (x : Int), .pointer (some ⟨b, 0, none⟩)] w fun e w' => e = .returned (.int .i64 (sto9 x X)) ∧ w' = w := by
  have c0 := h.cell (i := 0) (by omega)
  have bb := hc 0
  unfold sto9
  generalize X.getD 0 0 = z at *
  clear h hc
  have hz8 : IntKind.i64.wrap (8 * z) = 8 * z := IntWalk.i64_in _ (by omega)
  obtain rfl | rfl | rfl | rfl | rfl | rfl | rfl | rfl : x = 0 ∨ x = 1 ∨ x = 2 ∨ x = 3 ∨ x = 4 ∨ x = 5 ∨ x = 6 ∨ x = 7 := by omega
  all_goals
    go_enter Tryz.func74, Tryz.ntmps74
    go_wp2_with fail
    go_ret
    first | exact ⟨rfl, rfl⟩ | (refine ⟨?_, rfl⟩; congr 2; simp)
set_option maxRecDepth 100000 in
set_option maxHeartbeats 4000000 in
theorem pplc9 (b : Nat) (X : List Int) (v : Value) (w : World) (h : Ta9 w b X) (hc : Ct9 X) :
    Calls Tryz.prog 77 #[v, .pointer (some ⟨b, 0, none⟩)] w fun e w' => e = .returned (.int .i64 (3 + bts9 X plnL9 plnD9)) ∧ Below w.heap.size w w' := by
  have HT : Hid (Ta9 w b X) := h
  have hlt := h.lt
  have BB := bts9_bd (X := X) (ZL := plnL9) (ZD := plnD9) hc
  obtain ⟨V, hV⟩ : ∃ V, V = bts9 X plnL9 plnD9 := ⟨_, rfl⟩
  have HV : Hid (bts9 X plnL9 plnD9 = V) := hV.symm
  rw [← hV] at BB ⊢
  clear h hV
  go_enter Tryz.func77, Tryz.ntmps77
  go_wp2_with fail
  refine (pplain9 w).mono ?_
  rintro e w1 ⟨la, lc, da, rfl, OL, OD, _, b1⟩
  obtain ⟨gl, rfl, hcl, _, _⟩ := own_shape1 OL (by omega)
  have CB := pbits9 b X plnL9 plnD9 gl da 288 lc 32 32 plnL9_len rfl w1 (HT.out.keep (b1.block b hlt)) (own_segZ OL plnL9_bd) (own_segZ OD plnD9_bd) (by omega) hcl (by omega) (by omega)
  rw [HV.out] at CB
  clear OL OD
  go_wp2_with fail
  refine CB.mono ?_
  rintro e w2 ⟨rfl, b2⟩
  have B2 : Below w.heap.size w w2 := b1.trans (b2.mono b1.size)
  clear CB b1 b2
  go_wp2_with fail
  go_ret
  exact ⟨rfl, B2⟩
/-- What the telling of a block's own lengths costs. -/
def hco9 (X : List Int) : Nat := if tld8 errC (oL9 X) (oD9 X) then cst8 (oL9 X) (oD9 X) else 0
def owc9 (X : List Int) : Int := 3 + (hco9 X : Int) + bts9 X (oL9 X) (oD9 X)
end Go.Proofs.YtcifalelnfeggaaGreatDoor
