import Derived.Test.YtmfpdchfofffeaaGreatDoorSa5
import Derived.Deep.RegionHeld3
import Derived.Laws.CopyOwn
import Derived.Laws.IdiomCopy
namespace Go.Proofs.YtmfpdchfofffeaaGreatDoor
open Go.RowKit
set_option linter.unusedVariables false
structure Lr12 (w : World) (b : Nat) (a : Option Addr) (n cap : Nat) (s : List Int) (K gs gf gn gr : Nat) (nx R : List Int) : Prop where
  li : Li12 w b a n cap s K gs gf gn nx
  row : Rz12 w gr R
  rl : R.length = n
  e1 : b ≠ gr
  e2 : gs ≠ gr
  e3 : gf ≠ gr
  e4 : gn ≠ gr
  e5 : ∀ x off, a = some ⟨x, off, none⟩ → 0 < s.length → x ≠ gr
def Wr12 (gn gr : Nat) : Nat → Prop := fun j => j = gn ∨ j = gr
theorem Lr12.kp {w w' : World} {b : Nat} {a : Option Addr} {n cap : Nat} {s : List Int} {K gs gf gn gr : Nat} {nx R nx' R' : List Int} (h : Lr12 w b a n cap s K gs gf gn gr nx R) (hk : Kp (Wr12 gn gr) w w') (h1 : Rz12 w' gn nx') (h2 : Rz12 w' gr R') (l1 : nx'.length = nx.length) (l2 : R'.length = R.length) : Lr12 w' b a n cap s K gs gf gn gr nx' R' := by
  have hl := h.li
  refine ⟨⟨hk.heap hl.hp ?_, hl.seg.kp hk ?_, hl.sm.kp hk ?_, hl.fr.kp hk ?_, h1, by rw [l1, hl.nxl], hl.d1, hl.d2, hl.d3, hl.d4⟩, h2, by rw [l2, h.rl], h.e1, h.e2, h.e3, h.e4, h.e5⟩
  · rintro (e | e); exact hl.d1 e; exact h.e1 e
  · rintro x off ha hp (e | e); exact hl.d4 x off ha hp e; exact h.e5 x off ha hp e
  · rintro (e | e); exact hl.d2 e; exact h.e2 e
  · rintro (e | e); exact hl.d3 e; exact h.e3 e
theorem Lr12.setR {w : World} {b : Nat} {a : Option Addr} {n cap : Nat} {s : List Int} {K gs gf gn gr : Nat} {nx R : List Int} (h : Lr12 w b a n cap s K gs gf gn gr nx R) (i : Nat) (x : Int) : Lr12 (w.setCell ⟨gr, i, none⟩ (.int .i64 x)) b a n cap s K gs gf gn gr nx (R.set i x) :=
  h.kp (.set (Or.inr rfl) _) (h.li.nr.kp (S := fun j => j = gr) (Kp.set (S := fun j => j = gr) rfl _) h.e4) (h.row.set i x) rfl (by simp)
theorem Lr12.setN {w : World} {b : Nat} {a : Option Addr} {n cap : Nat} {s : List Int} {K gs gf gn gr : Nat} {nx R : List Int} (h : Lr12 w b a n cap s K gs gf gn gr nx R) (i : Nat) (x : Int) : Lr12 (w.setCell ⟨gn, i, none⟩ (.int .i64 x)) b a n cap s K gs gf gn gr (nx.set i x) R :=
  h.kp (.set (Or.inl rfl) _) (h.li.nr.set i x) (h.row.kp (S := fun j => j = gn) (Kp.set (S := fun j => j = gn) rfl _) (fun e => h.e4 e.symm)) (by simp) rfl
theorem Lr12.drew {w : World} {b : Nat} {a : Option Addr} {n cap : Nat} {s : List Int} {K gs gf gn gr : Nat} {nx R : List Int} (h : Lr12 w b a n cap s K gs gf gn gr nx R) : Lr12 w.drew b a n cap s K gs gf gn gr nx R :=
  h.kp (Kp.refl _ _).drew h.li.nr.drew h.row.drew rfl rfl
theorem Li12.c0 {w : World} {b : Nat} {a : Option Addr} {n cap : Nat} {s : List Int} {K gs gf gn : Nat} {nx : List Int} (h : Li12 w b a n cap s K gs gf gn nx) : w.cell? ⟨b, 0, none⟩ = some (.slice a n cap) := by simp [World.cell?, h.hp]
theorem Li12.c1 {w : World} {b : Nat} {a : Option Addr} {n cap : Nat} {s : List Int} {K gs gf gn : Nat} {nx : List Int} (h : Li12 w b a n cap s K gs gf gn nx) : w.cell? ⟨b, 1, none⟩ = some (.slice (some ⟨gs, 0, none⟩) n n) := by simp [World.cell?, h.hp]
theorem Li12.c2 {w : World} {b : Nat} {a : Option Addr} {n cap : Nat} {s : List Int} {K gs gf gn : Nat} {nx : List Int} (h : Li12 w b a n cap s K gs gf gn nx) : w.cell? ⟨b, 2, none⟩ = some (.slice (some ⟨gf, 0, none⟩) (K + 1) (K + 1)) := by simp [World.cell?, h.hp]
theorem Li12.c3 {w : World} {b : Nat} {a : Option Addr} {n cap : Nat} {s : List Int} {K gs gf gn : Nat} {nx : List Int} (h : Li12 w b a n cap s K gs gf gn nx) : w.cell? ⟨b, 3, none⟩ = some (.slice (some ⟨gn, 0, none⟩) K K) := by simp [World.cell?, h.hp]
set_option maxRecDepth 100000 in
set_option maxHeartbeats 1000000 in
theorem phd12 (b : Nat) (a : Option Addr) (n cap : Nat) (s : List Int) (K gs gf gn gr : Nat) (nx R : List Int) (i x P : Nat) (w : World) (h : Lr12 w b a n cap s K gs gf gn gr nx R) (hn : Hid (s.length = n)) (hb : n ≤ 16777216) (hK : K ≤ 33554432) (hi : i < n) (hx : Hid (s.getD i 0 = (x : Int))) (hxK : x < K) (hP : Hid (nx.getD x 0 = (P : Int))) (hPn : P < n) :
    Calls Tryz.prog 225 #[.pointer (some ⟨b, 0, none⟩), .slice (some ⟨gr, 0, none⟩) n n, .int .i64 (i : Int)] w fun e w' => e = .returned (.tuple #[]) ∧ Lr12 w' b a n cap s K gs gf gn gr (nx.set x ((P : Int) + 1)) (R.set P (i : Int)) ∧ Kp (Wr12 gn gr) w w' := by
  have hl := h.li
  have q0 := hl.c0
  have q3 := hl.c3
  obtain ⟨ab, off, rfl, c1⟩ := hl.seg.at_ i (by rw [hn.out]; exact hi)
  rw [hx.out] at c1
  have c2 := hl.nr.cell (i := x) (by rw [hl.nxl]; exact hxK)
  rw [hP.out] at c2
  have f2 := hl.nr.free x
  have c3 := h.row.cell (i := P) (by rw [h.rl]; exact hPn)
  have f3 := h.row.free P
  generalize R.getD P 0 = y at c3
  have ii : (i : Int) < (n : Int) := by omega
  have ix : (x : Int) < (K : Int) := by omega
  have iP : (P : Int) < (n : Int) := by omega
  have d1 : ¬ gr = b := fun e => h.e1 e.symm
  have d2 : ¬ gr = gn := fun e => h.e4 e.symm
  have d3 : ¬ gn = gr := h.e4
  have d4 : ¬ b = gr := h.e1
  have d5 : ¬ gn = b := fun e => hl.d1 e.symm
  have HF : Hid (Lr12 ((w.setCell ⟨gr, P, none⟩ (.int .i64 (i : Int))).setCell ⟨gn, x, none⟩ (.int .i64 ((P : Int) + 1))) b (some ⟨ab, off, none⟩) n cap s K gs gf gn gr (nx.set x ((P : Int) + 1)) (R.set P (i : Int))) := (h.setR P i).setN x _
  have HB : Hid (Kp (Wr12 gn gr) w ((w.setCell ⟨gr, P, none⟩ (.int .i64 (i : Int))).setCell ⟨gn, x, none⟩ (.int .i64 ((P : Int) + 1)))) := (Kp.set (S := Wr12 gn gr) (w := w) (Or.inr rfl) _).trans (Kp.set (S := Wr12 gn gr) (Or.inl rfl) _) (fun _ _ e => e)
  clear h hl hP hx
  go_enter Tryz.func225, Tryz.ntmps225
  go_wp2
  refine bodyPost_end (results_none rfl _ _ _) rfl ?_
  exact ⟨rfl, HF.out, HB.out⟩
set_option maxRecDepth 100000 in
set_option maxHeartbeats 1000000 in
theorem ped12 (b : Nat) (a : Option Addr) (n cap : Nat) (s : List Int) (K gs gf gn gr : Nat) (nx R : List Int) (i x P : Nat) (w : World) (h : Lr12 w b a n cap s K gs gf gn gr nx R) (hn : Hid (s.length = n)) (hb : n ≤ 16777216) (hK : K ≤ 33554432) (hi : i < n) (hx : Hid (s.getD i 0 = (x : Int))) (hxK : x < K) (hP : Hid (nx.getD x 0 = (P : Int) + 1)) (hPn : P < n) :
    Calls Tryz.prog 224 #[.pointer (some ⟨b, 0, none⟩), .slice (some ⟨gr, 0, none⟩) n n, .int .i64 (i : Int)] w fun e w' => e = .returned (.tuple #[]) ∧ Lr12 w' b a n cap s K gs gf gn gr (nx.set x (P : Int)) (R.set P (i : Int)) ∧ Kp (Wr12 gn gr) w w' := by
  have hl := h.li
  have q0 := hl.c0
  have q3 := hl.c3
  obtain ⟨ab, off, rfl, c1⟩ := hl.seg.at_ i (by rw [hn.out]; exact hi)
  rw [hx.out] at c1
  have c2 := hl.nr.cell (i := x) (by rw [hl.nxl]; exact hxK)
  rw [hP.out] at c2
  have f2 := hl.nr.free x
  have c3 := h.row.cell (i := P) (by rw [h.rl]; exact hPn)
  have f3 := h.row.free P
  generalize R.getD P 0 = y at c3
  have ii : (i : Int) < (n : Int) := by omega
  have ix : (x : Int) < (K : Int) := by omega
  have iP : (P : Int) < (n : Int) := by omega
  have d1 : ¬ gr = b := fun e => h.e1 e.symm
  have d2 : ¬ gr = gn := fun e => h.e4 e.symm
  have d3 : ¬ gn = gr := h.e4
  have d4 : ¬ b = gr := h.e1
  have d5 : ¬ gn = b := fun e => hl.d1 e.symm
  have d6 : ¬ b = gn := hl.d1
  have HF : Hid (Lr12 ((w.setCell ⟨gn, x, none⟩ (.int .i64 (P : Int))).setCell ⟨gr, P, none⟩ (.int .i64 (i : Int))) b (some ⟨ab, off, none⟩) n cap s K gs gf gn gr (nx.set x (P : Int)) (R.set P (i : Int))) := (h.setN x _).setR P i
  have HB : Hid (Kp (Wr12 gn gr) w ((w.setCell ⟨gn, x, none⟩ (.int .i64 (P : Int))).setCell ⟨gr, P, none⟩ (.int .i64 (i : Int)))) := (Kp.set (S := Wr12 gn gr) (w := w) (Or.inl rfl) _).trans (Kp.set (S := Wr12 gn gr) (Or.inr rfl) _) (fun _ _ e => e)
  clear h hl hP hx
  go_enter Tryz.func224, Tryz.ntmps224
  go_wp2
  refine bodyPost_end (results_none rfl _ _ _) rfl ?_
  exact ⟨rfl, HF.out, HB.out⟩
theorem size_i12 : (Tryz.prog.info? 3).map (·.size) = some 1 := by kernel_rfl
/-- 'copy(next, from)': a whole row is written over. -/
theorem step_copy12 {ops : Array Oper} {o : Oper} {a : Act} {w : World} {K : Act → World → Prop} {Q : Exit → Act → World → Prop} {E : Prop} (hgd : o.guard = none) (d s : Operand)
    (ho : o.op = .call { callee := .builtin .copy, args := #[d, s], argTypes := #[95, 95] })
    (g m sLen sCap : Nat) (sp : Option Addr) (hd : a.eval d = .slice (some ⟨g, 0, none⟩) m m) (hs : a.eval s = .slice sp sLen sCap)
    (X : List Int) (hX : Rz12 w g X) (hXl : X.length = m) (cs : List Int) (hcl : cs.length = m) (hle : m ≤ sLen) (hseg : SegZ w sp cs)
    (h : ∀ w', Rz12 w' g cs → Kp (fun k => k = g) w w' → K (a.put o.dst (.int .i64 (m : Int))) w') :
    if Region.wanted o (yielded ops a.tmps) = true then Oper.wp Tryz.prog o a w K Q else E := by
  have hw : Region.wanted o (yielded ops a.tmps) = true := by simp [Region.wanted, hgd]
  rw [if_pos hw]
  subst hcl
  have hmin : Nat.min sLen cs.length = cs.length := Nat.min_eq_right hle
  obtain ⟨w', hrun, h1, h2⟩ : ∃ w', (Builtin.copy_ #[95, 95] o.type #[.slice (some ⟨g, 0, none⟩) cs.length cs.length, .slice sp sLen sCap]).run Tryz.prog w = .ok (.int .i64 (cs.length : Int)) w' ∧ Rz12 w' g cs ∧ Kp (fun k => k = g) w w' := by
    by_cases h0 : cs.length = 0
    · have e1 : cs = [] := List.eq_nil_of_length_eq_zero h0
      have e2 : X = [] := List.eq_nil_of_length_eq_zero (by omega)
      subst e1 e2
      exact ⟨w, run_copy_none (P := Tryz.prog) w _ _ _ 3 _ _ _ _ _ _ Tryz.underlying95 size_i12 (by simp), hX, Kp.refl _ _⟩
    · obtain ⟨sg, soff, rfl, _⟩ := hseg.at_ 0 (by omega)
      have hrun := run_copy_row Tryz.prog w 95 95 o.type 3 g 0 cs.length cs.length ⟨sg, soff, none⟩ sLen sCap _ 3 (cs.map (Value.int .i64)) Tryz.underlying95 size_i12 hX.hp (by simp; omega) (segZ_cells hseg) (by simp [vi12]; omega) (ints_oneCell _ _)
      have e3 : ((vi12 X).toList.take 0 ++ cs.map (Value.int .i64) ++ (vi12 X).toList.drop (0 + (cs.map (Value.int .i64)).length)).toArray = vi12 cs := by
        have : (vi12 X).toList.drop (0 + (cs.map (Value.int .i64)).length) = [] := List.drop_eq_nil_of_le (by simp [vi12]; omega)
        rw [this]
        simp [vi12]
      rw [e3, List.length_map] at hrun
      exact ⟨w.setRow g (vi12 cs), hrun, ⟨setRow_heap w g _ _ 3 _ hX.hp⟩, ⟨rfl, rfl, rfl, by simp [World.setRow], fun k hk hn => setRow_other w g k _ hn⟩⟩
  unfold Oper.wp
  simp [execOp, ho, resolve, invoke, builtin, hd, hs, hrun, Result.andThen]
  exact h w' h1 h2
end Go.Proofs.YtmfpdchfofffeaaGreatDoor
