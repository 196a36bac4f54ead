import Derived.Test.YtkpfailmmcelcaaPg
import Derived.Deep.RegionHeld3
import Derived.Laws.CopyOwn
import Derived.Laws.IdiomCopy
namespace Go.Proofs.Ytkpfailmmcelcaa
open Go.RowKit
set_option linter.unusedVariables false

/-! The landed list: a row beside it; putHead, putEnd. -/
structure Lr12 (w : World) (b : Nat) (a : Option Addr) (n cap : Nat) (s : List Int) (K gs gf gn gr : Nat) (nx R : List Int) : Prop where
  li : Li12 w b a n cap s K gs gf gn nx
  row : Rz12 w gr R
  rl : R.length = n
  e1 : b ≠ gr
  e2 : gs ≠ gr
  e3 : gf ≠ gr
  e4 : gn ≠ gr
  e5 : ∀ x off, a = some ⟨x, off, none⟩ → 0 < s.length → x ≠ gr
def Wr12 (gn gr : Nat) : Nat → Prop := fun j => j = gn ∨ j = gr
theorem Lr12.kp {w w' : World} {b : Nat} {a : Option Addr} {n cap : Nat} {s : List Int} {K gs gf gn gr : Nat} {nx R nx' R' : List Int} (h : Lr12 w b a n cap s K gs gf gn gr nx R) (hk : Kp (Wr12 gn gr) w w') (h1 : Rz12 w' gn nx') (h2 : Rz12 w' gr R') (l1 : nx'.length = nx.length) (l2 : R'.length = R.length) : Lr12 w' b a n cap s K gs gf gn gr nx' R' := by
  have hl := h.li
  refine ⟨⟨hk.heap hl.hp ?_, hl.seg.kp hk ?_, hl.sm.kp hk ?_, hl.fr.kp hk ?_, h1, by rw [l1, hl.nxl], hl.d1, hl.d2, hl.d3, hl.d4⟩, h2, by rw [l2, h.rl], h.e1, h.e2, h.e3, h.e4, h.e5⟩
  · rintro (e | e); exact hl.d1 e; exact h.e1 e
  · rintro x off ha hp (e | e); exact hl.d4 x off ha hp e; exact h.e5 x off ha hp e
  · rintro (e | e); exact hl.d2 e; exact h.e2 e
  · rintro (e | e); exact hl.d3 e; exact h.e3 e
theorem Lr12.setR {w : World} {b : Nat} {a : Option Addr} {n cap : Nat} {s : List Int} {K gs gf gn gr : Nat} {nx R : List Int} (h : Lr12 w b a n cap s K gs gf gn gr nx R) (i : Nat) (x : Int) : Lr12 (w.setCell ⟨gr, i, none⟩ (.int .i64 x)) b a n cap s K gs gf gn gr nx (R.set i x) :=
  h.kp (.set (Or.inr rfl) _) (h.li.nr.kp (S := fun j => j = gr) (Kp.set (S := fun j => j = gr) rfl _) h.e4) (h.row.set i x) rfl (by simp)
theorem Lr12.setN {w : World} {b : Nat} {a : Option Addr} {n cap : Nat} {s : List Int} {K gs gf gn gr : Nat} {nx R : List Int} (h : Lr12 w b a n cap s K gs gf gn gr nx R) (i : Nat) (x : Int) : Lr12 (w.setCell ⟨gn, i, none⟩ (.int .i64 x)) b a n cap s K gs gf gn gr (nx.set i x) R :=
  h.kp (.set (Or.inl rfl) _) (h.li.nr.set i x) (h.row.kp (S := fun j => j = gn) (Kp.set (S := fun j => j = gn) rfl _) (fun e => h.e4 e.symm)) (by simp) rfl
theorem Lr12.drew {w : World} {b : Nat} {a : Option Addr} {n cap : Nat} {s : List Int} {K gs gf gn gr : Nat} {nx R : List Int} (h : Lr12 w b a n cap s K gs gf gn gr nx R) : Lr12 w.drew b a n cap s K gs gf gn gr nx R :=
  h.kp (Kp.refl _ _).drew h.li.nr.drew h.row.drew rfl rfl
theorem Li12.c0 {w : World} {b : Nat} {a : Option Addr} {n cap : Nat} {s : List Int} {K gs gf gn : Nat} {nx : List Int} (h : Li12 w b a n cap s K gs gf gn nx) : w.cell? ⟨b, 0, none⟩ = some (.slice a n cap) := by simp [World.cell?, h.hp]
theorem Li12.c1 {w : World} {b : Nat} {a : Option Addr} {n cap : Nat} {s : List Int} {K gs gf gn : Nat} {nx : List Int} (h : Li12 w b a n cap s K gs gf gn nx) : w.cell? ⟨b, 1, none⟩ = some (.slice (some ⟨gs, 0, none⟩) n n) := by simp [World.cell?, h.hp]
theorem Li12.c2 {w : World} {b : Nat} {a : Option Addr} {n cap : Nat} {s : List Int} {K gs gf gn : Nat} {nx : List Int} (h : Li12 w b a n cap s K gs gf gn nx) : w.cell? ⟨b, 2, none⟩ = some (.slice (some ⟨gf, 0, none⟩) (K + 1) (K + 1)) := by simp [World.cell?, h.hp]
theorem Li12.c3 {w : World} {b : Nat} {a : Option Addr} {n cap : Nat} {s : List Int} {K gs gf gn : Nat} {nx : List Int} (h : Li12 w b a n cap s K gs gf gn nx) : w.cell? ⟨b, 3, none⟩ = some (.slice (some ⟨gn, 0, none⟩) K K) := by simp [World.cell?, h.hp]
set_option maxRecDepth 100000 in
set_option maxHeartbeats 1000000 in
theorem phd12 (b : Nat) (a : Option Addr) (n cap : Nat) (s : List Int) (K gs gf gn gr : Nat) (nx R : List Int) (i x P : Nat) (w : World) (h : Lr12 w b a n cap s K gs gf gn gr nx R) (hn : Hid (s.length = n)) (hb : n ≤ 16777216) (hK : K ≤ 33554432) (hi : i < n) (hx : Hid (s.getD i 0 = (x : Int))) (hxK : x < K) (hP : Hid (nx.getD x 0 = (P : Int))) (hPn : P < n) :
    Calls Try.prog 67 #[.pointer (some ⟨b, 0, none⟩), .slice (some ⟨gr, 0, none⟩) n n, .int .i64 (i : Int)] w fun e w' => e = .returned (.tuple #[]) ∧ Lr12 w' b a n cap s K gs gf gn gr (nx.set x ((P : Int) + 1)) (R.set P (i : Int)) ∧ Kp (Wr12 gn gr) w w' := by
  have hl := h.li
  have q0 := hl.c0
  have q3 := hl.c3
  obtain ⟨ab, off, rfl, c1⟩ := hl.seg.at_ i (by rw [hn.out]; exact hi)
  rw [hx.out] at c1
  have c2 := hl.nr.cell (i := x) (by rw [hl.nxl]; exact hxK)
  rw [hP.out] at c2
  have f2 := hl.nr.free x
  have c3 := h.row.cell (i := P) (by rw [h.rl]; exact hPn)
  have f3 := h.row.free P
  generalize R.getD P 0 = y at c3
  have ii : (i : Int) < (n : Int) := by omega
  have ix : (x : Int) < (K : Int) := by omega
  have iP : (P : Int) < (n : Int) := by omega
  have d1 : ¬ gr = b := fun e => h.e1 e.symm
  have d2 : ¬ gr = gn := fun e => h.e4 e.symm
  have d3 : ¬ gn = gr := h.e4
  have d4 : ¬ b = gr := h.e1
  have d5 : ¬ gn = b := fun e => hl.d1 e.symm
  have HF : Hid (Lr12 ((w.setCell ⟨gr, P, none⟩ (.int .i64 (i : Int))).setCell ⟨gn, x, none⟩ (.int .i64 ((P : Int) + 1))) b (some ⟨ab, off, none⟩) n cap s K gs gf gn gr (nx.set x ((P : Int) + 1)) (R.set P (i : Int))) := (h.setR P i).setN x _
  have HB : Hid (Kp (Wr12 gn gr) w ((w.setCell ⟨gr, P, none⟩ (.int .i64 (i : Int))).setCell ⟨gn, x, none⟩ (.int .i64 ((P : Int) + 1)))) := (Kp.set (S := Wr12 gn gr) (w := w) (Or.inr rfl) _).trans (Kp.set (S := Wr12 gn gr) (Or.inl rfl) _) (fun _ _ e => e)
  clear h hl hP hx
  go_enter Try.func67, Try.ntmps67
  go_wp2
  refine bodyPost_end (results_none rfl _ _ _) rfl ?_
  exact ⟨rfl, HF.out, HB.out⟩
set_option maxRecDepth 100000 in
set_option maxHeartbeats 1000000 in
theorem ped12 (b : Nat) (a : Option Addr) (n cap : Nat) (s : List Int) (K gs gf gn gr : Nat) (nx R : List Int) (i x P : Nat) (w : World) (h : Lr12 w b a n cap s K gs gf gn gr nx R) (hn : Hid (s.length = n)) (hb : n ≤ 16777216) (hK : K ≤ 33554432) (hi : i < n) (hx : Hid (s.getD i 0 = (x : Int))) (hxK : x < K) (hP : Hid (nx.getD x 0 = (P : Int) + 1)) (hPn : P < n) :
    Calls Try.prog 66 #[.pointer (some ⟨b, 0, none⟩), .slice (some ⟨gr, 0, none⟩) n n, .int .i64 (i : Int)] w fun e w' => e = .returned (.tuple #[]) ∧ Lr12 w' b a n cap s K gs gf gn gr (nx.set x (P : Int)) (R.set P (i : Int)) ∧ Kp (Wr12 gn gr) w w' := by
  have hl := h.li
  have q0 := hl.c0
  have q3 := hl.c3
  obtain ⟨ab, off, rfl, c1⟩ := hl.seg.at_ i (by rw [hn.out]; exact hi)
  rw [hx.out] at c1
  have c2 := hl.nr.cell (i := x) (by rw [hl.nxl]; exact hxK)
  rw [hP.out] at c2
  have f2 := hl.nr.free x
  have c3 := h.row.cell (i := P) (by rw [h.rl]; exact hPn)
  have f3 := h.row.free P
  generalize R.getD P 0 = y at c3
  have ii : (i : Int) < (n : Int) := by omega
  have ix : (x : Int) < (K : Int) := by omega
  have iP : (P : Int) < (n : Int) := by omega
  have d1 : ¬ gr = b := fun e => h.e1 e.symm
  have d2 : ¬ gr = gn := fun e => h.e4 e.symm
  have d3 : ¬ gn = gr := h.e4
  have d4 : ¬ b = gr := h.e1
  have d5 : ¬ gn = b := fun e => hl.d1 e.symm
  have d6 : ¬ b = gn := hl.d1
  have HF : Hid (Lr12 ((w.setCell ⟨gn, x, none⟩ (.int .i64 (P : Int))).setCell ⟨gr, P, none⟩ (.int .i64 (i : Int))) b (some ⟨ab, off, none⟩) n cap s K gs gf gn gr (nx.set x (P : Int)) (R.set P (i : Int))) := (h.setN x _).setR P i
  have HB : Hid (Kp (Wr12 gn gr) w ((w.setCell ⟨gn, x, none⟩ (.int .i64 (P : Int))).setCell ⟨gr, P, none⟩ (.int .i64 (i : Int)))) := (Kp.set (S := Wr12 gn gr) (w := w) (Or.inl rfl) _).trans (Kp.set (S := Wr12 gn gr) (Or.inr rfl) _) (fun _ _ e => e)
  clear h hl hP hx
  go_enter Try.func66, Try.ntmps66
  go_wp2
  refine bodyPost_end (results_none rfl _ _ _) rfl ?_
  exact ⟨rfl, HF.out, HB.out⟩
theorem size_i12 : (Try.prog.info? 3).map (·.size) = some 1 := by kernel_rfl
/-- 'copy(next, from)': a whole row is written over. -/
theorem step_copy12 {ops : Array Oper} {o : Oper} {a : Act} {w : World} {K : Act → World → Prop} {Q : Exit → Act → World → Prop} {E : Prop} (hgd : o.guard = none) (d s : Operand)
    (ho : o.op = .call { callee := .builtin .copy, args := #[d, s], argTypes := #[28, 28] })
    (g m sLen sCap : Nat) (sp : Option Addr) (hd : a.eval d = .slice (some ⟨g, 0, none⟩) m m) (hs : a.eval s = .slice sp sLen sCap)
    (X : List Int) (hX : Rz12 w g X) (hXl : X.length = m) (cs : List Int) (hcl : cs.length = m) (hle : m ≤ sLen) (hseg : SegZ w sp cs)
    (h : ∀ w', Rz12 w' g cs → Kp (fun k => k = g) w w' → K (a.put o.dst (.int .i64 (m : Int))) w') :
    if Region.wanted o (yielded ops a.tmps) = true then Oper.wp Try.prog o a w K Q else E := by
  have hw : Region.wanted o (yielded ops a.tmps) = true := by simp [Region.wanted, hgd]
  rw [if_pos hw]
  subst hcl
  have hmin : Nat.min sLen cs.length = cs.length := Nat.min_eq_right hle
  obtain ⟨w', hrun, h1, h2⟩ : ∃ w', (Builtin.copy_ #[28, 28] o.type #[.slice (some ⟨g, 0, none⟩) cs.length cs.length, .slice sp sLen sCap]).run Try.prog w = .ok (.int .i64 (cs.length : Int)) w' ∧ Rz12 w' g cs ∧ Kp (fun k => k = g) w w' := by
    by_cases h0 : cs.length = 0
    · have e1 : cs = [] := List.eq_nil_of_length_eq_zero h0
      have e2 : X = [] := List.eq_nil_of_length_eq_zero (by omega)
      subst e1 e2
      exact ⟨w, run_copy_none (P := Try.prog) w _ _ _ 3 _ _ _ _ _ _ Try.underlying28 size_i12 (by simp), hX, Kp.refl _ _⟩
    · obtain ⟨sg, soff, rfl, _⟩ := hseg.at_ 0 (by omega)
      have hrun := run_copy_row Try.prog w 28 28 o.type 3 g 0 cs.length cs.length ⟨sg, soff, none⟩ sLen sCap _ 3 (cs.map (Value.int .i64)) Try.underlying28 size_i12 hX.hp (by simp; omega) (segZ_cells hseg) (by simp [vi12]; omega) (ints_oneCell _ _)
      have e3 : ((vi12 X).toList.take 0 ++ cs.map (Value.int .i64) ++ (vi12 X).toList.drop (0 + (cs.map (Value.int .i64)).length)).toArray = vi12 cs := by
        have : (vi12 X).toList.drop (0 + (cs.map (Value.int .i64)).length) = [] := List.drop_eq_nil_of_le (by simp [vi12]; omega)
        rw [this]
        simp [vi12]
      rw [e3, List.length_map] at hrun
      exact ⟨w.setRow g (vi12 cs), hrun, ⟨setRow_heap w g _ _ 3 _ hX.hp⟩, ⟨rfl, rfl, rfl, by simp [World.setRow], fun k hk hn => setRow_other w g k _ hn⟩⟩
  unfold Oper.wp
  simp [execOp, ho, resolve, invoke, builtin, hd, hs, hrun, Result.andThen]
  exact h w' h1 h2
end Go.Proofs.Ytkpfailmmcelcaa

namespace Go.Proofs.Ytkpfailmmcelcaa
open Go.RowKit
set_option linter.unusedVariables false

/-! Rows in memory and rows as functions; putTurns. -/
theorem cnt12_bk (s : List Int) (v : Int) : cnt12 s v = bk12 s.length (S12 s) v := by
  have h : ∀ k, k ≤ s.length → (s.take k).countP (fun x => decide (x < v)) = cn12 (fun i => S12 s i < v) k := by
    intro k
    induction k with
    | zero => intro _; simp [cn12]
    | succ k ih =>
      intro hk
      rw [take_snocZ (by omega), List.countP_append, ih (by omega)]
      rw [show cn12 (fun i => S12 s i < v) (k + 1) = cn12 (fun i => S12 s i < v) k + (if S12 s k < v then 1 else 0) from by rw [cn12]; congr]
      by_cases hx : s.getD k 0 < v
      · have hx2 : S12 s k < v := hx
        rw [if_pos hx2]
        simp only [List.countP_cons, List.countP_nil, hx, decide_true, if_true]
      · have hx2 : ¬ S12 s k < v := hx
        rw [if_neg hx2]
        simp only [List.countP_cons, List.countP_nil, hx, decide_false]
        simp
  have := h s.length (Nat.le_refl _)
  rw [List.take_length] at this
  exact this
structure Lk12 (n : Nat) (s : List Int) (R nx : List Int) (x : Rw12) : Prop where
  row : ∀ q, q < n → R.getD q 0 = x.1 q
  nxt : ∀ i, i < n → nx.getD (S12 s i).toNat 0 = x.2 (S12 s i)
structure Lm12 (n : Nat) (s : List Int) (R nx : List Int) (x : Rw12) : Prop where
  row : ∀ q, q < n → R.getD (n - 1 - q) 0 = x.1 q
  nxt : ∀ i, i < n → nx.getD (S12 s i).toNat 0 = (n : Int) - x.2 (ng12 (S12 s) i)
theorem Wf12.nat {s : List Int} {n K : Nat} (h : Wf12 s n K) {i : Nat} (hi : i < n) : s.getD i 0 = (((S12 s i).toNat : Nat) : Int) ∧ (S12 s i).toNat < K := by
  have := h.val i hi
  have e : S12 s i = s.getD i 0 := rfl
  rw [e]
  omega
theorem Lk12.put {n K : Nat} {s R nx : List Int} {x : Rw12} (h : Lk12 n s R nx x) (hW : Wf12 s n K) (hR : R.length = n) (hN : nx.length = K) {i P : Nat} (hi : i < n) (hP : x.2 (S12 s i) = (P : Int)) (hPn : P < n) : Lk12 n s (R.set P (i : Int)) (nx.set (S12 s i).toNat ((P : Int) + 1)) (put12 (S12 s) x i) := by
  refine ⟨fun q hq => ?_, fun j hj => ?_⟩
  · rw [getD_set12 _ _ _ _ (by omega)]
    show _ = pR12 x.1 x.2 (S12 s) i q
    rw [pR12_at hP, h.row q hq]
  · have h1 := hW.nat hi
    have h2 := hW.nat hj
    rw [getD_set12 _ _ _ _ (by omega)]
    show _ = pH12 x.2 (S12 s) i (S12 s j)
    unfold pH12
    have e1 : S12 s i = s.getD i 0 := rfl
    have e2 : S12 s j = s.getD j 0 := rfl
    by_cases e : S12 s j = S12 s i
    · rw [e, if_pos rfl, if_pos rfl, hP]
    · rw [if_neg (by omega), if_neg e, h.nxt j hj]
theorem Lm12.put {n K : Nat} {s R nx : List Int} {x : Rw12} (h : Lm12 n s R nx x) (hW : Wf12 s n K) (hR : R.length = n) (hN : nx.length = K) {i P : Nat} (hi : i < n) (hP : x.2 (ng12 (S12 s) i) = (P : Int)) (hPn : P < n) : Lm12 n s (R.set (n - 1 - P) (i : Int)) (nx.set (S12 s i).toNat ((n - 1 - P : Nat) : Int)) (put12 (ng12 (S12 s)) x i) := by
  refine ⟨fun q hq => ?_, fun j hj => ?_⟩
  · rw [getD_set12 _ _ _ _ (by omega)]
    show _ = pR12 x.1 x.2 (ng12 (S12 s)) i q
    rw [pR12_at hP, h.row q hq]
    by_cases e : q = P
    · subst e; rw [if_pos rfl, if_pos rfl]
    · rw [if_neg (by omega), if_neg e]
  · have h1 := hW.nat hi
    have h2 := hW.nat hj
    rw [getD_set12 _ _ _ _ (by omega)]
    show _ = (n : Int) - pH12 x.2 (ng12 (S12 s)) i (ng12 (S12 s) j)
    unfold pH12
    have e1 : S12 s i = s.getD i 0 := rfl
    have e2 : S12 s j = s.getD j 0 := rfl
    by_cases e : S12 s j = S12 s i
    · rw [e, if_pos rfl, if_pos (by unfold ng12; omega), show ng12 (S12 s) j = ng12 (S12 s) i by unfold ng12; omega, hP]
      omega
    · rw [if_neg (by omega), if_neg (by unfold ng12; omega), h.nxt j hj]
theorem bnd12_ends {s : List Int} {n K : Nat} (hW : Wf12 s n K) (i : Nat) (hi : i < n) : ((bnd12 K s).drop 1).getD (S12 s i).toNat 0 = (n : Int) - h12 n (ng12 (S12 s)) (ng12 (S12 s) i) := by
  have h1 := hW.nat hi
  have h2 := bk12_ng n (S12 s) (S12 s i)
  have e : ((bnd12 K s).drop 1).getD (S12 s i).toNat 0 = (bnd12 K s).getD ((S12 s i).toNat + 1) 0 := by
    simp only [List.getD, List.getElem?_drop]
    rw [Nat.add_comm]
  have e1 : S12 s i = s.getD i 0 := rfl
  rw [e, bnd12_get K s _ (by omega), cnt12_bk, hW.len, show ((((S12 s i).toNat + 1 : Nat)) : Int) = S12 s i + 1 by omega]
  unfold h12
  rw [show ng12 (S12 s) i = -(S12 s i) from rfl]
  omega
theorem bnd12_heads {s : List Int} {n K : Nat} (hW : Wf12 s n K) (i : Nat) (hi : i < n) : ((bnd12 K s).take K).getD (S12 s i).toNat 0 = h12 n (S12 s) (S12 s i) := by
  have h1 := hW.nat hi
  have e : ((bnd12 K s).take K).getD (S12 s i).toNat 0 = (bnd12 K s).getD (S12 s i).toNat 0 := by
    simp only [List.getD, List.getElem?_take]
    rw [if_pos h1.2]
  have e1 : S12 s i = s.getD i 0 := rfl
  rw [e, bnd12_get K s _ (by omega), cnt12_bk, hW.len, show ((((S12 s i).toNat : Nat)) : Int) = S12 s i by omega]
  rfl
theorem bnd12_bd {s : List Int} {n K : Nat} (hW : Wf12 s n K) : ∀ z ∈ bnd12 K s, -9223372036854775808 ≤ z ∧ z ≤ 9223372036854775807 := by
  intro z hz
  unfold bnd12 at hz
  rw [List.mem_map] at hz
  obtain ⟨u, _, rfl⟩ := hz
  have := cnt12_le s (u : Int)
  have := hW.len
  have := hW.n24
  omega
theorem SegZ.dropZ {w : World} {b off : Nat} {zs : List Int} (h : SegZ w (some ⟨b, off, none⟩) zs) (m : Nat) : SegZ w (some ⟨b, off + m, none⟩) (zs.drop m) := by
  refine ⟨fun i hi => ?_, getD_bdz fun z hz => h.mem z (List.mem_of_mem_drop hz)⟩
  simp at hi
  obtain ⟨b', off', ha, hc⟩ := h.at_ (m + i) (by omega)
  cases ha
  refine ⟨b, off + m, rfl, ?_⟩
  rw [Nat.add_assoc, hc]
  simp [List.getD]
theorem drop_cons12 (o : List Nat) (i d : Nat) (h : i < o.length) : o.drop i = o.getD i d :: o.drop (i + 1) := by
  rw [List.drop_eq_getElem_cons h]
  simp [List.getD, h]
/-- The pass's place for an order's turn. -/
theorem ps12_at {n K : Nat} {s : List Int} {o : List Nat} (hW : Wf12 s n K) (ho : Or12 n (sm12 s) o) {i : Nat} (hi : i < o.length) : o.getD i 0 < n ∧ ∃ P : Nat, P < n ∧ (ps12 n (S12 s) (o.drop (i + 1))).2 (ng12 (S12 s) (o.getD i 0)) = (P : Int) ∧ ps12 n (S12 s) (o.drop i) = put12 (ng12 (S12 s)) (ps12 n (S12 s) (o.drop (i + 1))) (o.getD i 0) := by
  have hm : o.getD i 0 ∈ o := by simp [List.getD, hi]
  have hs := ho.small _ hm
  have hnd : (o.drop i).Nodup := List.Sublist.nodup (List.drop_sublist _ _) ho.nd
  rw [drop_cons12 o i 0 hi] at hnd
  obtain ⟨h1, h2⟩ := ps12_st (n := n) (S := S12 s) (sm := sm12 s) (o.drop (i + 1)) (List.nodup_cons.1 hnd).2 (fun j hj => ho.small j (List.mem_of_mem_drop hj))
  obtain ⟨P, eP, _, _, _, hPn, _⟩ := h1.place hs.1 hs.2 (fun k => (List.nodup_cons.1 hnd).1 ((h2 _).1 k))
  exact ⟨hs.1, P, hPn, eP, by rw [drop_cons12 o i 0 hi]; rfl⟩
end Go.Proofs.Ytkpfailmmcelcaa

namespace Go.Proofs.Ytkpfailmmcelcaa
open Go.RowKit
set_option linter.unusedVariables false

/-! The landed putTurns and putSmall. -/
set_option maxRecDepth 100000 in
set_option maxHeartbeats 4000000 in
theorem ppt12 (b : Nat) (a : Option Addr) (n cap : Nat) (s : List Int) (K gs gf gn gr : Nat) (nx R : List Int) (oa : Option Addr) (o : List Nat) (m oc : Nat) (w : World) (h : Lr12 w b a n cap s K gs gf gn gr nx R) (hW : Wf12 s n K) (hR : ∀ q, q < n → R.getD q 0 = -1) (ho : Or12 n (sm12 s) o) (hm : Hid (o.length = m)) (hmb : m ≤ 16777216) (hseg : SegZ w oa (nz12 o)) (hoa : ∀ x off, oa = some ⟨x, off, none⟩ → 0 < (nz12 o).length → x ≠ gn ∧ x ≠ gr) :
    Calls Try.prog 59 #[.pointer (some ⟨b, 0, none⟩), .slice (some ⟨gr, 0, none⟩) n n, .slice oa m oc] w fun e w' => e = .returned (.tuple #[]) ∧ ∃ nx' R', Lr12 w' b a n cap s K gs gf gn gr nx' R' ∧ Lm12 n s R' nx' (ps12 n (S12 s) o) ∧ Kp (Wr12 gn gr) w w' := by
  have hl := h.li
  have q2 := hl.c2
  have q3 := hl.c3
  have n24 := hW.n24
  have K25 := hW.K25
  have hn : Hid (s.length = n) := hW.len
  have HCS : Hid (((bnd12 K s).drop 1).length = K) := by show _ = _; simp [bnd12_len]
  have HSG : Hid (∀ w', Rz12 w' gf (bnd12 K s) → SegZ w' (some ⟨gf, 1, none⟩) ((bnd12 K s).drop 1)) := fun w' h1 => by have := (h1.seg (bnd12_bd hW)).dropZ 1; simpa using this
  have HS0 : Hid (∀ sp w', K = 0 → SegZ w' sp ((bnd12 K s).drop 1)) := fun sp w' hk => by
    have : (bnd12 K s).drop 1 = [] := List.eq_nil_of_length_eq_zero (by rw [HCS.out, hk])
    rw [this]; exact SegZ.nil _ _
  have HX : Hid (Rz12 w.drew gn nx ∧ nx.length = K ∧ Rz12 w.drew gf (bnd12 K s)) := ⟨hl.nr.drew, hl.nxl, hl.fr.drew⟩
  have HLR : Hid (∀ w1, Rz12 w1 gn ((bnd12 K s).drop 1) → Kp (fun k => k = gn) w.drew w1 → Lr12 w1 b a n cap s K gs gf gn gr ((bnd12 K s).drop 1) R ∧ Kp (Wr12 gn gr) w w1) := by
    intro w1 h1 k1
    have kk : Kp (Wr12 gn gr) w w1 := (Kp.refl _ _).drew.trans (k1.mono (S' := Wr12 gn gr) (fun i _ e => Or.inl e)) (fun _ _ e => e)
    exact ⟨h.kp kk h1 (h.row.drew.kp k1 (fun e => h.e4 e.symm)) (by rw [HCS.out, hl.nxl]) rfl, kk⟩
  have HST : Hid (Lm12 n s R ((bnd12 K s).drop 1) (ps12 n (S12 s) (o.drop (m - 0)))) := by
    rw [show o.drop (m - 0) = [] from List.drop_eq_nil_of_le (by rw [hm.out]; omega)]
    exact ⟨fun q hq => hR (n - 1 - q) (by omega), fun i hi => bnd12_ends hW i hi⟩
  have HAT : Hid (∀ i, i < m → o.getD i 0 < n ∧ ∃ P : Nat, P < n ∧ (ps12 n (S12 s) (o.drop (i + 1))).2 (ng12 (S12 s) (o.getD i 0)) = (P : Int) ∧ ps12 n (S12 s) (o.drop i) = put12 (ng12 (S12 s)) (ps12 n (S12 s) (o.drop (i + 1))) (o.getD i 0)) := fun i hi => ps12_at hW ho (by rw [hm.out]; exact hi)
  clear h hl hR
  by_cases hK0 : K = 0
  · subst hK0
    go_enter Try.func59, Try.ntmps59
    go_wp2_with fail
    go_region_held3 (fun w' => w'.cell? ⟨b, 3, none⟩ = some (.slice (some ⟨gn, 0, none⟩) 0 0) ∧ w'.cell? ⟨b, 2, none⟩ = some (.slice (some ⟨gf, 0, none⟩) 1 1))
      (first | go_keep | exact ⟨(HLR.out _ R1 K1).1.li.c3, (HLR.out _ R1 K1).1.li.c2⟩)
      (first
        | (refine step_copy12 rfl (.tmp 11) (.tmp 16) rfl gn 0 _ _ _ rfl rfl nx HX.out.1 HX.out.2.1 ((bnd12 0 s).drop 1) HCS.out (Nat.le_refl _) (HS0.out _ _ (by first | trivial | rfl)) ?_; intro w1 R1 K1))
    obtain ⟨L1, KA⟩ := HLR.out w1 R1 K1
    clear R1 K1
    go_wp2_with fail
    go_loopw [21] (fun ti wr => ∃ (k : Nat) (nx' R' : List Int), k ≤ m ∧ ti = .int .i64 k ∧ Lr12 wr b a n cap s 0 gs gf gn gr nx' R' ∧ Lm12 n s R' nx' (ps12 n (S12 s) (o.drop (m - k))) ∧ Kp (Wr12 gn gr) w wr) (fun ti _ => m - (intOf ti).toNat)
    case atStart => exact ⟨0, _, _, Nat.zero_le _, rfl, L1, HST.out, KA⟩
    case round =>
      obtain ⟨k, nx', R', hk, rfl, LR, LM, KB⟩ := hrel
      by_cases h1 : k < m
      · exact absurd (hW.nat (HAT.out (m - 1) (by omega)).1).2 (Nat.not_lt_zero _)
      · have h1i : ¬ (k : Int) < (m : Int) := by omega
        obtain rfl : k = m := by omega
        go_wp2_with fail
        refine bodyPost_end (results_none rfl _ _ _) rfl ?_
        refine ⟨rfl, nx', R', LR, ?_, KB⟩
        rw [Nat.sub_self] at LM
        exact LM
  · have k1 : ¬ K + 1 = 1 := by omega
    have k2 : (1 : Int) ≤ (K : Int) + 1 := by omega
    go_enter Try.func59, Try.ntmps59
    go_wp2_with fail
    go_region_held3 (fun w' => w'.cell? ⟨b, 3, none⟩ = some (.slice (some ⟨gn, 0, none⟩) K K) ∧ w'.cell? ⟨b, 2, none⟩ = some (.slice (some ⟨gf, 0, none⟩) (K + 1) (K + 1)))
      (first | go_keep | exact ⟨(HLR.out _ R1 K1).1.li.c3, (HLR.out _ R1 K1).1.li.c2⟩)
      (first
        | (refine step_copy12 rfl (.tmp 11) (.tmp 16) rfl gn K _ _ _ rfl rfl nx HX.out.1 HX.out.2.1 ((bnd12 K s).drop 1) HCS.out (Nat.le_refl _) (HSG.out _ HX.out.2.2) ?_; intro w1 R1 K1))
    obtain ⟨L1, KA⟩ := HLR.out w1 R1 K1
    clear R1 K1
    go_wp2_with fail
    go_loopw [21] (fun ti wr => ∃ (k : Nat) (nx' R' : List Int), k ≤ m ∧ ti = .int .i64 k ∧ Lr12 wr b a n cap s K gs gf gn gr nx' R' ∧ Lm12 n s R' nx' (ps12 n (S12 s) (o.drop (m - k))) ∧ Kp (Wr12 gn gr) w wr) (fun ti _ => m - (intOf ti).toNat)
    case atStart => exact ⟨0, _, _, Nat.zero_le _, rfl, L1, HST.out, KA⟩
    case round =>
      obtain ⟨k, nx', R', hk, rfl, LR, LM, KB⟩ := hrel
      by_cases h1 : k < m
      · have h1i : (k : Int) < (m : Int) := by omega
        obtain ⟨i, hi⟩ : ∃ i, m = i + 1 + k := ⟨m - 1 - k, by omega⟩
        have ei : (m : Int) - 1 - (k : Int) = (i : Int) := by omega
        have im : (i : Int) < (m : Int) := by omega
        obtain ⟨hj, P, hPn, eP, eS⟩ := HAT.out i (by omega)
        have HE1 : Hid (o.drop (m - (k + 1)) = o.drop i ∧ o.drop (m - k) = o.drop (i + 1)) := by rw [show m - (k + 1) = i by omega, show m - k = i + 1 by omega]; exact ⟨rfl, rfl⟩
        rw [HE1.out.2] at LM
        obtain ⟨ob, off, rfl, c1⟩ := (hseg.kp KB (fun x off hx hp hw => by rcases hw with e | e; exact (hoa x off hx hp).1 e; exact (hoa x off hx hp).2 e)).at_ i (by rw [nz12_len, hm.out]; omega)
        rw [nz12_get o i 0 (by rw [hm.out]; omega)] at c1
        have HNX := LM.nxt _ hj
        rw [eP] at HNX
        have hna := hW.nat hj
        have HC := ped12 b a n cap s K gs gf gn gr nx' R' (o.getD i 0) (S12 s (o.getD i 0)).toNat (n - 1 - P) wr LR hn n24 K25 hj hna.1 hna.2 (by show _ = _; rw [HNX]; omega) (by omega)
        have HL2 : Hid (Lm12 n s (R'.set (n - 1 - P) ((o.getD i 0 : Nat) : Int)) (nx'.set (S12 s (o.getD i 0)).toNat ((n - 1 - P : Nat) : Int)) (ps12 n (S12 s) (o.drop (m - (k + 1))))) := by
          rw [HE1.out.1, eS]
          exact LM.put hW LR.rl LR.li.nxl hj eP hPn
        clear LM LR eS eP HNX hna hi HE1
        generalize o.getD i 0 = j at *
        go_wp2_with (first | (go_at_call 66; refine HC.mono ?_; rintro e2 w2 ⟨rfl, L2, K2⟩))
        go_roundw
        case rel => exact ⟨k + 1, _, _, by omega, by go_num, L2, HL2.out, KB.trans K2 (fun _ _ e => e)⟩
        case measure => simp [intOf]; omega
      · have h1i : ¬ (k : Int) < (m : Int) := by omega
        obtain rfl : k = m := by omega
        go_wp2_with fail
        refine bodyPost_end (results_none rfl _ _ _) rfl ?_
        refine ⟨rfl, nx', R', LR, ?_, KB⟩
        rw [Nat.sub_self] at LM
        exact LM
end Go.Proofs.Ytkpfailmmcelcaa
