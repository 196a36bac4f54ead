
import Derived.Test.YtgbpejnafgllpaaEd4
import Derived.Test.YtgbpejnafgllpaaOpen
import Derived.Test.YtgbpejnafgllpaaUpto
import Derived.WalkKit
import Derived.ProofKit
import Derived.OpenShut
import Derived.Deep.Slices
import Derived.Lib.SmallJoins
namespace Go.Proofs.Ytgbpejnafgllpaa
open Go.ChangeShapes Go.WideShapes Go.ChangeAt Go.RowKit Go.Deep
set_option linter.unusedVariables false
set_option maxRecDepth 100000

theorem cells_st16 : Try.prog.cellsOf 53 = 3 := by kernel_rfl
theorem cells_int16 : Try.prog.cellsOf 3 = 1 := by kernel_rfl
theorem cells_u816 : Try.prog.cellsOf 5 = 1 := by kernel_rfl
theorem one_st16 {H : Type} {enc : TypeId × Value → H} {W : World} {n : Nat} {cs : List Value} {x : DataW H × List MemPlace} (h : DataW.trod enc Try.prog W 0 (fun _ => true) true n 53 cs = some x) (hl : cs.length = 3) :
    ∃ t : St16, cs = [.int .i64 t.1, .int .i64 t.2.1, .int .i64 t.2.2] ∧ Fit16 t := by
  obtain ⟨xs, k, _, _, _, hxl, hf⟩ := DataW.trod_struct Try.underlying53 h
  match cs, hl with
  | [v0, v1, v2], _ =>
    match xs, hxl with
    | [y0, y1, y2], _ =>
      have g0 := hf 0 _ rfl
      have g1 := hf 1 _ rfl
      have g2 := hf 2 _ rfl
      simp [cells_int16] at g0 g1 g2
      obtain ⟨V, e0, _, w0⟩ := DataW.trod_int Try.underlying3 g0
      obtain ⟨N, e1, _, w1⟩ := DataW.trod_int Try.underlying3 g1
      obtain ⟨M, e2, _, w2⟩ := DataW.trod_int Try.underlying3 g2
      simp at e0 e1 e2
      subst e0 e1 e2
      exact ⟨(V, N, M), rfl, bounds_i64 w0, bounds_i64 w1, bounds_i64 w2⟩
/-- Steps that came in. -/
theorem open_steps16 {H : Type} {enc : TypeId × Value → H} {W : World} {v : Value} {fuel : Nat} {y : DataW H × List MemPlace}
    (hf : DataW.trod enc Try.prog W 0 (fun _ => true) true fuel 22 [v] = some y) :
    ∃ (a : Option Addr) (cap : Nat) (l : List St16), v = .slice a l.length cap ∧ SegS W a l ∧ l.length ≤ cap ∧ (a = none → cap = 0) ∧ l.length + 1 ≤ Rows.uptoBulk y.1 := by
  haveI : Inhabited St16 := ⟨z16⟩
  rcases open_slice Try.underlying22 hf with ⟨hcs, hx⟩ | ⟨x, l, c, m, n, D, Pl, hcs, _, hl, hm, hmm, hx, hat⟩
  · simp at hcs
    subst hcs
    subst hx
    exact ⟨none, 0, [], rfl, SegS.nil _ _, Nat.le_refl _, fun _ => rfl, by simp [Rows.uptoBulk]⟩
  · simp at hcs
    subst hcs
    simp only [if_true] at hmm
    subst hmm
    rw [cells_st16] at hat
    have key : ∀ i, i < m → ∃ q : St16, W.cell? (x.add (i * 3)) = some (.int .i64 q.1) ∧ W.cell? (x.add (i * 3 + 1)) = some (.int .i64 q.2.1) ∧ W.cell? (x.add (i * 3 + 2)) = some (.int .i64 q.2.2) ∧ Fit16 q := by
      intro i hi
      obtain ⟨cs', h1, h2⟩ := hat i hi
      obtain ⟨_, hlen, hcell⟩ := World.cells?_some h1
      obtain ⟨t, rfl, hfit⟩ := one_st16 h2 hlen
      have e0 := hcell 0 (by omega)
      have e1 := hcell 1 (by omega)
      have e2 := hcell 2 (by omega)
      rw [add_add] at e0 e1 e2
      exact ⟨t, by simpa using e0, by simpa using e1, by simpa using e2, hfit⟩
    obtain ⟨q, hq⟩ := choose_lt key
    refine ⟨some x, m, (List.range l).map q, by simp, ⟨fun i hi => ?_, fun t ht => ?_⟩, by simpa using hl, (by intro h; cases h), ?_⟩
    · have hi2 : i < l := by simpa using hi
      obtain ⟨h1, h2, h3, _⟩ := hq i (by omega)
      obtain ⟨b, off, spot⟩ := x
      have hs : spot = none := by
        obtain ⟨h5, _⟩ := hq 0 (by omega)
        simpa [Addr.add] using World.cell?_spot h5
      subst hs
      have hadd : ∀ j, (⟨b, off, none⟩ : Addr).add j = ⟨b, off + j, none⟩ := by intro j; unfold Addr.add; split <;> simp_all
      rw [hadd] at h1 h2 h3
      have hg : ((List.range l).map q).getD i z16 = q i := by simp [List.getD, hi2]
      rw [hg]
      exact ⟨b, off, rfl, h1, by rw [Nat.add_assoc]; exact h2, by rw [Nat.add_assoc]; exact h3⟩
    · obtain ⟨i, hi, rfl⟩ := List.mem_map.1 ht
      exact (hq i (by have := List.mem_range.1 hi; omega)).2.2.2
    · subst hx
      simp only [List.length_map, List.length_range]
      refine Nat.le_trans ?_ (UptoLemmas.slice_le _ _)
      simp
/-- Bytes that came in, in a struct. -/
theorem open_bytes16 {H : Type} {enc : TypeId × Value → H} {W : World} {v : Value} {fuel : Nat} {y : DataW H × List MemPlace}
    (hf : DataW.trod enc Try.prog W 0 (fun _ => true) true fuel 23 [v] = some y) :
    ∃ (a : Option Addr) (cap : Nat) (zs : List Int), v = .slice a zs.length cap ∧ Seg W a zs ∧ zs.length ≤ cap ∧ (a = none → cap = 0) ∧ zs.length + 1 ≤ Rows.uptoBulk y.1 := by
  obtain ⟨a, l, cap, rfl⟩ : ∃ a l cap, v = .slice a l cap := by
    rcases open_slice Try.underlying23 hf with ⟨hcs, hx⟩ | ⟨x, l, c, m, n, D, Pl, hcs, _⟩
    · simp at hcs; exact ⟨_, _, _, hcs⟩
    · simp at hcs; exact ⟨_, _, _, hcs⟩
  obtain ⟨y1, y2⟩ := y
  obtain ⟨zs, hz, h1, h2, h3, h4⟩ := open_seg (P := Try.prog) (k := .u8) (M := 255) Try.underlying23 Try.underlying5 cells_u816 (by decide) (fun n hn => bounds_u8 hn) (⟨fuel, hf⟩ : DataW.Trod enc Try.prog W 0 (fun _ => true) true 23 (.slice a l cap) y1 y2)
  subst hz
  refine ⟨a, cap, zs, rfl, h1, h2, h3, ?_⟩
  rcases h4 with ⟨hd, hl⟩ | ⟨elems, spare, hd, hl⟩
  · rw [hl]; show 0 + 1 ≤ Rows.uptoBulk y1; rw [hd]; simp [Rows.uptoBulk]
  · show zs.length + 1 ≤ Rows.uptoBulk y1
    rw [hd]
    have := UptoLemmas.slice_le elems spare
    omega
/-- An edit by value that came in. -/
structure EdIn16 (W : World) (sa : Option Addr) (n sc : Nat) (S : List St16) (da : Option Addr) (m dc : Nat) (D : List Int) (xa : Option Addr) (k xc : Nat) (X : List Int) : Prop where
  ss : SegS W sa S
  sd : Seg W da D
  sx : Seg W xa X
  hn : S.length = n
  hm : D.length = m
  hk : X.length = k
  cn : n ≤ sc
  cm : m ≤ dc
  ck : k ≤ xc
  nn : sa = none → sc = 0
  nm : da = none → dc = 0
  nk : xa = none → xc = 0
theorem EdIn16.ed {W : World} {sa da xa : Option Addr} {n sc m dc k xc : Nat} {S : List St16} {D X : List Int} (h : EdIn16 W sa n sc S da m dc D xa k xc X) (hl : n + m + k ≤ 1048576) : Ed16 W sa n S da m D xa k X :=
  ⟨h.ss, h.sd, h.sx, h.hn, h.hm, h.hk, by omega, by omega, by omega⟩
theorem open_edit16 {H : Type} {enc : TypeId × Value → H} {W : World} {r : Reach} {b0 : Nat} {v : Value} {d : DataW H} {pl : List MemPlace}
    (hv : Value.okWide Try.prog W r b0 25 v) (h : DataW.Trod enc Try.prog W 0 (fun _ => true) true 25 v d pl) :
    ∃ (sa : Option Addr) (n sc : Nat) (S : List St16) (da : Option Addr) (m dc : Nat) (D : List Int) (xa : Option Addr) (k xc : Nat) (X : List Int), v = ev16 sa n sc da m dc xa k xc ∧ EdIn16 W sa n sc S da m dc D xa k xc X ∧ n + m + k ≤ Rows.uptoBulk d := by
  obtain ⟨u0, u1, u2, y0, y1, y2, mm, rfl, hd, _, t0, t1, t2⟩ := Go.Joins.open_agg3 Try.underlying25 (by kernel_rfl) (by kernel_rfl) hv h
  obtain ⟨sa, sc, S, rfl, s0, c0, n0, l0⟩ := open_steps16 t0
  obtain ⟨da, dc, D, rfl, s1, c1, n1, l1⟩ := open_bytes16 t1
  obtain ⟨xa, xc, X, rfl, s2, c2, n2, l2⟩ := open_bytes16 t2
  refine ⟨sa, S.length, sc, S, da, D.length, dc, D, xa, X.length, xc, X, rfl, ⟨s0, s1, s2, rfl, rfl, rfl, c0, c1, c2, n0, n1, n2⟩, ?_⟩
  rw [hd]
  simp only [Rows.uptoBulk, Rows.uptoBulkAll]
  omega
end Go.Proofs.Ytgbpejnafgllpaa
