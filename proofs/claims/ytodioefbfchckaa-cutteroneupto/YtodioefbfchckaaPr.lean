import Derived.Test.YtodioefbfchckaaPf
import Derived.Test.YtodioefbfchckaaPq
import Derived.Lib.SlBytesConst
import Derived.Deep.OwnRows
import Derived.Laws.StructEq
import Derived.WalkMore
import Derived.ScopeJumps
import Derived.Test.YtodioefbfchckaaPo
namespace Go.Proofs.Ytodioefbfchckaa
open Go.RowKit Go.Shelf
set_option linter.unusedVariables false

/-! The law's first, awake. -/
theorem seg_lit16 (w : World) (zs : List Int) (t : TypeId) (fr : Nat × Nat) (h : ∀ z ∈ zs, 0 ≤ z ∧ z ≤ 255) : Seg (w.alloc (.cells (zs.map (Value.int .u8)).toArray t fr)) (some ⟨w.heap.size, 0, none⟩) zs := by
  refine ⟨fun i hi => ⟨w.heap.size, 0, rfl, ?_⟩, by decide, getD_bd (by decide) h⟩
  have e : zs.getD i 0 = zs[i] := by simp [List.getD, hi]
  rw [e, Nat.zero_add, World.cell?_alloc_mark]
  simp [hi]
def FiQ16 (w : World) (e : Ending) (w' : World) : Prop := ∃ g1 g2 g3, e = .returned (ev16 (some ⟨g1, 0, none⟩) 2 2 (some ⟨g2, 0, none⟩) 5 5 (some ⟨g3, 0, none⟩) 2 2) ∧ Ed16 w' (some ⟨g1, 0, none⟩) 2 [(3, 2, 1), (2, 0, 0)] (some ⟨g2, 0, none⟩) 5 [0, 0, 1, 0, 0] (some ⟨g3, 0, none⟩) 2 [120, 121] ∧ Below w.heap.size w w'
theorem ap_first16 : ap16 [97, 98, 99, 100, 101, 102] [(3, 2, 1), (2, 0, 0)] [0, 0, 1, 0, 0] [120, 121] = [97, 98, 100, 120, 121, 101, 102] := by decide
theorem er_first16 : er16 6 [(3, 2, 1), (2, 0, 0)] 5 2 = 0 := by decide
end Go.Proofs.Ytodioefbfchckaa

namespace Go.Proofs.Ytodioefbfchckaa
open Go.RowKit Go.Shelf
set_option linter.unusedVariables false

/-! lives: the document's first example. -/
theorem info_u8z17 : (Try.prog.info? 5).map (fun i => (i.zero, i.size, i.bytes)) = some (some (.int .u8 0), 1, 1) := by kernel_rfl
theorem made_zeros17 (n : Nat) : madeCells #[.int .u8 0] n = ((List.replicate n (0 : Int)).map (Value.int .u8)).toArray := by
  apply Array.toList_inj.1
  rw [toList_madeCells_one]
  simp
theorem run_make_zeros17 (n : Nat) (h : n ≤ 281474976710656) (w : World) :
    (Instr.makeSlice 23 (.int .i64 (n : Int)) (.int .i64 (n : Int))).run Try.prog w = .ok (.slice (some ⟨w.heap.size, 0, none⟩) n n) (w.alloc (.cells ((List.replicate n (0 : Int)).map (Value.int .u8)).toArray 5)) := by
  rw [← made_zeros17]
  exact run_make_row' 23 5 (.int .u8 0) 1 Try.underlying23 info_u8z17 rfl .i64 .i64 n (by omega) (by omega) w
def r70 : List Int := List.replicate 70 0
def e17a : Pt17 := ⟨[(64, 0, 0)], List.replicate 64 0, [], 0, 64⟩
def e17b : Pt17 := ⟨[(6, 0, 0)], List.replicate 6 0, [], 64, 70⟩
theorem cw17_first : cw17 64 (ws17 (pi17 [(70, 0, 0)] r70 [] 0 1)) = [e17a, e17b] := by kernel_rfl
theorem ck17_first : ck16 16777216 ((70 + 0 : Nat) : Int) [(70, 0, 0)] 70 0 = 0 := by decide
theorem two17 (l : List Wp17) {a b : Pt17} (h : l.map (·.2) = [a, b]) : ∃ v1 v2, l = [(v1, a), (v2, b)] := by
  rcases l with _ | ⟨p, _ | ⟨q, _ | ⟨r, l⟩⟩⟩
  · simp at h
  · simp at h
  · simp only [List.map_cons, List.map_nil, List.cons.injEq, and_true] at h
    exact ⟨p.1, q.1, by rw [← h.1, ← h.2]⟩
  · simp at h
set_option maxRecDepth 100000 in
set_option maxHeartbeats 8000000 in
theorem plives17 (w : World) : Calls Try.prog 15 #[] w fun e w' => e = .returned (.bool true) ∧ Below w.heap.size w w' := by
  obtain ⟨w1, hw1⟩ : ∃ w1, w1 = w.alloc (.cells #[.int .i64 70, .int .i64 0, .int .i64 0] 98) := ⟨_, rfl⟩
  have c1 : Cb16 w #[.int .i64 70, .int .i64 0, .int .i64 0] 98 w1 := by rw [hw1]; exact cb16 _ _ _
  obtain ⟨w2, hw2⟩ : ∃ w2, w2 = w1.alloc (.cells (r70.map (Value.int .u8)).toArray 5) := ⟨_, rfl⟩
  have c2 : Cb16 w1 (r70.map (Value.int .u8)).toArray 5 w2 := by rw [hw2]; exact cb16 _ _ _
  have hmk := run_make_zeros17 70 (by omega) w1
  rw [c1.sz] at hmk
  have hmk2 : (Instr.makeSlice 23 (.int .i64 70) (.int .i64 70)).run Try.prog (w.alloc (.cells #[.int .i64 70, .int .i64 0, .int .i64 0] 98)) = .ok (.slice (some ⟨w.heap.size + 1, 0, none⟩) 70 70) w2 := by
    rw [hw2, ← hw1]; exact hmk
  have b02 : Below w.heap.size w w2 := c1.bl.trans (c2.bl.mono c1.bl.size)
  have q1 : w2.heap[w.heap.size]? = some (.cells #[.int .i64 70, .int .i64 0, .int .i64 0] 98 (0, 0)) := (c2.bl.block _ (by have := c1.sz; omega)).trans c1.cl
  have hE : Ed16 w2 (some ⟨w.heap.size, 0, none⟩) 1 [(70, 0, 0)] (some ⟨w.heap.size + 1, 0, none⟩) 70 r70 none 0 [] := by
    refine ⟨⟨fun i hi => ⟨w.heap.size, 0, rfl, ?_⟩, ?_⟩, ?_, SegK.nil (by decide) _ _, rfl, rfl, rfl, by decide, by decide, by decide⟩
    · have : i = 0 := by simp at hi; omega
      subst this
      exact ⟨three_cell0 q1, three_cell1 q1, three_cell2 q1⟩
    · intro t ht
      simp only [List.mem_cons, List.not_mem_nil, or_false] at ht
      subst ht
      unfold Fit16; simp
    · rw [← c1.sz, hw2]; exact seg_lit16 w1 r70 5 (0, 0) (by decide)
  have CC := pcut17 (sc := 1) (dc := 70) (xc := 0) 64 w2 hE (by omega) ck17_first (by omega) (by omega)
  unfold ev16 at CC
  have HB : Hid (Below w.heap.size w w2) := b02
  clear hw1 hw2 c1 c2 hmk q1 hE b02
  go_enter Try.func15, Try.ntmps15
  go_wp2_with fail
  refine CC.mono ?_
  rintro e3 w3 ⟨vO, l, rfl, hl, hW, b3⟩
  rw [cw17_first] at hl
  obtain ⟨v1, v2, rfl⟩ := two17 l hl
  have HB3 : Hid (Below w.heap.size w w3) := HB.out.trans (b3.mono HB.out.size)
  obtain ⟨g, c, hvO⟩ : ∃ g c, vO = .slice (some ⟨g, 0, none⟩) 2 c := by
    rcases hW.own.2 with ⟨_, e⟩ | ⟨g, cap, cur, e, _⟩
    · cases e
    · exact ⟨g, cap, e⟩
  subst hvO
  have hcell := hW.own.cells (g := g) rfl
  have hadd : ∀ i, (⟨g, 0, none⟩ : Addr).add i = ⟨g, i, none⟩ := fun i => by simp [Addr.add]; intro h; omega
  have g0 := hcell 0 _ rfl
  have g4 := hcell 4 _ rfl
  have g5 := hcell 5 _ rfl
  have g6 := hcell 6 _ rfl
  rw [hadd] at g0 g4 g5 g6
  have hw2 := hW.win (v2, e17b) (by simp)
  obtain ⟨h, c2, hvS⟩ : ∃ h c, v2.1 = .slice (some ⟨h, 0, none⟩) 1 c := by
    rcases hw2.oS.2 with ⟨_, e⟩ | ⟨g, cap, cur, e, _⟩
    · cases e
    · exact ⟨g, cap, e⟩
  obtain ⟨dp, dcc, hvD⟩ := own_sl17 hw2.oD
  have hadd2 : ∀ i, (⟨h, 0, none⟩ : Addr).add i = ⟨h, i, none⟩ := fun i => by simp [Addr.add]; intro h; omega
  have hc2 := hw2.oS.cells (g := h) (by rw [hvS]; rfl)
  have s0 := hc2 0 _ rfl
  have s1 := hc2 1 _ rfl
  have s2 := hc2 2 _ rfl
  rw [hadd2] at s0 s1 s2
  rw [hvS] at g5
  rw [hvD] at g6
  change w3.cell? ⟨g, 0, none⟩ = some (.int .i64 0) at g0
  change w3.cell? ⟨g, 4, none⟩ = some (.int .i64 64) at g4
  change w3.cell? ⟨h, 0, none⟩ = some (.int .i64 6) at s0
  change w3.cell? ⟨h, 1, none⟩ = some (.int .i64 0) at s1
  change w3.cell? ⟨h, 2, none⟩ = some (.int .i64 0) at s2
  change w3.cell? ⟨g, 6, none⟩ = some (.slice dp 6 dcc) at g6
  clear CC hW hw2 hcell hc2 hl hvS hvD b3 hadd hadd2
  go_wp2_with fail
  go_ret
  exact ⟨rfl, HB3.out⟩
end Go.Proofs.Ytodioefbfchckaa

namespace Go.Proofs.Ytodioefbfchckaa
open Go.RowKit Go.Shelf
set_option linter.unusedVariables false

/-! Check: may a window be? -/
/-- The i-th step may be. -/
def G17 (S : List St16) (m k : Nat) (pos old : Int) (i : Nat) : Prop :=
  0 ≤ (S.getD i z16).1 ∧ 0 ≤ (S.getD i z16).2.1 ∧ ¬ ((S.getD i z16).1 = 0 ∧ (S.getD i z16).2.1 = 0) ∧ (sa16 S i : Int) + (S.getD i z16).1 ≤ (m : Int) ∧ (sc16 S i : Int) + (S.getD i z16).2.1 ≤ (k : Int) ∧ pos + pl16 S i + (S.getD i z16).1 ≤ old ∧
  0 ≤ pos + pl16 S i + (S.getD i z16).1 + (S.getD i z16).2.2 ∧ pos + pl16 S i + (S.getD i z16).1 + (S.getD i z16).2.2 ≤ old ∧ (i + 1 = S.length → (S.getD i z16).2.2 = 0)
def W17 (pos : Int) (S : List St16) (m k : Nat) (old size : Int) : Prop :=
  (1 ≤ size ∧ size ≤ 65536 ∧ ((m + k : Nat) : Int) = size) ∧ (0 ≤ old ∧ old ≤ 16777216 ∧ 0 ≤ pos ∧ pos ≤ old) ∧ (∀ i, i < S.length → G17 S m k pos old i) ∧ sa16 S S.length = m ∧ sc16 S S.length = k
open Classical in
noncomputable def cc17 (pos : Int) (S : List St16) (m k : Nat) (old size : Int) : Int := if W17 pos S m k old size then 0 else 171
theorem cc17_ok {pos : Int} {S : List St16} {m k : Nat} {old size : Int} (h : W17 pos S m k old size) : cc17 pos S m k old size = 0 := by unfold cc17; rw [if_pos h]
theorem cc17_no {pos : Int} {S : List St16} {m k : Nat} {old size : Int} (h : ¬ W17 pos S m k old size) : cc17 pos S m k old size = 171 := by unfold cc17; rw [if_neg h]
/-- Before the i-th step. -/
structure Cg17 (S : List St16) (m k : Nat) (pos old : Int) (i : Nat) : Prop where
  g : ∀ j, j < i → G17 S m k pos old j
  a : sa16 S i ≤ m
  c : sc16 S i ≤ k
  p : 0 ≤ pos + pl16 S i ∧ pos + pl16 S i ≤ old
theorem Cg17.zero {S : List St16} {m k : Nat} {pos old : Int} (h : 0 ≤ pos ∧ pos ≤ old) : Cg17 S m k pos old 0 := ⟨fun j hj => by omega, Nat.zero_le _, Nat.zero_le _, by simp [pl16]; exact h⟩
theorem Cg17.succ {S : List St16} {m k : Nat} {pos old : Int} {i : Nat} (h : Cg17 S m k pos old i) (hg : G17 S m k pos old i) : Cg17 S m k pos old (i + 1) := by
  obtain ⟨g1, g2, g3, g4, g5, g6, g7, g8, g9⟩ := hg
  refine ⟨fun j hj => ?_, ?_, ?_, ?_⟩
  · rcases Nat.lt_or_ge j i with x | x
    · exact h.g j x
    · have : j = i := by omega
      subst this
      exact ⟨g1, g2, g3, g4, g5, g6, g7, g8, g9⟩
  · simp only [sa16, ad16]; omega
  · simp only [sc16, cp16]; omega
  · simp only [pl16, ad16, sk16]; omega
/-- A window in memory, as a value. -/
abbrev wn17 (pos : Int) (sa : Option Addr) (n sc : Nat) (da : Option Addr) (m dc : Nat) (xa : Option Addr) (k xc : Nat) : Value := .agg #[.int .i64 pos, .slice sa n sc, .slice da m dc, .slice xa k xc]
/-- At a jump. -/
def Jm17 (w : World) (no : Prop) (a : Act) (W : World) : Prop := a.tmps.size = 147 ∧ a.defers = [] ∧ Below w.heap.size w W ∧ no
theorem four_cells {V : World} {b : Nat} {x0 x1 x2 x3 : Value} {t : TypeId} (h : V.heap[b]? = some (.cells #[x0, x1, x2, x3] t (0, 0))) : V.cell? ⟨b, 0, none⟩ = some x0 ∧ V.cell? ⟨b, 1, none⟩ = some x1 ∧ V.cell? ⟨b, 2, none⟩ = some x2 ∧ V.cell? ⟨b, 3, none⟩ = some x3 := by
  simp [World.cell?, h]
set_option maxRecDepth 100000 in
set_option maxHeartbeats 16000000 in
theorem pck17 (pos old size : Int) {sa : Option Addr} {n sc : Nat} {da : Option Addr} {m dc : Nat} {xa : Option Addr} {k xc : Nat} {S : List St16} (w : World) (hs : SegS w sa S) (hn : Hid (S.length = n)) (hln : n ≤ 5864062014805) (hlm : m ≤ 140737488355328) (hlk : k ≤ 140737488355328) (ho : -9223372036854775808 ≤ old ∧ old ≤ 9223372036854775807) :
    Calls Try.prog 32 #[wn17 pos sa n sc da m dc xa k xc, .int .i64 old, .int .i64 size] w fun e w' => e = .returned (.int .i64 (cc17 pos S m k old size)) ∧ Below w.heap.size w w' := by
  obtain ⟨wA, hwA⟩ : ∃ wA, wA = w.alloc (.cells #[.int .i64 pos, .slice sa n sc, .slice da m dc, .slice xa k xc] 42) := ⟨_, rfl⟩
  have cA : Cb16 w #[.int .i64 pos, .slice sa n sc, .slice da m dc, .slice xa k xc] 42 wA := by rw [hwA]; exact cb16 _ _ _
  have HWA : Hid (w.alloc (.cells #[.int .i64 pos, .slice sa n sc, .slice da m dc, .slice xa k xc] 42) = wA) := hwA.symm
  obtain ⟨ob, hob⟩ : ∃ ob, ob = w.heap.size := ⟨_, rfl⟩
  have HOB : Hid (w.heap.size = ob) := hob.symm
  have qA : wA.heap[ob]? = some (.cells #[.int .i64 pos, .slice sa n sc, .slice da m dc, .slice xa k xc] 42 (0, 0)) := by rw [hob]; exact cA.cl
  obtain ⟨a0, a1, a2, a3⟩ := four_cells qA
  have bA : Below w.heap.size w wA := cA.bl
  have hw1 : IntKind.i64.wrap ((n : Int) - 1) = (n : Int) - 1 := IntWalk.i64_in _ (by omega)
  have hw2 : IntKind.i64.wrap ((m : Int) + (k : Int)) = (m : Int) + (k : Int) := IntWalk.i64_in _ (by omega)
  have HCK : Hid (∀ x, Ending.returned (.int .i64 (cc17 pos S m k old size)) = x → ∀ y, (¬ W17 pos S m k old size → y = 171) → (W17 pos S m k old size → y = 0) → x = .returned (.int .i64 y)) := by
    intro x hx y h1 h2
    by_cases h : W17 pos S m k old size
    · rw [← hx, cc17_ok h, h2 h]
    · rw [← hx, cc17_no h, h1 h]
  have HS0 : Hid (SegS w sa S) := hs
  clear hwA hob cA
  unfold wn17
  go_enter Try.func32, Try.ntmps32
  go_wp2
  refine wp_scope_jumps 0 (Jm17 w (¬ W17 pos S m k old size)) (fun _ _ => 0) rfl ?_ ?_
  rotate_left
  · rintro a W ⟨h1, h2, h3, h4⟩
    obtain ⟨T, ds⟩ := a
    simp only at h1 h2
    subst h2
    go_wp2
    simp only [Exit.jump]
    go_ret
    refine ⟨?_, h3⟩
    rw [cc17_no h4]
    simp [h1]
  · go_wp2
    rw [HWA.out, HOB.out]
    go_quiet (fail)
    have bq : Below wA.heap.size wA (wA.drewN nq) := below_drewN16 (Below.refl _ _) nq
    have HCE : Hid (∀ W, Below wA.heap.size wA W → W.cell? ⟨ob, 0, none⟩ = some (.int .i64 pos) ∧ W.cell? ⟨ob, 1, none⟩ = some (.slice sa n sc) ∧ W.cell? ⟨ob, 2, none⟩ = some (.slice da m dc) ∧ W.cell? ⟨ob, 3, none⟩ = some (.slice xa k xc)) := fun W hW => four_cells ((hW.block ob (Array.getElem?_eq_some_iff.1 qA).1).trans qA)
    generalize wA.drewN nq = w2 at *
    clear a0 a1 a2 a3 qA hs
    obtain ⟨b0, b1, b2, b3⟩ := HCE.out w2 bq
    go_wp2
    go_quiet (fail)
    have bq2 : Below wA.heap.size wA (w2.drewN nq) := below_drewN16 bq nq
    generalize w2.drewN nq = w3 at *
    clear b0 b1 b2 b3 bq
    obtain ⟨b0, b1, b2, b3⟩ := HCE.out w3 bq2
    have B3 : Below w.heap.size w w3 := bA.trans (bq2.mono bA.size)
    by_cases h1 : size < 1
    · go_wp2
      go_step3
      exact ⟨rfl, rfl, rfl, B3, fun h => by have := h.1; omega⟩
    by_cases h2 : 65536 < size
    · go_wp2
      go_step3
      exact ⟨rfl, rfl, rfl, B3, fun h => by have := h.1; omega⟩
    by_cases h3 : (m : Int) + (k : Int) = size
    rotate_left
    · have h3b : ((m : Int) + (k : Int) == size) = false := by simp; exact h3
      go_wp2
      go_step3
      exact ⟨rfl, rfl, rfl, B3, fun h => by have := h.1; omega⟩
    have h3b : ((m : Int) + (k : Int) == size) = true := by simp; exact h3
    by_cases h4 : old < 0
    · go_wp2
      go_step3
      exact ⟨rfl, rfl, rfl, B3, fun h => by have := h.2.1; omega⟩
    by_cases h5 : 16777216 < old
    · go_wp2
      go_step3
      exact ⟨rfl, rfl, rfl, B3, fun h => by have := h.2.1; omega⟩
    by_cases h6 : pos < 0
    · go_wp2
      go_step3
      exact ⟨rfl, rfl, rfl, B3, fun h => by have := h.2.1; omega⟩
    by_cases h7 : old < pos
    · go_wp2
      go_step3
      exact ⟨rfl, rfl, rfl, B3, fun h => by have := h.2.1; omega⟩
    have H3 : Hid ((m : Int) + (k : Int) = size) := h3
    clear h3
    go_wp2_with fail
    go_loopw [7, 9, 10, 60] (fun t7 t9 t10 t60 wr => ∃ i : Nat, i ≤ n ∧ t60 = .int .i64 (i : Int) ∧ t7 = .int .i64 (pos + pl16 S i) ∧ t9 = .int .i64 ((m : Int) - (sa16 S i : Int)) ∧ t10 = .int .i64 ((k : Int) - (sc16 S i : Int)) ∧ Hid (Cg17 S m k pos old i) ∧ Below w.heap.size w wr) (fun _ _ _ t60 _ => n - (intOf t60).toNat)
    case atStart => exact ⟨0, Nat.zero_le _, rfl, by simp [pl16], by simp [sa16], by simp [sc16], Cg17.zero (by omega), B3⟩
    case round =>
      obtain ⟨i, hi, rfl, rfl, rfl, rfl, HG, BR⟩ := hrel
      have hg := HG.out
      have gp := hg.p
      have ga := hg.a
      have gc := hg.c
      by_cases hin : i < n
      · have hii : (i : Int) < (n : Int) := by omega
        have hi0 : (0 : Int) ≤ (i : Int) := by omega
        have hil : i < S.length := by rw [hn.out]; exact hin
        obtain ⟨b, off, rfl, hT⟩ := (HS0.out.old BR).at_ i hil
        have c0 := hT.c0
        have c1 := hT.c1
        have c2 := hT.c2
        have fit := HS0.out.fit _ (getD_memS hil)
        unfold Fit16 at fit
        have HWG : Hid (W17 pos S m k old size → G17 S m k pos old i) := fun h => h.2.2.1 i hil
        have HGI : Hid (G17 S m k pos old i → Cg17 S m k pos old (i + 1)) := fun h => hg.succ h
        have HPL : Hid (G17 S m k pos old i → pos + pl16 S (i + 1) = pos + pl16 S i + (S.getD i z16).1 + (S.getD i z16).2.2 ∧ (m : Int) - (sa16 S (i + 1) : Int) = (m : Int) - (sa16 S i : Int) - (S.getD i z16).1 ∧ (k : Int) - (sc16 S (i + 1) : Int) = (k : Int) - (sc16 S i : Int) - (S.getD i z16).2.1) := fun h => by
          have x1 := h.1
          have x2 := h.2.1
          simp only [pl16, sa16, sc16, ad16, cp16, sk16]
          omega
        have HGE : Hid (G17 S m k pos old i ↔ (0 ≤ (S.getD i z16).1 ∧ 0 ≤ (S.getD i z16).2.1 ∧ ¬ ((S.getD i z16).1 = 0 ∧ (S.getD i z16).2.1 = 0) ∧ (S.getD i z16).1 ≤ (m : Int) - (sa16 S i : Int) ∧ (S.getD i z16).2.1 ≤ (k : Int) - (sc16 S i : Int) ∧ (S.getD i z16).1 ≤ old - (pos + pl16 S i) ∧ -(pos + pl16 S i + (S.getD i z16).1) ≤ (S.getD i z16).2.2 ∧ (S.getD i z16).2.2 ≤ old - (pos + pl16 S i + (S.getD i z16).1) ∧ (i + 1 = S.length → (S.getD i z16).2.2 = 0))) := by
          unfold Hid G17
          constructor
          · rintro ⟨y1, y2, y3, y4, y5, y6, y7, y8, y9⟩
            exact ⟨y1, y2, y3, by omega, by omega, by omega, by omega, by omega, y9⟩
          · rintro ⟨y1, y2, y3, y4, y5, y6, y7, y8, y9⟩
            exact ⟨y1, y2, y3, by omega, by omega, by omega, by omega, by omega, y9⟩
        rw [hn.out] at HGE
        have HT0 : Hid (¬ (i + 1 = n) → (i : Int) ≠ (n : Int) - 1) := fun h => by omega
        generalize S.getD i z16 = s at *
        obtain ⟨A, C, K⟩ := s
        simp only at c0 c1 c2 fit HPL HGE
        have d1 : 0 ≤ (m : Int) - (sa16 S i : Int) ∧ (m : Int) - (sa16 S i : Int) ≤ 140737488355328 := by omega
        have d2 : 0 ≤ (k : Int) - (sc16 S i : Int) ∧ (k : Int) - (sc16 S i : Int) ≤ 140737488355328 := by omega
        generalize hd : (m : Int) - (sa16 S i : Int) = d at *
        generalize hx : (k : Int) - (sc16 S i : Int) = x at *
        generalize hp : pos + pl16 S i = q at *
        clear hd hx hp hg hT ga gc HG
        obtain ⟨wB, hwB⟩ : ∃ wB, wB = wr.alloc (.cells #[.int .i64 A, .int .i64 C, .int .i64 K] 98) := ⟨_, rfl⟩
        have HWB : Hid (wr.alloc (.cells #[.int .i64 A, .int .i64 C, .int .i64 K] 98) = wB) := hwB.symm
        have tB : SpAt wB wr.heap.size 0 (A, C, K) := boxS hwB
        have tB0 := tB
        have BB : Below w.heap.size w wB := by rw [hwB]; exact BR.trans ((below_box16 _ _).mono BR.size)
        obtain ⟨os, hos⟩ : ∃ os, os = wr.heap.size := ⟨_, rfl⟩
        have HOS : Hid (wr.heap.size = os) := hos.symm
        obtain ⟨e0, e1, e2⟩ := tB
        simp only at e0 e1 e2
        have HTB : Hid (∀ W, Below wB.heap.size wB W → W.cell? ⟨os, 0, none⟩ = some (.int .i64 A) ∧ W.cell? ⟨os, 0 + 1, none⟩ = some (.int .i64 C) ∧ W.cell? ⟨os, 0 + 2, none⟩ = some (.int .i64 K)) := fun W hW => by
          have := tB0.of_block (hW.block _ tB0.lt)
          rw [← hos] at this
          exact ⟨this.c0, this.c1, this.c2⟩
        have w1 : IntKind.i64.wrap (old - q) = old - q := IntWalk.i64_in _ (by omega)
        rw [hwB] at e0 e1 e2
        rw [hwB] at BB
        by_cases k1 : A < 0
        · clear hwB hos
          go_wp2
          go_step3
          exact ⟨rfl, rfl, rfl, BB, fun h => by have := HGE.out.1 (HWG.out h); omega⟩
        by_cases k2 : C < 0
        · clear hwB hos
          go_wp2
          go_step3
          exact ⟨rfl, rfl, rfl, BB, fun h => by have := HGE.out.1 (HWG.out h); omega⟩
        by_cases k3 : A = 0 ∧ C = 0
        · obtain ⟨rfl, rfl⟩ := k3
          clear hwB hos
          go_wp2
          go_step3
          exact ⟨rfl, rfl, rfl, BB, fun h => by have := (HGE.out.1 (HWG.out h)).2.2.1; simp at this⟩
        by_cases k4 : d < A
        · clear hwB hos
          by_cases z0 : A = 0
          · omega
          have z1 : (A == 0) = false := by simp; exact z0
          go_wp2
          go_step3
          exact ⟨rfl, rfl, rfl, BB, fun h => by have := HGE.out.1 (HWG.out h); omega⟩
        have HKK : Hid (∀ W, Below wB.heap.size wB W → Below w.heap.size w W) := fun W hW => by rw [← hwB] at BB; exact BB.trans (hW.mono BB.size)
        clear hwB hos
        have go : ((A == 0) = true ∧ (C == 0) = false) ∨ (A == 0) = false := by
          by_cases z0 : A = 0
          · exact .inl ⟨by simp; exact z0, by simp; omega⟩
          · exact .inr (by simp; exact z0)
        have HK3 : Hid (¬ (A = 0 ∧ C = 0)) := k3
        clear k3
        rcases go with ⟨z1, z2⟩ | z1
        · by_cases k5 : x < C
          · go_wp2
            go_step3
            exact ⟨rfl, rfl, rfl, BB, fun h => by have := HGE.out.1 (HWG.out h); omega⟩
          by_cases k6 : old - q < A
          · go_wp2
            go_step3
            exact ⟨rfl, rfl, rfl, BB, fun h => by have := HGE.out.1 (HWG.out h); omega⟩
          have w2 : IntKind.i64.wrap (d - A) = d - A := IntWalk.i64_in _ (by omega)
          have w3 : IntKind.i64.wrap (x - C) = x - C := IntWalk.i64_in _ (by omega)
          have w4 : IntKind.i64.wrap (q + A) = q + A := IntWalk.i64_in _ (by omega)
          go_wp2_with fail
          rw [HWB.out, HOS.out]
          obtain ⟨f0, f1, f2⟩ := HTB.out wB (Below.refl _ _)
          go_quiet (fail)
          have bq3 : Below wB.heap.size wB (wB.drewN nq) := below_drewN16 (Below.refl _ _) nq
          obtain ⟨f0, f1, f2⟩ := HTB.out _ bq3
          have BQ := HKK.out _ bq3
          generalize wB.drewN nq = wC at *
          obtain ⟨q2, hq2⟩ : ∃ q2, q2 = q + A := ⟨_, rfl⟩
          have HQ2 : Hid (q2 = q + A) := hq2
          rw [← hq2]
          have qb : 0 ≤ q2 ∧ q2 ≤ old := by omega
          have w5 : IntKind.i64.wrap (-q2) = -q2 := IntWalk.i64_in _ (by omega)
          have w6 : IntKind.i64.wrap (old - q2) = old - q2 := IntWalk.i64_in _ (by omega)
          clear hq2 e0 e1 e2 c0 c1 c2 w2 w3 w4
          by_cases k7 : K < -q2
          · go_wp2_with fail
            go_step3
            exact ⟨rfl, rfl, rfl, BQ, fun h => by have := HGE.out.1 (HWG.out h); have := HQ2.out; omega⟩
          by_cases k8 : old - q2 < K
          · go_wp2_with fail
            go_step3
            exact ⟨rfl, rfl, rfl, BQ, fun h => by have := HGE.out.1 (HWG.out h); have := HQ2.out; omega⟩
          have w7 : IntKind.i64.wrap (q2 + K) = q2 + K := IntWalk.i64_in _ (by omega)
          have HGO : Hid ((i + 1 = n → K = 0) → G17 S m k pos old i) := fun h => HGE.out.2 (by
            have h1 := HQ2.out
            have h2 := HK3.out
            have z1' := z1
            exact ⟨by omega, by omega, h2, by omega, by omega, by omega, by omega, by omega, h⟩)
          by_cases k9 : i + 1 = n
          · have l1 : ((i : Int) == (n : Int) - 1) = true := by simp; omega
            by_cases k0 : K = 0
            · have l2 : (K == 0) = true := by simp; exact k0
              have HG1 : Hid (G17 S m k pos old i) := HGO.out (fun _ => k0)
              clear k0 k9 HT0
              go_wp2_with fail
              go_roundw
              case rel =>
                have hpl := HPL.out HG1.out
                have h1 := HQ2.out
                exact ⟨i + 1, by omega, by simp, by rw [hpl.1, h1], by rw [hpl.2.1], by rw [hpl.2.2], HGI.out HG1.out, BQ⟩
              case measure => simp [intOf]; omega
            · have l2 : (K == 0) = false := by simp; exact k0
              have HNO : Hid (¬ W17 pos S m k old size) := fun h => k0 ((HGE.out.1 (HWG.out h)).2.2.2.2.2.2.2.2 k9)
              clear k9 HT0 HGO
              go_wp2_with fail
              go_step3
              exact ⟨rfl, rfl, rfl, BQ, HNO.out⟩
          · have l1 : ((i : Int) == (n : Int) - 1) = false := by simp; omega
            have HG1 : Hid (G17 S m k pos old i) := HGO.out (fun h => absurd h k9)
            clear k9 HT0
            go_wp2_with fail
            go_roundw
            case rel =>
              have hpl := HPL.out HG1.out
              have h1 := HQ2.out
              exact ⟨i + 1, by omega, by simp, by rw [hpl.1, h1], by rw [hpl.2.1], by rw [hpl.2.2], HGI.out HG1.out, BQ⟩
            case measure => simp [intOf]; omega
        · by_cases k5 : x < C
          · go_wp2
            go_step3
            exact ⟨rfl, rfl, rfl, BB, fun h => by have := HGE.out.1 (HWG.out h); omega⟩
          by_cases k6 : old - q < A
          · go_wp2
            go_step3
            exact ⟨rfl, rfl, rfl, BB, fun h => by have := HGE.out.1 (HWG.out h); omega⟩
          have w2 : IntKind.i64.wrap (d - A) = d - A := IntWalk.i64_in _ (by omega)
          have w3 : IntKind.i64.wrap (x - C) = x - C := IntWalk.i64_in _ (by omega)
          have w4 : IntKind.i64.wrap (q + A) = q + A := IntWalk.i64_in _ (by omega)
          go_wp2_with fail
          rw [HWB.out, HOS.out]
          obtain ⟨f0, f1, f2⟩ := HTB.out wB (Below.refl _ _)
          go_quiet (fail)
          have bq3 : Below wB.heap.size wB (wB.drewN nq) := below_drewN16 (Below.refl _ _) nq
          obtain ⟨f0, f1, f2⟩ := HTB.out _ bq3
          have BQ := HKK.out _ bq3
          generalize wB.drewN nq = wC at *
          obtain ⟨q2, hq2⟩ : ∃ q2, q2 = q + A := ⟨_, rfl⟩
          have HQ2 : Hid (q2 = q + A) := hq2
          rw [← hq2]
          have qb : 0 ≤ q2 ∧ q2 ≤ old := by omega
          have w5 : IntKind.i64.wrap (-q2) = -q2 := IntWalk.i64_in _ (by omega)
          have w6 : IntKind.i64.wrap (old - q2) = old - q2 := IntWalk.i64_in _ (by omega)
          clear hq2 e0 e1 e2 c0 c1 c2 w2 w3 w4
          by_cases k7 : K < -q2
          · go_wp2_with fail
            go_step3
            exact ⟨rfl, rfl, rfl, BQ, fun h => by have := HGE.out.1 (HWG.out h); have := HQ2.out; omega⟩
          by_cases k8 : old - q2 < K
          · go_wp2_with fail
            go_step3
            exact ⟨rfl, rfl, rfl, BQ, fun h => by have := HGE.out.1 (HWG.out h); have := HQ2.out; omega⟩
          have w7 : IntKind.i64.wrap (q2 + K) = q2 + K := IntWalk.i64_in _ (by omega)
          have HGO : Hid ((i + 1 = n → K = 0) → G17 S m k pos old i) := fun h => HGE.out.2 (by
            have h1 := HQ2.out
            have h2 := HK3.out
            have z1' := z1
            exact ⟨by omega, by omega, h2, by omega, by omega, by omega, by omega, by omega, h⟩)
          by_cases k9 : i + 1 = n
          · have l1 : ((i : Int) == (n : Int) - 1) = true := by simp; omega
            by_cases k0 : K = 0
            · have l2 : (K == 0) = true := by simp; exact k0
              have HG1 : Hid (G17 S m k pos old i) := HGO.out (fun _ => k0)
              clear k0 k9 HT0
              go_wp2_with fail
              go_roundw
              case rel =>
                have hpl := HPL.out HG1.out
                have h1 := HQ2.out
                exact ⟨i + 1, by omega, by simp, by rw [hpl.1, h1], by rw [hpl.2.1], by rw [hpl.2.2], HGI.out HG1.out, BQ⟩
              case measure => simp [intOf]; omega
            · have l2 : (K == 0) = false := by simp; exact k0
              have HNO : Hid (¬ W17 pos S m k old size) := fun h => k0 ((HGE.out.1 (HWG.out h)).2.2.2.2.2.2.2.2 k9)
              clear k9 HT0 HGO
              go_wp2_with fail
              go_step3
              exact ⟨rfl, rfl, rfl, BQ, HNO.out⟩
          · have l1 : ((i : Int) == (n : Int) - 1) = false := by simp; omega
            have HG1 : Hid (G17 S m k pos old i) := HGO.out (fun h => absurd h k9)
            clear k9 HT0
            go_wp2_with fail
            go_roundw
            case rel =>
              have hpl := HPL.out HG1.out
              have h1 := HQ2.out
              exact ⟨i + 1, by omega, by simp, by rw [hpl.1, h1], by rw [hpl.2.1], by rw [hpl.2.2], HGI.out HG1.out, BQ⟩
            case measure => simp [intOf]; omega
      · have hk2 : i = n := by omega
        subst hk2
        have hneg : ¬ (i : Int) < (i : Int) := by omega
        have HGG := HG
        have HEND : Hid ((sa16 S i = m ∧ sc16 S i = k) → W17 pos S m k old size) := fun h => by
          have h8 := HGG.out
          have h9 := H3.out
          refine ⟨⟨by omega, by omega, by omega⟩, ⟨by omega, by omega, by omega, by omega⟩, ?_, ?_, ?_⟩
          · rw [hn.out]; exact h8.g
          · rw [hn.out]; exact h.1
          · rw [hn.out]; exact h.2
        have HENO : Hid (W17 pos S m k old size → sa16 S i = m ∧ sc16 S i = k) := fun h => by have := h.2.2.2; rw [hn.out] at this; exact this
        clear HG HGG hg gp
        by_cases y1 : sa16 S i = m
        · by_cases y2 : sc16 S i = k
          · have HOK : Hid (cc17 pos S m k old size = 0) := cc17_ok (HEND.out ⟨y1, y2⟩)
            have v1 : (m : Int) - (sa16 S i : Int) = 0 := by omega
            have v2 : (k : Int) - (sc16 S i : Int) = 0 := by omega
            rw [v1, v2]
            clear y1 y2 v1 v2 ga gc
            go_wp2_with fail
            simp only [Exit.jump]
            go_ret
            exact ⟨by rw [HOK.out]; rfl, BR⟩
          · have v2 : 0 < (k : Int) - (sc16 S i : Int) := by omega
            have v1 : (m : Int) - (sa16 S i : Int) = 0 := by omega
            rw [v1]
            have HNO : Hid (¬ W17 pos S m k old size) := fun h => y2 (HENO.out h).2
            generalize (k : Int) - (sc16 S i : Int) = x at *
            clear y1 y2 v1 ga gc
            go_wp2_with fail
            go_step3
            exact ⟨rfl, rfl, rfl, BR, HNO.out⟩
        · have v1 : 0 < (m : Int) - (sa16 S i : Int) := by omega
          have HNO : Hid (¬ W17 pos S m k old size) := fun h => y1 (HENO.out h).1
          generalize (m : Int) - (sa16 S i : Int) = d at *
          generalize (k : Int) - (sc16 S i : Int) = x at *
          clear y1 ga gc
          go_wp2_with fail
          go_step3
          exact ⟨rfl, rfl, rfl, BR, HNO.out⟩
end Go.Proofs.Ytodioefbfchckaa

namespace Go.Proofs.Ytodioefbfchckaa
set_option linter.unusedVariables false

/-! The document's way to say it. -/
def H17 (S : List St16) (pos old : Int) (i : Nat) : Prop :=
  ¬ ((S.getD i z16).1 = 0 ∧ (S.getD i z16).2.1 = 0) ∧ (i + 1 = S.length → (S.getD i z16).2.2 = 0) ∧ (-16777216 ≤ (S.getD i z16).2.2 ∧ (S.getD i z16).2.2 ≤ 16777216) ∧ (0 ≤ pos + pl16 S i + (S.getD i z16).1 ∧ pos + pl16 S i + (S.getD i z16).1 ≤ old) ∧ (0 ≤ pos + pl16 S i + (S.getD i z16).1 + (S.getD i z16).2.2 ∧ pos + pl16 S i + (S.getD i z16).1 + (S.getD i z16).2.2 ≤ old)
theorem cg17_all {S : List St16} {m k : Nat} {pos old : Int} (hp : 0 ≤ pos ∧ pos ≤ old) : ∀ i, (∀ j, j < i → G17 S m k pos old j) → Cg17 S m k pos old i
  | 0, _ => Cg17.zero hp
  | i + 1, h => (cg17_all hp i (fun j hj => h j (by omega))).succ (h i (by omega))
theorem w17_iff (pos : Int) (S : List St16) (m k : Nat) (old size : Int) : W17 pos S m k old size ↔ ((∀ i, i < S.length → M17 S i) ∧ (1 ≤ size ∧ size ≤ 65536) ∧ (0 ≤ old ∧ old ≤ 16777216) ∧ sa16 S S.length = m ∧ sc16 S S.length = k ∧ ((m + k : Nat) : Int) = size ∧ (0 ≤ pos ∧ pos ≤ old) ∧ ∀ i, i < S.length → H17 S pos old i) := by
  constructor
  · rintro ⟨⟨s1, s2, s3⟩, ⟨o1, o2, o3, o4⟩, g, ha, hc⟩
    refine ⟨fun i hi => ?_, ⟨s1, s2⟩, ⟨o1, o2⟩, ha, hc, s3, ⟨o3, o4⟩, fun i hi => ?_⟩
    · obtain ⟨g1, g2, g3, g4, g5, g6, g7, g8, g9⟩ := g i hi
      have hcg := cg17_all ⟨o3, o4⟩ i (fun j hj => g j (by omega))
      have h1 := hcg.a
      have h2 := hcg.c
      refine ⟨g1, by omega, g2, by omega, ?_, ?_⟩
      · simp only [sa16, ad16]; omega
      · simp only [sc16, cp16]; omega
    · obtain ⟨g1, g2, g3, g4, g5, g6, g7, g8, g9⟩ := g i hi
      have hcg := cg17_all ⟨o3, o4⟩ i (fun j hj => g j (by omega))
      have h1 := hcg.p
      exact ⟨g3, g9, by omega, by omega, by omega⟩
  · rintro ⟨hm, ⟨s1, s2⟩, ⟨o1, o2⟩, ha, hc, s3, ⟨o3, o4⟩, hh⟩
    refine ⟨⟨s1, s2, s3⟩, ⟨o1, o2, o3, o4⟩, fun i hi => ?_, ha, hc⟩
    obtain ⟨m1, m2, m3, m4, m5, m6⟩ := hm i hi
    obtain ⟨h1, h2, h3, h4, h5⟩ := hh i hi
    have hmo := sa16_mono (S := S) (i := i + 1) S.length (by omega)
    rw [ha, hc] at hmo
    simp only [sa16, sc16, ad16, cp16] at hmo
    exact ⟨m1, m3, h1, by omega, by omega, by omega, by omega, by omega, h2⟩
end Go.Proofs.Ytodioefbfchckaa
