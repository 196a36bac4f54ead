
import Derived.Test.YtkddjgdfjbjfpaaEd8
import Derived.Test.YtkddjgdfjbjfpaaEd6
import Derived.Shelf.Bytes.SlCountOne
import Derived.Laws.ResultCell
import Derived.Laws.Externs
namespace Go.Proofs.Ytkddjgdfjbjfpaa
open Go.RowKit Go.Shelf
set_option linter.unusedVariables false

/-! Tell. -/
def cz16 (D : List Int) : Nat := Lib.countByte (Lib.bytesOf D) 0
theorem cz16_le (D : List Int) : cz16 D ≤ D.length := by
  unfold cz16 Lib.countByte
  refine Nat.le_trans List.count_le_length ?_
  simp [Lib.bytesOf]
set_option maxRecDepth 100000 in
set_option maxHeartbeats 4000000 in
theorem pcount16 (a : Option Addr) (D : List Int) (m dc g : Nat) (w : World) (hs : Seg w a D) (hm : Hid (D.length = m)) (hg : w.cell? ⟨g, 0, none⟩ = some (.int .u8 0)) (hnil : a = none → dc = 0) :
    Calls Try.prog 35 #[.slice a m dc, .slice (some ⟨g, 0, none⟩) 1 1] w fun e w' => e = .returned (.int .i64 (cz16 D : Int)) ∧ w' = w := by
  have hr : (Extern.BytealgCount.count #[.slice a m dc, .int .u8 0]).run Try.prog w = .ok (.int .i64 (cz16 D : Int)) w := by
    cases a with
    | none =>
      have hD : D = [] := by
        cases D with
        | nil => rfl
        | cons z r => obtain ⟨b, off, hx, _⟩ := hs.at_ 0 (by simp); cases hx
      subst hD
      exact Lib.run_countNil w _ _ 0
    | some x =>
      by_cases h0 : D = []
      · subst h0
        have := Lib.run_countAt (P := Try.prog) w x m dc [] hm.out (fun i hi => by have := hm.out; simp at this; omega) 0
        exact this
      · obtain ⟨b, off, hx, _⟩ := hs.at_ 0 (by cases D with | nil => exact absurd rfl h0 | cons z r => simp)
        injection hx with hx
        subst hx
        have := Lib.run_countSlice (P := Try.prog) w b off m dc D hm.out (fun i hi => by
          obtain ⟨b', off', hx', hc⟩ := hs.at_ i (by rw [hm.out]; exact hi)
          injection hx' with hx'
          injection hx' with h1 h2
          subst h1 h2
          exact hc) 0
        exact this
  generalize cz16 D = c at *
  clear hs
  go_enter Try.func35, Try.ntmps35
  go_wp2
  rw [run_callFunc_extern Try.func42 (by kernel_rfl) (by kernel_rfl) (by kernel_rfl) (e := Extern.BytealgCount.count) (by kernel_rfl), hr]
  simp only [Result.andThen]
  rw [Oper.upon_value]
  go_wp2
  go_ret
  exact ⟨rfl, rfl⟩
def jm16 (S : List St16) : Nat → Nat
  | 0 => 0
  | i + 1 => jm16 S i + (sk16 S i).natAbs
theorem jm16_le {S : List St16} : ∀ i, Ok16 S i → jm16 S i ≤ i * 16777216
  | 0, _ => by simp [jm16]
  | i + 1, h => by
    have ih := jm16_le i (h.mono (by omega))
    have hb := ad16_le h (show i < i + 1 by omega)
    simp only [jm16]
    omega
def re16 (S : List St16) (n : Nat) : Int := if fi16 S n = 0 then en16 S n else 0
variable {w : World} {sa da xa : Option Addr} {n sc m dc k xc : Nat} {S : List St16} {D X : List Int}
theorem six_set4 {w : World} {b : Nat} {x0 x1 x2 x3 x4 x5 : Value} {t : TypeId} (h : w.heap[b]? = some (.cells #[x0, x1, x2, x3, x4, x5] t (0, 0))) (u : Value) : (w.setCell ⟨b, 4, none⟩ u).heap[b]? = some (.cells #[x0, x1, x2, x3, u, x5] t (0, 0)) := by
  simp [World.setCell, Array.getElem?_modify, h]
theorem six_set5 {w : World} {b : Nat} {x0 x1 x2 x3 x4 x5 : Value} {t : TypeId} (h : w.heap[b]? = some (.cells #[x0, x1, x2, x3, x4, x5] t (0, 0))) (u : Value) : (w.setCell ⟨b, 5, none⟩ u).heap[b]? = some (.cells #[x0, x1, x2, x3, x4, u] t (0, 0)) := by
  simp [World.setCell, Array.getElem?_modify, h]
theorem six_free {w : World} {b i : Nat} {x0 x1 x2 x3 x4 x5 : Value} {t : TypeId} (h : w.heap[b]? = some (.cells #[x0, x1, x2, x3, x4, x5] t (0, 0))) : w.frozen? ⟨b, i, none⟩ = false := by simp [World.frozen?, h]
theorem six_all {V : World} {b : Nat} {x0 x1 x2 x3 x4 x5 : Value} {t : TypeId} (h : V.heap[b]? = some (.cells #[x0, x1, x2, x3, x4, x5] t (0, 0))) (v0 v1 v2 v3 v4 v5 : Value) : ((((((V.setCell ⟨b, 0, none⟩ v0).setCell ⟨b, 1, none⟩ v1).setCell ⟨b, 2, none⟩ v2).setCell ⟨b, 3, none⟩ v3).setCell ⟨b, 4, none⟩ v4).setCell ⟨b, 5, none⟩ v5).heap[b]? = some (.cells #[v0, v1, v2, v3, v4, v5] t (0, 0)) := by
  simp [World.setCell, Array.getElem?_modify, h]
theorem six_kp {V : World} {b : Nat} (S : Nat → Prop) (hb : S b) (v0 v1 v2 v3 v4 v5 : Value) : Kp S V ((((((V.setCell ⟨b, 0, none⟩ v0).setCell ⟨b, 1, none⟩ v1).setCell ⟨b, 2, none⟩ v2).setCell ⟨b, 3, none⟩ v3).setCell ⟨b, 4, none⟩ v4).setCell ⟨b, 5, none⟩ v5) :=
  (((((Kp.set hb v0).trans (Kp.set hb v1) (fun _ _ h => h)).trans (Kp.set hb v2) (fun _ _ h => h)).trans (Kp.set hb v3) (fun _ _ h => h)).trans (Kp.set hb v4) (fun _ _ h => h)).trans (Kp.set hb v5) (fun _ _ h => h)
theorem six_cells {V : World} {b : Nat} {x0 x1 x2 x3 x4 x5 : Value} {t : TypeId} (h : V.heap[b]? = some (.cells #[x0, x1, x2, x3, x4, x5] t (0, 0))) : V.cell? ⟨b, 0, none⟩ = some x0 ∧ V.cell? ⟨b, 1, none⟩ = some x1 ∧ V.cell? ⟨b, 2, none⟩ = some x2 ∧ V.cell? ⟨b, 3, none⟩ = some x3 ∧ V.cell? ⟨b, 4, none⟩ = some x4 ∧ V.cell? ⟨b, 5, none⟩ = some x5 := by
  simp [World.cell?, h]
theorem results_ct16 {P : Program} {fn : Func} {p u : Tmp} {ty : TypeId} (h : fn.results = #[.cell p ty, .tmp u]) (tmps : Array Value) (w : World) (g : Nat) (t : TypeId) (cs : Array Value) (fr : Nat × Nat) (d : TypeDesc)
    (hp : tmps.getD p undef = .pointer (some ⟨g, 0, none⟩)) (hg : w.heap[g]? = some (.cells cs t fr))
    (hu : P.underlying ty = some d) (hd : (match d with | .struct _ | .array _ _ => true | _ => false) = true) (hi : (P.info? ty).map (·.size) = some cs.size) :
    (results fn tmps).run P w = .ok (.tuple #[.agg cs, tmps.getD u undef]) w := by
  rw [results_cell_tmp h, hp]
  simp [asAddr, Result.andThen, run_loadVar_row w g t ty cs fr d hg hu hd hi]
/-- Tell's numbers in a block of their own. -/
structure Ts16 (w : World) (g bS : Nat) (N M C K : Nat) (V : World) : Prop where
  bl : Below w.heap.size w V
  nS : w.heap.size ≤ bS
  hS : V.heap[bS]? = some (.cells #[.int .i64 (N : Int), .int .i64 (M : Int), .int .i64 (C : Int), .int .i64 (K : Int), .int .i64 0, .int .i64 0] 47 (0, 0))
theorem ts16a (w : World) (o : Obj) (v : Array Value) (t : TypeId) : let V := ((w.alloc o).alloc (.cells v t)).drew
    Below w.heap.size w V ∧ V.heap[w.heap.size + 1]? = some (.cells v t (0, 0)) := by
  refine ⟨(((Below.refl _ _).alloc (Nat.le_refl _) _).alloc (by simp) _).drew, ?_⟩
  have := heap_alloc_new (w.alloc o) (.cells v t (0, 0))
  rw [show (w.alloc o).heap.size = w.heap.size + 1 by simp] at this
  exact this
theorem ts16b (w : World) (o : Obj) (v : Array Value) (t : TypeId) : let V := ((w.alloc (.cells v t)).alloc o).drew
    Below w.heap.size w V ∧ V.heap[w.heap.size]? = some (.cells v t (0, 0)) := by
  refine ⟨(((Below.refl _ _).alloc (Nat.le_refl _) _).alloc (by simp) _).drew, ?_⟩
  exact (Below.heap_alloc (w.alloc (.cells v t)) o w.heap.size (by simp)).trans (heap_alloc_new w _)
/-- What Tell answers: the six numbers, the error. -/
def teR16 (S : List St16) (D : List Int) (n m k : Nat) : Value :=
  if it16 S m k = 0 then .tuple #[.agg #[.int .i64 (n : Int), .int .i64 (m : Int), .int .i64 (cz16 D : Int), .int .i64 (k : Int), .int .i64 (jm16 S n : Int), .int .i64 (re16 S n)], .int .i64 0]
  else .tuple #[.agg #[.int .i64 0, .int .i64 0, .int .i64 0, .int .i64 0, .int .i64 0, .int .i64 0], .int .i64 (it16 S m k)]
set_option maxRecDepth 100000 in
set_option maxHeartbeats 8000000 in
theorem ptell16 (h : Ed16 w sa n S da m D xa k X) (hnd : da = none → dc = 0) :
    Calls Try.prog 22 #[ev16 sa n sc da m dc xa k xc] w fun e w' => e = .returned (teR16 S D n m k) ∧ Below w.heap.size w w' := by
  obtain ⟨w1, hw1⟩ : ∃ w1, w1 = (w.alloc (.cells #[.slice sa n sc, .slice da m dc, .slice xa k xc] 28)).alloc (.cells #[.int .i64 0, .int .i64 0, .int .i64 0, .int .i64 0, .int .i64 0, .int .i64 0] 47) := ⟨_, rfl⟩
  have hb := two_boxes16 w #[.slice sa n sc, .slice da m dc, .slice xa k xc] 28 #[.int .i64 0, .int .i64 0, .int .i64 0, .int .i64 0, .int .i64 0, .int .i64 0] 47
  simp only [← hw1] at hb
  obtain ⟨b1, z1, q1, q2⟩ := hb
  have CS := psize16 (sc := sc) (dc := dc) (xc := xc) (h.old b1)
  have hn : Hid (S.length = n) := h.hn
  have hm : Hid (D.length = m) := h.hm
  have hln := h.ln
  have hlm := h.lm
  have hlk := h.lk
  by_cases hi : it16 S m k = 0
  · have hte : Hid (teR16 S D n m k = .tuple #[.agg #[.int .i64 (n : Int), .int .i64 (m : Int), .int .i64 (cz16 D : Int), .int .i64 (k : Int), .int .i64 (jm16 S n : Int), .int .i64 (re16 S n)], .int .i64 0]) := by show _ = _; unfold teR16; rw [if_pos hi]
    rw [hte.out]
    have hsz : szR16 S m k = .tuple #[.int .i64 ((m + k : Nat) : Int), .int .i64 0] := by unfold szR16 sz16; rw [hi]; rfl
    rw [hsz] at CS
    obtain ⟨i1, -, -, i4⟩ := it16_zero hi
    rw [hn.out] at i1
    have hok : Hid (Ok16 S n) := i1
    have HE : Hid (Ed16 w sa n S da m D xa k X) := h
    obtain ⟨be, hbe⟩ : ∃ be, be = w.heap.size := ⟨_, rfl⟩
    obtain ⟨br, hbr⟩ : ∃ br, br = w.heap.size + 1 := ⟨_, rfl⟩
    have HBe : Hid (be = w.heap.size) := hbe
    have HBr : Hid (br = w.heap.size + 1) := hbr
    rw [← hbe] at q1
    rw [← hbr] at q2
    have c0 := three_cell0 q1
    have c1 := three_cell1 q1
    have c2 := three_cell2 q1
    have hcz := cz16_le D
    rw [hm.out] at hcz
    generalize m + k = mk at *
    clear hsz hi h
    obtain ⟨cz, hcz0⟩ : ∃ cz, cz = cz16 D := ⟨_, rfl⟩
    rw [← hcz0] at hcz
    rw [← hcz0]
    have HCZ : Hid (cz = cz16 D) := hcz0
    have HZ1 : Hid (w1.heap.size = w.heap.size + 2) := z1
    clear hcz0 z1
    go_enter Try.func22, Try.ntmps22
    go_wp2_with (first
      | (go_at_call 13; rw [← hw1, ← hbr, ← hbe]; clear hw1 hbr hbe; refine CS.mono ?_; rintro e1 w2 ⟨rfl, b2⟩; clear CS))
    have e0 := (b2.cell (p := ⟨be, 0, none⟩) (World.block_lt_of_cell? w1 _ c0)).trans c0
    have e1 := (b2.cell (p := ⟨be, 1, none⟩) (World.block_lt_of_cell? w1 _ c1)).trans c1
    have e2 := (b2.cell (p := ⟨be, 2, none⟩) (World.block_lt_of_cell? w1 _ c2)).trans c2
    have hel : be < w2.heap.size := World.block_lt_of_cell? w2 _ e0
    have gB : ∀ V, Below w2.heap.size w2 V → V.cell? ⟨be, 0, none⟩ = some (.slice sa n sc) ∧ V.cell? ⟨be, 1, none⟩ = some (.slice da m dc) ∧ V.cell? ⟨be, 2, none⟩ = some (.slice xa k xc) := fun V hV =>
      ⟨(hV.cell (p := ⟨be, 0, none⟩) hel).trans e0, (hV.cell (p := ⟨be, 1, none⟩) hel).trans e1, (hV.cell (p := ⟨be, 2, none⟩) hel).trans e2⟩
    have b02 : Below w.heap.size w w2 := b1.trans (b2.mono b1.size)
    have HCT : Hid (∀ V g, Below w2.heap.size w2 V → V.cell? ⟨g, 0, none⟩ = some (.int .u8 0) → Calls Try.prog 35 #[.slice da m dc, .slice (some ⟨g, 0, none⟩) 1 1] V fun e w' => e = .returned (.int .i64 (cz : Int)) ∧ w' = V) := fun V g hV hg => by
      have := pcount16 da D m dc g V (HE.out.sd.old (b02.trans (hV.mono b02.size))) hm hg hnd
      rw [← HCZ.out] at this
      exact this
    have r0 : Below w2.heap.size w2 w2.drew := (Below.refl _ _).drew
    have r1 : ∀ o, Below w2.heap.size w2 (w2.alloc o).drew := fun o => ((Below.refl _ _).alloc (Nat.le_refl _) o).drew
    have r2 : ∀ o o', Below w2.heap.size w2 ((w2.alloc o).alloc o').drew := fun o o' => (((Below.refl _ _).alloc (Nat.le_refl _) o).alloc (by simp) o').drew
    have n1 : ∀ t, (w2.alloc (.cells #[.int .u8 0] t)).drew.cell? ⟨w2.heap.size, 0, none⟩ = some (.int .u8 0) := fun t => one_cell16 (heap_alloc_new w2 (.cells #[.int .u8 0] t (0, 0)))
    have n2 : ∀ t o, ((w2.alloc (.cells #[.int .u8 0] t)).alloc o).drew.cell? ⟨w2.heap.size, 0, none⟩ = some (.int .u8 0) := fun t o => one_cell16 (ts16b w2 o #[.int .u8 0] t).2
    have n3 : ∀ t o, ((w2.alloc o).alloc (.cells #[.int .u8 0] t)).drew.cell? ⟨w2.heap.size + 1, 0, none⟩ = some (.int .u8 0) := fun t o => one_cell16 (ts16a w2 o #[.int .u8 0] t).2
    refine Code.wp_mono (Q := fun e a' V => e = .normal ∧ ∃ g bS : Nat, Ts16 w2 g bS n m cz k V ∧ a' = { tmps := #[ev16 sa n sc da m dc xa k xc, .pointer (some ⟨be, 0, none⟩), .pointer (some ⟨br, 0, none⟩), .int .i64 0, .int .i64 (mk : Int), .int .i64 0, .pointer (some ⟨bS, 0, none⟩), undef, undef, undef, undef, .tuple #[.int .i64 (mk : Int), .int .i64 0], ev16 sa n sc da m dc xa k xc, .tuple #[.int .i64 (mk : Int), .int .i64 0], .int .i64 (mk : Int), .int .i64 0, .int .i64 0, .bool false, undef, undef, .pointer (some ⟨be, 0, none⟩), .slice sa n sc, .int .i64 (n : Int), .pointer (some ⟨be, 1, none⟩), .slice da m dc, .int .i64 (m : Int), .pointer (some ⟨be, 1, none⟩), .slice da m dc, .slice (some ⟨g, 0, none⟩) 1 1, .int .i64 (cz : Int), .pointer (some ⟨be, 2, none⟩), .slice xa k xc, .int .i64 (k : Int), .agg #[.int .i64 (n : Int), .int .i64 (m : Int), .int .i64 (cz : Int), .int .i64 (k : Int), .int .i64 0, .int .i64 0], undef, undef, undef, undef, undef, undef, undef, undef, undef, undef, undef, undef, undef, undef, undef, undef, undef, undef, undef, undef, undef, undef, undef, undef, undef, undef, undef, undef, undef], defers := [] }) ?_ ?_
    rotate_left
    · go_region_held3 (fun V => V.cell? ⟨be, 0, none⟩ = some (.slice sa n sc) ∧ V.cell? ⟨be, 1, none⟩ = some (.slice da m dc) ∧ V.cell? ⟨be, 2, none⟩ = some (.slice xa k xc)) (first | exact gB _ r0 | exact gB _ (r1 _) | exact gB _ (r2 _ _) | go_keep) (first
        | (go_at_call 35; refine (HCT.out _ _ (by first | exact r1 _ | exact r2 _ _) (by first | exact n1 _ | exact n2 _ _ | exact n3 _ _)).mono ?_; rintro e9 w9 ⟨rfl, h9⟩; subst w9))
      · exact ⟨rfl, _, _, ⟨(ts16a w2 _ _ _).1, by omega, (ts16a w2 _ _ _).2⟩, rfl⟩
      · exact ⟨rfl, _, _, ⟨(ts16a w2 _ _ _).1, by omega, (ts16a w2 _ _ _).2⟩, rfl⟩
      · exact ⟨rfl, _, _, ⟨(ts16b w2 _ _ _).1, Nat.le_refl _, (ts16b w2 _ _ _).2⟩, rfl⟩
    rintro e a' V ⟨rfl, g, bS, hT, rfl⟩
    obtain ⟨f0, f1, f2⟩ := gB V hT.bl
    have hss := HE.out.ss
    have HT : Hid (Ts16 w2 g bS n m cz k V) := hT
    have HSV : Hid (∀ W, Below w.heap.size w W → SegS W sa S) := fun W hW => hss.old hW
    have b0V : Below w.heap.size w V := b02.trans (hT.bl.mono b02.size)
    have HWS : Hid (w.heap.size ≤ bS ∧ be ≠ bS ∧ br ≠ bS) := by
      have := HBe.out; have := HBr.out; have := HZ1.out; have := b2.size; have := hT.nS
      exact ⟨by omega, by omega, by omega⟩
    have HHS : Hid (V.heap[bS]? = some (.cells #[.int .i64 (n : Int), .int .i64 (m : Int), .int .i64 (cz : Int), .int .i64 (k : Int), .int .i64 0, .int .i64 0] 47 (0, 0))) := hT.hS
    have HQ2 : Hid (V.heap[br]? = some (.cells #[.int .i64 0, .int .i64 0, .int .i64 0, .int .i64 0, .int .i64 0, .int .i64 0] 47 (0, 0))) := by
      show _ = _
      have hlt1 := (Array.getElem?_eq_some_iff.1 q2).1
      exact (hT.bl.block br (Nat.lt_of_lt_of_le hlt1 b2.size)).trans ((b2.block br hlt1).trans q2)
    have HQ1 : Hid (V.heap[be]? = some (.cells #[.slice sa n sc, .slice da m dc, .slice xa k xc] 28 (0, 0))) := by
      show _ = _
      have hlt1 := (Array.getElem?_eq_some_iff.1 q1).1
      exact (hT.bl.block be hel).trans ((b2.block be hlt1).trans q1)
    have HEL : Hid (be < V.heap.size) := (Nat.lt_of_lt_of_le hel hT.bl.size : be < V.heap.size)
    clear gB r0 r1 r2 n1 n2 n3 e0 e1 e2 HCT hT c0 c1 c2 b2 b02 q1 q2 hss hel
    go_wp2_with fail
    go_loopw [37] (fun ti wr => ∃ i : Nat, i ≤ n ∧ ti = .int .i64 (i : Int) ∧ Kp (fun k => k = bS) V wr ∧ wr.heap[bS]? = some (.cells #[.int .i64 (n : Int), .int .i64 (m : Int), .int .i64 (cz : Int), .int .i64 (k : Int), .int .i64 (jm16 S i : Int), .int .i64 0] 47 (0, 0))) (fun ti _ => n - (intOf ti).toNat)
    case atStart => exact ⟨0, Nat.zero_le _, rfl, Kp.refl _ _, HHS.out⟩
    case round =>
      obtain ⟨i, hi, rfl, hkp, hSt⟩ := hrel
      have bwr : Below w.heap.size w wr := b0V.trans (hkp.below (fun k e => by have e : k = bS := e; rw [e]; exact HWS.out.1) b0V.size)
      by_cases hin : i < n
      · have hii : (i : Int) < (n : Int) := by omega
        have hil : i < S.length := by rw [hn.out]; exact hin
        obtain ⟨b, off, rfl, hTt⟩ := (HSV.out wr bwr).at_ i hil
        have hc0 := hTt.c0
        have hc1 := hTt.c1
        have hc2 := hTt.c2
        have hbd := ad16_le hok.out hin
        have hjm := jm16_le i (hok.out.mono hi)
        have HJ : Hid (jm16 S (i + 1) = jm16 S i + (sk16 S i).natAbs) := rfl
        have hsk : (S.getD i z16).2.2 = sk16 S i := rfl
        rw [hsk] at hc2
        obtain ⟨-, -, -, -, hb5, hb6⟩ := hbd
        have hSb : ∀ o, (wr.alloc o).heap[bS]? = some (.cells #[.int .i64 (n : Int), .int .i64 (m : Int), .int .i64 (cz : Int), .int .i64 (k : Int), .int .i64 (jm16 S i : Int), .int .i64 0] 47 (0, 0)) := fun o => (Below.heap_alloc wr o bS (Array.getElem?_eq_some_iff.1 hSt).1).trans hSt
        have y4 : ∀ o, (wr.alloc o).cell? ⟨bS, 4, none⟩ = some (.int .i64 (jm16 S i : Int)) := fun o => by simp [World.cell?, hSb o]
        have f4 : ∀ o, (wr.alloc o).frozen? ⟨bS, 4, none⟩ = false := fun o => six_free (hSb o)
        obtain ⟨j1, hj1⟩ : ∃ j1, j1 = jm16 S (i + 1) := ⟨_, rfl⟩
        have HJ1 : Hid (j1 = jm16 S (i + 1)) := hj1
        have hneg : IntKind.i64.wrap (-(sk16 S i)) = -(sk16 S i) := IntWalk.i64_in _ (by omega)
        have HV : Hid (wrap64 ((jm16 S i : Int) + max (sk16 S i) (-(sk16 S i))) = (j1 : Int)) := by
          show _ = _
          rw [hj1, HJ.out]
          have : wrap64 ((jm16 S i : Int) + max (sk16 S i) (-(sk16 S i))) = (jm16 S i : Int) + max (sk16 S i) (-(sk16 S i)) := IntWalk.wrap64_in _ (by omega)
          rw [this]; omega
        have HKP : Hid (∀ o v, Kp (fun k => k = bS) V ((wr.alloc o).setCell ⟨bS, 4, none⟩ v) ∧ ((wr.alloc o).setCell ⟨bS, 4, none⟩ v).heap[bS]? = some (.cells #[.int .i64 (n : Int), .int .i64 (m : Int), .int .i64 (cz : Int), .int .i64 (k : Int), v, .int .i64 0] 47 (0, 0))) := fun o v =>
          ⟨(hkp.trans (Kp.alloc (S := fun k => k = bS) wr o) (fun _ _ h => h)).trans (Kp.set (S := fun k => k = bS) rfl v) (fun _ _ h => h), six_set4 (hSb o) v⟩
        clear hTt hkp hSt hSb hj1 HJ hsk hjm bwr
        generalize jm16 S i = j0 at *
        generalize sk16 S i = sk at *
        generalize (S.getD i z16).1 = x0 at *
        generalize (S.getD i z16).2.1 = x1 at *
        go_wp2_with fail
        go_roundw
        case rel => exact ⟨i + 1, by omega, by simp, (HKP.out _ _).1, by rw [← HJ1.out, ← HV.out]; exact (HKP.out _ _).2⟩
        case measure => simp [intOf]; omega
      · have hk2 : i = n := by omega
        have hneg : ¬ (i : Int) < (n : Int) := by omega
        rw [hk2] at hSt
        have CP := pspan16 sa n sc S wr (HSV.out wr bwr) hn hln hok
        have g0 := three_cell0 (hkp.heap HQ1.out HWS.out.2.1)
        have HSt : Hid (wr.heap[bS]? = some (.cells #[.int .i64 (n : Int), .int .i64 (m : Int), .int .i64 (cz : Int), .int .i64 (k : Int), .int .i64 (jm16 S n : Int), .int .i64 0] 47 (0, 0))) := hSt
        have HBw : Hid (Below w.heap.size w wr) := bwr
        have HBr2 : Hid (wr.heap[br]? = some (.cells #[.int .i64 0, .int .i64 0, .int .i64 0, .int .i64 0, .int .i64 0, .int .i64 0] 47 (0, 0))) := hkp.heap HQ2.out HWS.out.2.2
        subst hk2
        clear hSt hkp bwr
        have HRE : Hid (re16 S i = if fi16 S i = 0 then en16 S i else 0) := rfl
        generalize fi16 S i = fi at *
        generalize en16 S i = en at *
        generalize hjm0 : jm16 S i = jm at *
        have HJM : Hid (jm16 S i = jm) := hjm0
        clear hjm0
        by_cases hf0 : fi = 0
        · subst hf0
          go_wp2_with fail
          refine CP.mono ?_
          rintro e4 w4 ⟨rfl, B4⟩
          have q4 := (B4.block bS (Array.getElem?_eq_some_iff.1 HSt.out).1).trans HSt.out
          have r4 := (B4.block br (Array.getElem?_eq_some_iff.1 HBr2.out).1).trans HBr2.out
          have hbrS := HWS.out.2.2
          have y5 : w4.cell? ⟨bS, 5, none⟩ = some (.int .i64 0) := by simp [World.cell?, q4]
          have f5 := six_free (i := 5) q4
          have HQ4 := six_set5 q4 (.int .i64 en)
          have r5 : (w4.setCell ⟨bS, 5, none⟩ (.int .i64 en)).heap[br]? = some (.cells #[.int .i64 0, .int .i64 0, .int .i64 0, .int .i64 0, .int .i64 0, .int .i64 0] 47 (0, 0)) := (heap_setCell_other _ _ _ _ hbrS).trans r4
          have HKW : Hid (Below w.heap.size w (w4.setCell ⟨bS, 5, none⟩ (.int .i64 en))) := by
            have b04 : Below w.heap.size w w4 := HBw.out.trans (B4.mono HBw.out.size)
            exact b04.trans ((Kp.set (S := fun k => w.heap.size ≤ k) HWS.out.1 _).below (fun _ h => h) b04.size)
          obtain ⟨z0, z1, z2, z3, z4, z5⟩ := six_cells HQ4
          obtain ⟨t0, t1, t2, t3, t4, t5⟩ := six_cells r5
          have g0 := six_free (i := 0) r5
          have g1 := six_free (i := 1) r5
          have g2 := six_free (i := 2) r5
          have g3 := six_free (i := 3) r5
          have g4 := six_free (i := 4) r5
          have g5 := six_free (i := 5) r5
          have HR5 : Hid ((w4.setCell ⟨bS, 5, none⟩ (.int .i64 en)).heap[br]? = some (.cells #[.int .i64 0, .int .i64 0, .int .i64 0, .int .i64 0, .int .i64 0, .int .i64 0] 47 (0, 0))) := r5
          clear CP q4 r4 r5 HQ4
          go_wp2_with fail
          refine bodyPost_ret (v := .tuple #[.agg #[.int .i64 (i : Int), .int .i64 (m : Int), .int .i64 (cz : Int), .int .i64 (k : Int), .int .i64 (jm : Int), .int .i64 en], .int .i64 0]) (results_ct16 (fn := Try.f22) (p := 2) (u := 3) (ty := 47) rfl _ _ br _ _ _ _ rfl (six_all HR5.out _ _ _ _ _ _) Try.underlying47 rfl (by kernel_rfl)) rfl ?_
          have hre : re16 S i = en := by rw [HRE.out]; rfl
          refine ⟨by rw [hre, HJM.out], HKW.out.trans ((six_kp (fun k => w.heap.size ≤ k) (by have := HBr.out; omega) _ _ _ _ _ _).below (fun _ h => h) HKW.out.size)⟩
        · go_wp2_with fail
          refine CP.mono ?_
          rintro e4 w4 ⟨rfl, B4⟩
          have q4 := (B4.block bS (Array.getElem?_eq_some_iff.1 HSt.out).1).trans HSt.out
          have r4 := (B4.block br (Array.getElem?_eq_some_iff.1 HBr2.out).1).trans HBr2.out
          have HKW : Hid (Below w.heap.size w w4) := HBw.out.trans (B4.mono HBw.out.size)
          obtain ⟨z0, z1, z2, z3, z4, z5⟩ := six_cells q4
          obtain ⟨t0, t1, t2, t3, t4, t5⟩ := six_cells r4
          have g0 := six_free (i := 0) r4
          have g1 := six_free (i := 1) r4
          have g2 := six_free (i := 2) r4
          have g3 := six_free (i := 3) r4
          have g4 := six_free (i := 4) r4
          have g5 := six_free (i := 5) r4
          have HR5 : Hid (w4.heap[br]? = some (.cells #[.int .i64 0, .int .i64 0, .int .i64 0, .int .i64 0, .int .i64 0, .int .i64 0] 47 (0, 0))) := r4
          clear CP q4 r4
          go_wp2_with fail
          refine bodyPost_ret (v := .tuple #[.agg #[.int .i64 (i : Int), .int .i64 (m : Int), .int .i64 (cz : Int), .int .i64 (k : Int), .int .i64 (jm : Int), .int .i64 0], .int .i64 0]) (results_ct16 (fn := Try.f22) (p := 2) (u := 3) (ty := 47) rfl _ _ br _ _ _ _ rfl (six_all HR5.out _ _ _ _ _ _) Try.underlying47 rfl (by kernel_rfl)) rfl ?_
          have hre : re16 S i = 0 := by rw [HRE.out, if_neg hf0]
          refine ⟨by rw [hre, HJM.out], HKW.out.trans ((six_kp (fun k => w.heap.size ≤ k) (by have := HBr.out; omega) _ _ _ _ _ _).below (fun _ h => h) HKW.out.size)⟩
  · have hte : Hid (teR16 S D n m k = .tuple #[.agg #[.int .i64 0, .int .i64 0, .int .i64 0, .int .i64 0, .int .i64 0, .int .i64 0], .int .i64 (it16 S m k)]) := by show _ = _; unfold teR16; rw [if_neg hi]
    rw [hte.out]
    have hsz : szR16 S m k = .tuple #[.int .i64 0, .int .i64 (it16 S m k)] := by unfold szR16 sz16; rw [if_neg hi]; rfl
    rw [hsz] at CS
    have hne : (it16 S m k != 0) = true := by simpa using hi
    obtain ⟨be, hbe⟩ : ∃ be, be = w.heap.size := ⟨_, rfl⟩
    obtain ⟨br, hbr⟩ : ∃ br, br = w.heap.size + 1 := ⟨_, rfl⟩
    have HBr : Hid (br = w.heap.size + 1) := hbr
    rw [← hbr] at q2
    have hlt := (Array.getElem?_eq_some_iff.1 q2).1
    generalize it16 S m k = er at *
    clear hsz hi h hte z1 q1
    go_enter Try.func22, Try.ntmps22
    go_wp2_with (first
      | (go_at_call 13; rw [← hw1, ← hbr, ← hbe]; clear hw1 hbr hbe; refine CS.mono ?_; rintro e1 w2 ⟨rfl, b2⟩; have r4 := (b2.block br hlt).trans q2; obtain ⟨t0, t1, t2, t3, t4, t5⟩ := six_cells r4; have g0 := six_free (i := 0) r4; have g1 := six_free (i := 1) r4; have g2 := six_free (i := 2) r4; have g3 := six_free (i := 3) r4; have g4 := six_free (i := 4) r4; have g5 := six_free (i := 5) r4; have HR5 : Hid (w2.heap[br]? = some (.cells #[.int .i64 0, .int .i64 0, .int .i64 0, .int .i64 0, .int .i64 0, .int .i64 0] 47 (0, 0))) := r4; have HKW : Hid (Below w.heap.size w w2) := (b1.trans (b2.mono b1.size)); clear CS r4))
    refine bodyPost_ret (v := .tuple #[.agg #[.int .i64 0, .int .i64 0, .int .i64 0, .int .i64 0, .int .i64 0, .int .i64 0], .int .i64 er]) (results_ct16 (fn := Try.f22) (p := 2) (u := 3) (ty := 47) rfl _ _ br _ _ _ _ rfl (six_all HR5.out _ _ _ _ _ _) Try.underlying47 rfl (by kernel_rfl)) rfl ?_
    exact ⟨rfl, HKW.out.trans ((six_kp (fun k => w.heap.size ≤ k) (by have := HBr.out; omega) _ _ _ _ _ _).below (fun _ h => h) HKW.out.size)⟩
end Go.Proofs.Ytkddjgdfjbjfpaa
