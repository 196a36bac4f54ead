import Derived.Test.YteboaolflecibaaDoorPk
import Derived.Test.YteboaolflecibaaDoorPm
import Derived.Test.YteboaolflecibaaDoorPq
import Derived.Test.YteboaolflecibaaDoorPe
namespace Go.Proofs.YteboaolflecibaaDoor
open Go.RowKit Go.Shelf
set_option linter.unusedVariables false
set_option linter.unusedSimpArgs false
theorem yields_conv25 {P : Program} {ops : Array Oper} {S : World → Prop} {op : Oper} {a : Act} (hw : Region.wanted op (yielded ops a.tmps) = true) (t u : TypeId) (x : Operand) (ho : op.op = .convert t u x) {v r : Value} (hx : a.eval x = v) (hS : ∀ w, S w → (convert t u v).run P w = .ok r w) : YieldsIf P ops S op r a :=
  .inl ⟨hw, fun w hw' => by
    unfold execOp
    simp only [ho, hx, Sem.run_bind, Sem.run_pure, Result.andThen_ok, hS w hw']⟩
set_option maxRecDepth 100000 in
set_option maxHeartbeats 4000000 in
theorem rget25 {w : World} {g o n cp at_ s : Nat} {zs : List Int} (hs : Seg w (some ⟨g, o, none⟩) zs) (hn : n = zs.length) (hcp : n ≤ cp) (hl : n ≤ 140737488355328) (h1 : 1 ≤ s) (h8 : s ≤ 8) (hat : at_ + s ≤ n) :
    Calls Tryd.prog 53 #[.slice (some ⟨g, o, none⟩) n cp, .int .i64 at_, .int .i64 s] w fun e w' => e = .returned (.int .i64 (IntKind.i64.wrap (unfL ((zs.drop at_).take s)))) ∧ w' = w := by
  have SL := slice_lo25 ⟨g, o, none⟩ n cp at_ hcp (by omega) (by omega)
  rw [add25] at SL
  have UF := runfix_ok (some ⟨g, o + at_, none⟩) (zs.drop at_) (cp - at_) s w (hs.drop at_) (by rw [List.length_drop]; omega) h1 h8 (by rw [List.length_drop]; omega)
  rw [List.length_drop, ← hn] at UF
  obtain ⟨y, hy⟩ : ∃ y, y = IntKind.i64.wrap (unfL ((zs.drop at_).take s)) := ⟨_, rfl⟩
  have hw := hy.symm
  rw [← hy]
  generalize unfL ((zs.drop at_).take s) = u at *
  clear hs hn hl h1 h8 hat hy hcp
  go_enter Tryd.func53, Tryd.ntmps53
  go_wp2_with fail
  refine UF.mono ?_
  rintro e1 w1 ⟨rfl, hw1⟩
  rw [hw1]
  clear UF hw1
  go_wp2_with fail
  go_ret
  exact ⟨rfl, rfl⟩
theorem part25a {a b c e f g h i : Value} {j : Nat} {v : Value} (hj : [a, b, c, e][j]? = some v) : #[a, b, c, e, f, g, h, i][0 + j]? = some v := by
  rcases j with _ | _ | _ | _ | j <;> simp_all
theorem part25b {a b c e f g h i : Value} {j : Nat} {v : Value} (hj : [f, g, h, i][j]? = some v) : #[a, b, c, e, f, g, h, i][4 + j]? = some v := by
  rcases j with _ | _ | _ | _ | j
  · simp_all
  · simp_all
  · simp_all
  · simp_all
  · simp at hj
def Hq25 (w1 : World) (N lb : Nat) (A0 A1 A2 : Array Value) (t : Value) (V : World) : Prop := ∃ i : Nat, i ≤ 2 ∧ t = .int .i64 (i : Int) ∧ V.heap[lb]? = some (.cells (if i = 0 then A0 else if i = 1 then A1 else A2) 103 (0, 0)) ∧ V.heap[N]? = some (.cells #[.int .i64 0, .int .i64 0, .int .i64 0, .int .i64 0, .int .u32 0, .int .i64 0, .int .i64 0, .int .i64 0, .int .u32 0, .int .i64 0] 27 (0, 0)) ∧ Below w1.heap.size w1 V
set_option maxRecDepth 100000 in
set_option maxHeartbeats 32000000 in
theorem rdecode25 (a : Option Addr) (zs : List Int) (n cp : Nat) (w : World) (hs : Seg w a zs) (hn : n = zs.length) (hcp : n ≤ cp) (hl : n ≤ 140737488355328) : Calls Tryd.prog 19 #[.slice a n cp] w fun e w' => e = .returned (.tuple #[.agg (dd25 zs).1.cs, .int .i64 (dd25 zs).2]) ∧ Below w.heap.size w w' := by
  have HDE : Hid (dd25 zs = if 43 ≤ zs.length ∧ zs.take 4 = mg25 ∧ zs.getD 11 0 ≤ 127 ∧ (dr25 zs).may ∧ en25 (dr25 zs) = zs.take 43 then (dr25 zs, 0) else (zr25, 250)) := rfl
  obtain ⟨R, hR⟩ : ∃ R, R = dd25 zs := ⟨_, rfl⟩
  rw [← hR] at HDE ⊢
  clear hR
  obtain ⟨N, hN⟩ : ∃ N, N = w.heap.size := ⟨_, rfl⟩
  have HN : Hid (N = w.heap.size) := hN
  obtain ⟨w1, hw1⟩ : ∃ v, v = w.alloc (.cells #[.int .i64 0, .int .i64 0, .int .i64 0, .int .i64 0, .int .u32 0, .int .i64 0, .int .i64 0, .int .i64 0, .int .u32 0, .int .i64 0] 27) := ⟨_, rfl⟩
  have HW1 : Hid (w.alloc (.cells #[.int .i64 0, .int .i64 0, .int .i64 0, .int .i64 0, .int .u32 0, .int .i64 0, .int .i64 0, .int .i64 0, .int .u32 0, .int .i64 0] 27) = w1) := hw1.symm
  have b1 : Below w.heap.size w w1 := by rw [hw1]; exact (Below.refl _ _).alloc (Nat.le_refl _) _
  have q1 : w1.heap[N]? = some (.cells #[.int .i64 0, .int .i64 0, .int .i64 0, .int .i64 0, .int .u32 0, .int .i64 0, .int .i64 0, .int .i64 0, .int .u32 0, .int .i64 0] 27 (0, 0)) := by rw [hw1, hN]; exact heap_alloc_new _ _
  have z1 : w1.heap.size = N + 1 := by rw [hw1, hN]; simp
  rw [← hN] at b1
  have H1 : Hid (w1.heap[N]? = some (.cells #[.int .i64 0, .int .i64 0, .int .i64 0, .int .i64 0, .int .u32 0, .int .i64 0, .int .i64 0, .int .i64 0, .int .u32 0, .int .i64 0] 27 (0, 0)) ∧ Below N w w1 ∧ Seg w1 a zs ∧ w1.heap.size = N + 1) := ⟨q1, b1, hs.old (by rw [← hN]; exact b1), z1⟩
  have HL : Hid (n = zs.length ∧ n ≤ cp ∧ n ≤ 140737488355328) := ⟨hn, hcp, hl⟩
  clear hw1 b1 q1 hs hn z1
  by_cases hlt : n < 43
  · have hr : R = (zr25, 250) := by rw [HDE.out, if_neg (fun h => by have h1 := h.1; have h2 := HL.out.1; omega)]
    subst hr
    clear HDE
    have hli : (n : Int) < 43 := by omega
    go_enter Tryd.func19, Tryd.ntmps19
    go_upto_region 1 with fail
    rw [HW1.out, ← hN]
    clear hN
    go_wp2_with (refine wpList_store_row rfl 27 (.tmp 2) (.tmp 25) rfl N #[.int .i64 0, .int .i64 0, .int .i64 0, .int .i64 0, .int .u32 0, .int .i64 0, .int .i64 0, .int .i64 0, .int .u32 0, .int .i64 0] rfl rfl _ _ H1.out.1 info_rc25d rfl (row_rc25 zr25) ?_)
    refine bodyPost_ret (v := .tuple #[.agg #[.int .i64 0, .int .i64 0, .int .i64 0, .int .i64 0, .int .u32 0, .int .i64 0, .int .i64 0, .int .i64 0, .int .u32 0, .int .i64 0], .int .i64 250]) (results_ct25 (fn := Tryd.f19) (p := 2) (u := 3) (ty := 27) rfl _ _ N _ #[.int .i64 0, .int .i64 0, .int .i64 0, .int .i64 0, .int .u32 0, .int .i64 0, .int .i64 0, .int .i64 0, .int .u32 0, .int .i64 0] _ _ rfl (set_row25 H1.out.1) Tryd.underlying27 rfl info_rc25d) rfl ?_
    exact ⟨rfl, by have := below_row25 (w := w) (by rw [← HN.out]; exact H1.out.2.1) (Nat.le_of_eq HN.out.symm) #[.int .i64 0, .int .i64 0, .int .i64 0, .int .i64 0, .int .u32 0, .int .i64 0, .int .i64 0, .int .i64 0, .int .u32 0, .int .i64 0]; rw [← HN.out] at this ⊢; exact this⟩
  have hnl : ¬ (n : Int) < 43 := by omega
  obtain ⟨g, o, rfl, -⟩ := H1.out.2.2.1.at_ 0 (by have := HL.out.1; omega)
  have sg := H1.out.2.2.1
  have hcv := run_conv_segS (P := Tryd.prog) cp (sg.take 4) 28 5 9 Tryd.underlying28 Tryd.underlying5 Tryd.underlying9
  have hl4 : (zs.take 4).length = 4 := by rw [List.length_take]; have := HL.out.1; omega
  have hbd := sg.mem
  have h4 : ∀ z ∈ zs.take 4, 0 ≤ z ∧ z ≤ 255 := fun z hz => hbd z (List.mem_of_mem_take hz)
  have hbe := bytes_eq25 h4
  rw [hl4] at hcv
  have SH := slice_hi25 ⟨g, o, none⟩ n cp 4 hcp (by omega)
  have c11 : w1.cell? ⟨g, o + 11, none⟩ = some (.int .u8 (zs.getD 11 0)) := by
    obtain ⟨g2, o2, e, h⟩ := sg.at_ 11 (by have := HL.out.1; omega)
    simp only [Option.some.injEq, Addr.mk.injEq, and_true] at e
    rw [e.1, e.2]; exact h
  have hil : (11 : Int) < (n : Int) := by omega
  by_cases hmg : zs.take 4 = mg25
  rotate_left
  · have hr : R = (zr25, 250) := by rw [HDE.out, if_neg (fun h => hmg h.2.1)]
    subst hr
    rw [decide_eq_false hmg] at hbe
    clear HDE hmg hl4 h4 hbd sg c11 hil
    go_enter Tryd.func19, Tryd.ntmps19
    go_upto_region 1 with fail
    rw [HW1.out, ← hN]
    clear hN
    go_wp2_with (refine wpList_store_row rfl 27 (.tmp 2) (.tmp 25) rfl N #[.int .i64 0, .int .i64 0, .int .i64 0, .int .i64 0, .int .u32 0, .int .i64 0, .int .i64 0, .int .i64 0, .int .u32 0, .int .i64 0] rfl rfl _ _ H1.out.1 info_rc25d rfl (row_rc25 zr25) ?_)
    refine bodyPost_ret (v := .tuple #[.agg #[.int .i64 0, .int .i64 0, .int .i64 0, .int .i64 0, .int .u32 0, .int .i64 0, .int .i64 0, .int .i64 0, .int .u32 0, .int .i64 0], .int .i64 250]) (results_ct25 (fn := Tryd.f19) (p := 2) (u := 3) (ty := 27) rfl _ _ N _ #[.int .i64 0, .int .i64 0, .int .i64 0, .int .i64 0, .int .u32 0, .int .i64 0, .int .i64 0, .int .i64 0, .int .u32 0, .int .i64 0] _ _ rfl (set_row25 H1.out.1) Tryd.underlying27 rfl info_rc25d) rfl ?_
    exact ⟨rfl, by have := below_row25 (w := w) (by rw [← HN.out]; exact H1.out.2.1) (Nat.le_of_eq HN.out.symm) #[.int .i64 0, .int .i64 0, .int .i64 0, .int .i64 0, .int .u32 0, .int .i64 0, .int .i64 0, .int .i64 0, .int .u32 0, .int .i64 0]; rw [← HN.out] at this ⊢; exact this⟩
  rw [decide_eq_true hmg] at hbe
  by_cases h127 : 127 < zs.getD 11 0
  · have hr : R = (zr25, 250) := by rw [HDE.out, if_neg (fun h => by have := h.2.2.1; omega)]
    subst hr
    clear HDE hmg hl4 h4 hbd sg
    generalize zs.getD 11 0 = x11 at *
    go_enter Tryd.func19, Tryd.ntmps19
    go_upto_region 1 with fail
    rw [HW1.out, ← hN]
    clear hN
    go_wp2_with (refine wpList_store_row rfl 27 (.tmp 2) (.tmp 25) rfl N #[.int .i64 0, .int .i64 0, .int .i64 0, .int .i64 0, .int .u32 0, .int .i64 0, .int .i64 0, .int .i64 0, .int .u32 0, .int .i64 0] rfl rfl _ _ H1.out.1 info_rc25d rfl (row_rc25 zr25) ?_)
    refine bodyPost_ret (v := .tuple #[.agg #[.int .i64 0, .int .i64 0, .int .i64 0, .int .i64 0, .int .u32 0, .int .i64 0, .int .i64 0, .int .i64 0, .int .u32 0, .int .i64 0], .int .i64 250]) (results_ct25 (fn := Tryd.f19) (p := 2) (u := 3) (ty := 27) rfl _ _ N _ #[.int .i64 0, .int .i64 0, .int .i64 0, .int .i64 0, .int .u32 0, .int .i64 0, .int .i64 0, .int .i64 0, .int .u32 0, .int .i64 0] _ _ rfl (set_row25 H1.out.1) Tryd.underlying27 rfl info_rc25d) rfl ?_
    exact ⟨rfl, by have := below_row25 (w := w) (by rw [← HN.out]; exact H1.out.2.1) (Nat.le_of_eq HN.out.symm) #[.int .i64 0, .int .i64 0, .int .i64 0, .int .i64 0, .int .u32 0, .int .i64 0, .int .i64 0, .int .i64 0, .int .u32 0, .int .i64 0]; rw [← HN.out] at this ⊢; exact this⟩
  have hd : R = if (dr25 zs).may ∧ en25 (dr25 zs) = zs.take 43 then (dr25 zs, 0) else (zr25, 250) := by
    rw [HDE.out]
    by_cases hx : (dr25 zs).may ∧ en25 (dr25 zs) = zs.take 43
    · rw [if_pos hx, if_pos ⟨by have := HL.out.1; omega, hmg, by omega, hx⟩]
    · rw [if_neg hx, if_neg (fun h => hx h.2.2.2)]
  have HD : Hid _ := hd
  have G0 : ∀ V, Below w1.heap.size w1 V → Calls Tryd.prog 53 #[.slice (some ⟨g, o, none⟩) n cp, .int .i64 4, .int .i64 8] V fun e w' => e = .returned (.int .i64 (IntKind.i64.wrap (unfL ((zs.drop 4).take 8)))) ∧ w' = V := fun V hV => rget25 (w := V) (at_ := 4) (s := 8) (sg.old hV) HL.out.1 hcp hl (by omega) (by omega) (by omega)
  have G1 : ∀ V, Below w1.heap.size w1 V → Calls Tryd.prog 53 #[.slice (some ⟨g, o, none⟩) n cp, .int .i64 12, .int .i64 1] V fun e w' => e = .returned (.int .i64 (IntKind.i64.wrap (unfL ((zs.drop 12).take 1)))) ∧ w' = V := fun V hV => rget25 (w := V) (at_ := 12) (s := 1) (sg.old hV) HL.out.1 hcp hl (by omega) (by omega) (by omega)
  have G2 : ∀ V, Below w1.heap.size w1 V → Calls Tryd.prog 53 #[.slice (some ⟨g, o, none⟩) n cp, .int .i64 13, .int .i64 4] V fun e w' => e = .returned (.int .i64 (IntKind.i64.wrap (unfL ((zs.drop 13).take 4)))) ∧ w' = V := fun V hV => rget25 (w := V) (at_ := 13) (s := 4) (sg.old hV) HL.out.1 hcp hl (by omega) (by omega) (by omega)
  have G3 : ∀ V, Below w1.heap.size w1 V → Calls Tryd.prog 53 #[.slice (some ⟨g, o, none⟩) n cp, .int .i64 17, .int .i64 4] V fun e w' => e = .returned (.int .i64 (IntKind.i64.wrap (unfL ((zs.drop 17).take 4)))) ∧ w' = V := fun V hV => rget25 (w := V) (at_ := 17) (s := 4) (sg.old hV) HL.out.1 hcp hl (by omega) (by omega) (by omega)
  have G4 : ∀ V, Below w1.heap.size w1 V → Calls Tryd.prog 53 #[.slice (some ⟨g, o, none⟩) n cp, .int .i64 21, .int .i64 4] V fun e w' => e = .returned (.int .i64 (IntKind.i64.wrap (unfL ((zs.drop 21).take 4)))) ∧ w' = V := fun V hV => rget25 (w := V) (at_ := 21) (s := 4) (sg.old hV) HL.out.1 hcp hl (by omega) (by omega) (by omega)
  have G5 : ∀ V, Below w1.heap.size w1 V → Calls Tryd.prog 53 #[.slice (some ⟨g, o, none⟩) n cp, .int .i64 25, .int .i64 1] V fun e w' => e = .returned (.int .i64 (IntKind.i64.wrap (unfL ((zs.drop 25).take 1)))) ∧ w' = V := fun V hV => rget25 (w := V) (at_ := 25) (s := 1) (sg.old hV) HL.out.1 hcp hl (by omega) (by omega) (by omega)
  have G6 : ∀ V, Below w1.heap.size w1 V → Calls Tryd.prog 53 #[.slice (some ⟨g, o, none⟩) n cp, .int .i64 26, .int .i64 4] V fun e w' => e = .returned (.int .i64 (IntKind.i64.wrap (unfL ((zs.drop 26).take 4)))) ∧ w' = V := fun V hV => rget25 (w := V) (at_ := 26) (s := 4) (sg.old hV) HL.out.1 hcp hl (by omega) (by omega) (by omega)
  have G7 : ∀ V, Below w1.heap.size w1 V → Calls Tryd.prog 53 #[.slice (some ⟨g, o, none⟩) n cp, .int .i64 30, .int .i64 4] V fun e w' => e = .returned (.int .i64 (IntKind.i64.wrap (unfL ((zs.drop 30).take 4)))) ∧ w' = V := fun V hV => rget25 (w := V) (at_ := 30) (s := 4) (sg.old hV) HL.out.1 hcp hl (by omega) (by omega) (by omega)
  have G8 : ∀ V, Below w1.heap.size w1 V → Calls Tryd.prog 53 #[.slice (some ⟨g, o, none⟩) n cp, .int .i64 34, .int .i64 4] V fun e w' => e = .returned (.int .i64 (IntKind.i64.wrap (unfL ((zs.drop 34).take 4)))) ∧ w' = V := fun V hV => rget25 (w := V) (at_ := 34) (s := 4) (sg.old hV) HL.out.1 hcp hl (by omega) (by omega) (by omega)
  have G9 : ∀ V, Below w1.heap.size w1 V → Calls Tryd.prog 53 #[.slice (some ⟨g, o, none⟩) n cp, .int .i64 38, .int .i64 1] V fun e w' => e = .returned (.int .i64 (IntKind.i64.wrap (unfL ((zs.drop 38).take 1)))) ∧ w' = V := fun V hV => rget25 (w := V) (at_ := 38) (s := 1) (sg.old hV) HL.out.1 hcp hl (by omega) (by omega) (by omega)
  obtain ⟨y0, hy0⟩ : ∃ y, y = IntKind.i64.wrap (unfL ((zs.drop 4).take 8)) := ⟨_, rfl⟩
  rw [← hy0] at G0
  obtain ⟨y1, hy1⟩ : ∃ y, y = IntKind.i64.wrap (unfL ((zs.drop 12).take 1)) := ⟨_, rfl⟩
  rw [← hy1] at G1
  obtain ⟨y2, hy2⟩ : ∃ y, y = IntKind.i64.wrap (unfL ((zs.drop 13).take 4)) := ⟨_, rfl⟩
  rw [← hy2] at G2
  obtain ⟨y3, hy3⟩ : ∃ y, y = IntKind.i64.wrap (unfL ((zs.drop 17).take 4)) := ⟨_, rfl⟩
  rw [← hy3] at G3
  obtain ⟨y4, hy4⟩ : ∃ y, y = IntKind.i64.wrap (unfL ((zs.drop 21).take 4)) := ⟨_, rfl⟩
  rw [← hy4] at G4
  obtain ⟨y5, hy5⟩ : ∃ y, y = IntKind.i64.wrap (unfL ((zs.drop 25).take 1)) := ⟨_, rfl⟩
  rw [← hy5] at G5
  obtain ⟨y6, hy6⟩ : ∃ y, y = IntKind.i64.wrap (unfL ((zs.drop 26).take 4)) := ⟨_, rfl⟩
  rw [← hy6] at G6
  obtain ⟨y7, hy7⟩ : ∃ y, y = IntKind.i64.wrap (unfL ((zs.drop 30).take 4)) := ⟨_, rfl⟩
  rw [← hy7] at G7
  obtain ⟨y8, hy8⟩ : ∃ y, y = IntKind.i64.wrap (unfL ((zs.drop 34).take 4)) := ⟨_, rfl⟩
  rw [← hy8] at G8
  obtain ⟨y9, hy9⟩ : ∃ y, y = IntKind.i64.wrap (unfL ((zs.drop 38).take 1)) := ⟨_, rfl⟩
  rw [← hy9] at G9
  have hu4 : 0 ≤ unfL ((zs.drop 21).take 4) ∧ unfL ((zs.drop 21).take 4) < 4294967296 := by
    have h := unfL_pos ((zs.drop 21).take 4) (fun z hz => hbd z (List.mem_of_mem_drop (List.mem_of_mem_take hz)))
    rw [show ((zs.drop 21).take 4).length = 4 by rw [List.length_take, List.length_drop]; have := HL.out.1; omega] at h
    exact h
  have hyv4 : y4 = unfL ((zs.drop 21).take 4) := by rw [hy4]; exact IntWalk.i64_in _ (by omega)
  obtain ⟨m4, hm4⟩ : ∃ m, m = IntKind.u32.wrap y4 := ⟨_, rfl⟩
  have hu8 : 0 ≤ unfL ((zs.drop 34).take 4) ∧ unfL ((zs.drop 34).take 4) < 4294967296 := by
    have h := unfL_pos ((zs.drop 34).take 4) (fun z hz => hbd z (List.mem_of_mem_drop (List.mem_of_mem_take hz)))
    rw [show ((zs.drop 34).take 4).length = 4 by rw [List.length_take, List.length_drop]; have := HL.out.1; omega] at h
    exact h
  have hyv8 : y8 = unfL ((zs.drop 34).take 4) := by rw [hy8]; exact IntWalk.i64_in _ (by omega)
  obtain ⟨m8, hm8⟩ : ∃ m, m = IntKind.u32.wrap y8 := ⟨_, rfl⟩
  have HDR : Hid ((dr25 zs).cs = #[.int .i64 y0, .int .i64 y1, .int .i64 y2, .int .i64 y3, .int .u32 m4, .int .i64 y5, .int .i64 y6, .int .i64 y7, .int .u32 m8, .int .i64 y9]) := by
    show (dr25 zs).cs = #[.int .i64 y0, .int .i64 y1, .int .i64 y2, .int .i64 y3, .int .u32 m4, .int .i64 y5, .int .i64 y6, .int .i64 y7, .int .u32 m8, .int .i64 y9]
    have e4 : dv25 zs 4 = m4 := by rw [hm4, hyv4]; rfl
    have e8 : dv25 zs 8 = m8 := by rw [hm8, hyv8]; rfl
    have d : (dr25 zs).cs = #[.int .i64 (dv25 zs 0), .int .i64 (dv25 zs 1), .int .i64 (dv25 zs 2), .int .i64 (dv25 zs 3), .int .u32 (dv25 zs 4), .int .i64 (dv25 zs 5), .int .i64 (dv25 zs 6), .int .i64 (dv25 zs 7), .int .u32 (dv25 zs 8), .int .i64 (dv25 zs 9)] := rfl
    rw [d, e4, e8, hy0, hy1, hy2, hy3, hy5, hy6, hy7, hy9]
    rfl
  have hwd : (dr25 zs).wd := by
    have e4 : (dr25 zs).g.m = unfL ((zs.drop 21).take 4) := by show dv25 zs 4 = _; exact IntWalk.u32_in _ (by show 0 ≤ unfL ((zs.drop 21).take 4) ∧ unfL ((zs.drop 21).take 4) ≤ 4294967295; omega)
    have e8 : (dr25 zs).n.m = unfL ((zs.drop 34).take 4) := by show dv25 zs 8 = _; exact IntWalk.u32_in _ (by show 0 ≤ unfL ((zs.drop 34).take 4) ∧ unfL ((zs.drop 34).take 4) ≤ 4294967295; omega)
    exact ⟨by rw [e4]; omega, by rw [e8]; omega⟩
  have hw4 := hm4.symm
  have hw8 := hm8.symm
  have HEN : Hid (∀ W, Calls Tryd.prog 12 #[.agg #[.int .i64 y0, .int .i64 y1, .int .i64 y2, .int .i64 y3, .int .u32 m4, .int .i64 y5, .int .i64 y6, .int .i64 y7, .int .u32 m8, .int .i64 y9]] W fun e w' => ∃ p c, e = .returned (.tuple #[.slice p (en25 (dr25 zs)).length c, .int .i64 (ck25 (dr25 zs))]) ∧ w'.ownsRow W.heap.size 5 1 (.slice p (en25 (dr25 zs)).length c) (en25 (dr25 zs)).length ((en25 (dr25 zs)).map (Value.int .u8)) ∧ Below W.heap.size W w') := fun W => by rw [← HDR.out]; exact rencode25 (dr25 zs) hwd W
  have HCK : Hid (ck25 (dr25 zs) = 0 ↔ (dr25 zs).may) := by show (_ ↔ _); unfold ck25; by_cases h : (dr25 zs).may <;> simp [h]
  have HEB : Hid (∀ z ∈ en25 (dr25 zs), 0 ≤ z ∧ z ≤ 255) := by
    show ∀ z ∈ en25 (dr25 zs), 0 ≤ z ∧ z ≤ 255
    unfold en25
    split
    · intro z hz
      rcases List.mem_append.1 hz with h | h
      · exact be25_bd _ 10 z h
      · exact sm21_bd _ z h
    · simp
  have HSG : Hid (Seg w1 (some ⟨g, o, none⟩) zs ∧ n ≤ cp ∧ 43 ≤ n ∧ n = zs.length) := ⟨sg, hcp, by omega, HL.out.1⟩
  clear HDE hmg hl4 h4 hbd sg hd hu4 hu8 hyv4 hyv8 hwd hm4 hm8
  clear hy0 hy1 hy2 hy3 hy4 hy5 hy6 hy7 hy8 hy9
  generalize zs.getD 11 0 = x11 at *
  obtain ⟨w2, hw2⟩ : ∃ v, v = w1.alloc (.cells #[.int .i64 0, .int .i64 0, .int .i64 0, .int .u32 0, .int .i64 0, .int .i64 0, .int .i64 0, .int .u32 0] 103) := ⟨_, rfl⟩
  obtain ⟨lb, hlb⟩ : ∃ b, b = w1.heap.size := ⟨_, rfl⟩
  have b2 : Below w1.heap.size w1 w2 := by rw [hw2]; exact (Below.refl _ _).alloc (Nat.le_refl _) _
  have q2 : w2.heap[lb]? = some (.cells #[.int .i64 0, .int .i64 0, .int .i64 0, .int .u32 0, .int .i64 0, .int .i64 0, .int .i64 0, .int .u32 0] 103 (0, 0)) := by rw [hw2, hlb]; exact heap_alloc_new _ _
  have HW2 : Hid (w1.alloc (.cells #[.int .i64 0, .int .i64 0, .int .i64 0, .int .u32 0, .int .i64 0, .int .i64 0, .int .i64 0, .int .u32 0] 103) = w2 ∧ w1.heap.size = lb) := ⟨hw2.symm, hlb.symm⟩
  have H2 : Hid (w2.heap[lb]? = some (.cells #[.int .i64 0, .int .i64 0, .int .i64 0, .int .u32 0, .int .i64 0, .int .i64 0, .int .i64 0, .int .u32 0] 103 (0, 0)) ∧ Below w1.heap.size w1 w2) := ⟨q2, b2⟩
  have HSZ : Hid (∀ V, Below w1.heap.size w1 V → ∀ c, Below w1.heap.size w1 (V.setRow lb c)) := fun V hV c => below_row25 hV (Nat.le_of_eq hlb.symm) c
  have HBN : Hid (∀ V, Below w1.heap.size w1 V → Below N w V) := fun V hV => H1.out.2.1.trans (hV.mono (by have := H1.out.2.2.2; omega))
  have HT43 : Hid ((∀ z ∈ zs.take 43, 0 ≤ z ∧ z ≤ 255) ∧ (zs.take 43).length = 43) := ⟨fun z hz => HSG.out.1.mem z (List.mem_of_mem_take hz), by rw [List.length_take]; have := HSG.out; omega⟩
  generalize en25 (dr25 zs) = en at *
  generalize ck25 (dr25 zs) = ck at *
  have HRW : Hid ((#[.int .i64 y0, .int .i64 y1, .int .i64 y2, .int .i64 y3, .int .u32 m4, .int .i64 y5, .int .i64 y6, .int .i64 y7, .int .u32 m8, .int .i64 y9] : Array Value).all (·.oneCell') = true) := by rw [← HDR.out]; exact row_rc25 _
  have HNL : Hid (N ≠ lb) := by have := H1.out.2.2.2; show N ≠ lb; omega
  clear hw2 hlb b2 q2
  have HG0 : Hid _ := G0
  have HG1 : Hid _ := G1
  have HG2 : Hid _ := G2
  have HG3 : Hid _ := G3
  have HG4 : Hid _ := G4
  have HG5 : Hid _ := G5
  have HG6 : Hid _ := G6
  have HG7 : Hid _ := G7
  have HG8 : Hid _ := G8
  have HG9 : Hid _ := G9
  clear G0 G1 G2 G3 G4 G5 G6 G7 G8 G9
  go_enter Tryd.func19, Tryd.ntmps19
  go_upto_region 1 with fail
  rw [HW1.out, ← hN]
  clear hN
  go_upto_region 4 with fail
  rw [HW2.out.1, HW2.out.2]
  have J0 : Hid (Hq25 w1 N lb #[.int .i64 0, .int .i64 0, .int .i64 0, .int .u32 0, .int .i64 0, .int .i64 0, .int .i64 0, .int .u32 0] #[.int .i64 y1, .int .i64 y2, .int .i64 y3, .int .u32 m4, .int .i64 0, .int .i64 0, .int .i64 0, .int .u32 0] #[.int .i64 y1, .int .i64 y2, .int .i64 y3, .int .u32 m4, .int .i64 y5, .int .i64 y6, .int .i64 y7, .int .u32 m8] (.int .i64 0) w2) := ⟨0, by omega, rfl, H2.out.1, (H2.out.2.block _ (by have := H1.out.2.2.2; omega)).trans H1.out.1, H2.out.2⟩
  go_wp2_with fail
  go_loopw [26] (fun t26 V => Hq25 w1 N lb #[.int .i64 0, .int .i64 0, .int .i64 0, .int .u32 0, .int .i64 0, .int .i64 0, .int .i64 0, .int .u32 0] #[.int .i64 y1, .int .i64 y2, .int .i64 y3, .int .u32 m4, .int .i64 0, .int .i64 0, .int .i64 0, .int .u32 0] #[.int .i64 y1, .int .i64 y2, .int .i64 y3, .int .u32 m4, .int .i64 y5, .int .i64 y6, .int .i64 y7, .int .u32 m8] t26 V) (fun t26 _ => 2 - (intOf t26).toNat)
  case atStart => exact J0.out
  case round =>
    obtain ⟨i, hi, rfl, hb, hn, hB⟩ := hrel
    have HR : Hid (Below w1.heap.size w1 wr ∧ wr.heap[N]? = some (.cells #[.int .i64 0, .int .i64 0, .int .i64 0, .int .i64 0, .int .u32 0, .int .i64 0, .int .i64 0, .int .i64 0, .int .u32 0, .int .i64 0] 27 (0, 0))) := ⟨hB, hn⟩
    clear hn hB J0 H2 HW2
    rcases (by omega : i = 0 ∨ i = 1 ∨ i = 2) with rfl | rfl | rfl
    · have HB : Hid (wr.heap[lb]? = some (.cells #[.int .i64 0, .int .i64 0, .int .i64 0, .int .u32 0, .int .i64 0, .int .i64 0, .int .i64 0, .int .u32 0] 103 (0, 0))) := hb
      clear hb
      go_wp2_with fail
      refine (HG1.out wr HR.out.1).mono ?_
      rintro e0 v0 ⟨rfl, hv⟩
      subst v0
      go_wp2_with fail
      refine (HG2.out wr HR.out.1).mono ?_
      rintro e1 v1 ⟨rfl, hv⟩
      subst v1
      go_wp2_with fail
      refine (HG3.out wr HR.out.1).mono ?_
      rintro e2 v2 ⟨rfl, hv⟩
      subst v2
      go_wp2_with fail
      refine (HG4.out wr HR.out.1).mono ?_
      rintro e3 v3 ⟨rfl, hv⟩
      subst v3
      go_wp2_with (refine wpList_part25 rfl 25 (.tmp 50) (.tmp 49) rfl lb 0 [.int .i64 y1, .int .i64 y2, .int .i64 y3, .int .u32 m4] rfl rfl HB.out info_im25d (row_im25 ⟨y1, y2, y3, m4⟩) (by simp) #[.int .i64 y1, .int .i64 y2, .int .i64 y3, .int .u32 m4, .int .i64 0, .int .i64 0, .int .i64 0, .int .u32 0] rfl ?_)
      go_roundw
      case rel => exact ⟨1, by omega, rfl, set_row25 HB.out, (old_row25 _ HNL.out).trans HR.out.2, HSZ.out _ HR.out.1 _⟩
      case measure => simp [intOf]
    · have HB : Hid (wr.heap[lb]? = some (.cells #[.int .i64 y1, .int .i64 y2, .int .i64 y3, .int .u32 m4, .int .i64 0, .int .i64 0, .int .i64 0, .int .u32 0] 103 (0, 0))) := hb
      clear hb
      go_wp2_with fail
      refine (HG5.out wr HR.out.1).mono ?_
      rintro e0 v0 ⟨rfl, hv⟩
      subst v0
      go_wp2_with fail
      refine (HG6.out wr HR.out.1).mono ?_
      rintro e1 v1 ⟨rfl, hv⟩
      subst v1
      go_wp2_with fail
      refine (HG7.out wr HR.out.1).mono ?_
      rintro e2 v2 ⟨rfl, hv⟩
      subst v2
      go_wp2_with fail
      refine (HG8.out wr HR.out.1).mono ?_
      rintro e3 v3 ⟨rfl, hv⟩
      subst v3
      go_wp2_with (refine wpList_part25 rfl 25 (.tmp 50) (.tmp 49) rfl lb 4 [.int .i64 y5, .int .i64 y6, .int .i64 y7, .int .u32 m8] rfl rfl HB.out info_im25d (row_im25 ⟨y5, y6, y7, m8⟩) (by simp) #[.int .i64 y1, .int .i64 y2, .int .i64 y3, .int .u32 m4, .int .i64 y5, .int .i64 y6, .int .i64 y7, .int .u32 m8] rfl ?_)
      go_roundw
      case rel => exact ⟨2, by omega, rfl, set_row25 HB.out, (old_row25 _ HNL.out).trans HR.out.2, HSZ.out _ HR.out.1 _⟩
      case measure => simp [intOf]
    · have HB : Hid (wr.heap[lb]? = some (.cells #[.int .i64 y1, .int .i64 y2, .int .i64 y3, .int .u32 m4, .int .i64 y5, .int .i64 y6, .int .i64 y7, .int .u32 m8] 103 (0, 0))) := hb
      clear hb
      go_wp2_with fail
      obtain ⟨v0, hv0⟩ : ∃ v, v = wr.drew := ⟨_, rfl⟩
      have HV0 : Hid (wr.drew = v0) := hv0.symm
      have K0 : Hid (Below w1.heap.size w1 v0 ∧ v0.heap[lb]? = some (.cells #[.int .i64 y1, .int .i64 y2, .int .i64 y3, .int .u32 m4, .int .i64 y5, .int .i64 y6, .int .i64 y7, .int .u32 m8] 103 (0, 0)) ∧ v0.heap[N]? = some (.cells #[.int .i64 0, .int .i64 0, .int .i64 0, .int .i64 0, .int .u32 0, .int .i64 0, .int .i64 0, .int .i64 0, .int .u32 0, .int .i64 0] 27 (0, 0))) := by rw [hv0]; exact ⟨HR.out.1.drew, HB.out, HR.out.2⟩
      clear hv0 HR HB
      refine plain_region16 (fun V => V.heap[lb]? = some (.cells #[.int .i64 y1, .int .i64 y2, .int .i64 y3, .int .u32 m4, .int .i64 y5, .int .i64 y6, .int .i64 y7, .int .u32 m8] 103 (0, 0))) 10 (by kernel_rfl) (by rw [HV0.out]; exact K0.out.2.1) (fun hHeld => ?_)
      rw [HV0.out] at hHeld ⊢
      clear HV0
      refine wpAnyK_take (i := 0) (v := .slice (some ⟨g, o, none⟩) n cp) rfl (by kernel_rfl) (by kernel_rfl) (by kernel_rfl) (by kernel_rfl) (fun _ _ _ h => h) (Or.inl ⟨by rfl, fun w hSw => by go_simp⟩) hHeld ?_
      simp only [List.getElem_toArray, List.getElem_cons_zero, Act.put, List.setIfInBounds_toArray, List.set_cons_zero, List.set_cons_succ]
      refine wpAnyK_take (i := 2) (v := .pointer (some ⟨lb, 0, none⟩)) rfl (by kernel_rfl) (by kernel_rfl) (by kernel_rfl) (by kernel_rfl) (fun _ _ _ h => h) (Or.inl ⟨by rfl, fun w hSw => by go_simp⟩) hHeld ?_
      simp only [List.getElem_toArray, List.getElem_cons_zero, List.getElem_cons_succ, Act.put, List.setIfInBounds_toArray, List.set_cons_zero, List.set_cons_succ]
      refine wpAnyK_take (i := 3) (v := .agg #[.int .i64 y1, .int .i64 y2, .int .i64 y3, .int .u32 m4]) rfl (by kernel_rfl) (by kernel_rfl) (by kernel_rfl) (by kernel_rfl) (fun _ _ _ h => h) (yieldsIf_load_mid (by rfl) 25 (.tmp 54) rfl lb 0 rfl [.int .i64 y1, .int .i64 y2, .int .i64 y3, .int .u32 m4] _ (fun _ h => range25 h (by intro j v hj; exact part25a hj)) Tryd.underlying25 rfl info_im25d) hHeld ?_
      simp only [List.getElem_toArray, List.getElem_cons_zero, List.getElem_cons_succ, Act.put, List.setIfInBounds_toArray, List.set_cons_zero, List.set_cons_succ]
      refine wpAnyK_take (i := 4) (v := .pointer (some ⟨lb, 4, none⟩)) rfl (by kernel_rfl) (by kernel_rfl) (by kernel_rfl) (by kernel_rfl) (fun _ _ _ h => h) (Or.inl ⟨by rfl, fun w hSw => by go_simp⟩) hHeld ?_
      simp only [List.getElem_toArray, List.getElem_cons_zero, List.getElem_cons_succ, Act.put, List.setIfInBounds_toArray, List.set_cons_zero, List.set_cons_succ]
      refine wpAnyK_take (i := 5) (v := .agg #[.int .i64 y5, .int .i64 y6, .int .i64 y7, .int .u32 m8]) rfl (by kernel_rfl) (by kernel_rfl) (by kernel_rfl) (by kernel_rfl) (fun _ _ _ h => h) (yieldsIf_load_mid (by rfl) 25 (.tmp 56) rfl lb 4 rfl [.int .i64 y5, .int .i64 y6, .int .i64 y7, .int .u32 m8] _ (fun _ h => range25 h (by intro j v hj; exact part25b hj)) Tryd.underlying25 rfl info_im25d) hHeld ?_
      simp only [List.getElem_toArray, List.getElem_cons_zero, List.getElem_cons_succ, Act.put, List.setIfInBounds_toArray, List.set_cons_zero, List.set_cons_succ]
      refine wpAnyK_take (i := 6) (v := .slice (some ⟨g, o, none⟩) n cp) rfl (by kernel_rfl) (by kernel_rfl) (by kernel_rfl) (by kernel_rfl) (fun _ _ _ h => h) (Or.inl ⟨by rfl, fun w hSw => by go_simp⟩) hHeld ?_
      simp only [List.getElem_toArray, List.getElem_cons_zero, List.getElem_cons_succ, Act.put, List.setIfInBounds_toArray, List.set_cons_zero, List.set_cons_succ]
      refine wpAnyK_two24 (i := 1) (j := 9) (by kernel_rfl) rfl rfl (fun K hK => ?_) (fun K hK => ?_)
      · (try simp only [List.getElem_toArray, List.getElem_cons_zero, List.getElem_cons_succ, Act.put, List.setIfInBounds_toArray, List.set_cons_zero, List.set_cons_succ])
        go_simp
        refine (HG0.out v0 K0.out.1).mono ?_
        rintro e1 u1 ⟨rfl, hu⟩
        subst u1
        refine hK.out _ _ (fun _ => K0.out.2.1) (fun hHeld0 => ?_)
        have hHeld := hHeld0 (by decide)
        clear hHeld0 hK K
        (try simp only [List.getElem_toArray, List.getElem_cons_zero, List.getElem_cons_succ, Act.put, List.setIfInBounds_toArray, List.set_cons_zero, List.set_cons_succ])
        refine wpAnyK_two24 (i := 7) (j := 9) (by kernel_rfl) rfl rfl (fun K hK => ?_) (fun K hK => ?_)
        · (try simp only [List.getElem_toArray, List.getElem_cons_zero, List.getElem_cons_succ, Act.put, List.setIfInBounds_toArray, List.set_cons_zero, List.set_cons_succ])
          go_simp
          refine (HG9.out v0 K0.out.1).mono ?_
          rintro e7 u7 ⟨rfl, hu⟩
          subst u7
          refine hK.out _ _ (fun _ => K0.out.2.1) (fun hHeld0 => ?_)
          have hHeld := hHeld0 (by decide)
          clear hHeld0 hK K
          (try simp only [List.getElem_toArray, List.getElem_cons_zero, List.getElem_cons_succ, Act.put, List.setIfInBounds_toArray, List.set_cons_zero, List.set_cons_succ])
          refine wpAnyK_take (i := 8) (v := .agg #[.int .i64 y0, .int .i64 y1, .int .i64 y2, .int .i64 y3, .int .u32 m4, .int .i64 y5, .int .i64 y6, .int .i64 y7, .int .u32 m8, .int .i64 y9]) rfl (by kernel_rfl) (by kernel_rfl) (by kernel_rfl) (by kernel_rfl) (fun _ _ _ h => h) (Or.inl ⟨by rfl, fun w hSw => by go_simp⟩) hHeld ?_
          simp only [List.getElem_toArray, List.getElem_cons_zero, List.getElem_cons_succ, Act.put, List.setIfInBounds_toArray, List.set_cons_zero, List.set_cons_succ]
          refine wpAnyK_one (i := 9) (by kernel_rfl) rfl (fun K hK => ?_)
          (try simp only [List.getElem_toArray, List.getElem_cons_zero, List.getElem_cons_succ, Act.put, List.setIfInBounds_toArray, List.set_cons_zero, List.set_cons_succ])
          go_simp
          obtain ⟨v1, hv1⟩ : ∃ v, v = v0.alloc (.cells #[.int .i64 0, .int .i64 0, .int .i64 0, .int .i64 0, .int .u32 0, .int .i64 0, .int .i64 0, .int .i64 0, .int .u32 0, .int .i64 0] 27) := ⟨_, rfl⟩
          obtain ⟨rb, hrb⟩ : ∃ b, b = v0.heap.size := ⟨_, rfl⟩
          have b1 : Below v0.heap.size v0 v1 := by rw [hv1]; exact (Below.refl _ _).alloc (Nat.le_refl _) _
          have q1 : v1.heap[rb]? = some (.cells #[.int .i64 0, .int .i64 0, .int .i64 0, .int .i64 0, .int .u32 0, .int .i64 0, .int .i64 0, .int .i64 0, .int .u32 0, .int .i64 0] 27 (0, 0)) := by rw [hv1, hrb]; exact heap_alloc_new _ _
          have hnr : N < rb := by rw [hrb]; exact (Array.getElem?_eq_some_iff.1 K0.out.2.2).1
          have hwr : w1.heap.size ≤ rb := by rw [hrb]; exact K0.out.1.size
          rw [← hv1, ← hrb]
          have K1 : Hid (Below w1.heap.size w1 v1 ∧ v1.heap[lb]? = some (.cells #[.int .i64 y1, .int .i64 y2, .int .i64 y3, .int .u32 m4, .int .i64 y5, .int .i64 y6, .int .i64 y7, .int .u32 m8] 103 (0, 0)) ∧ v1.heap[N]? = some (.cells #[.int .i64 0, .int .i64 0, .int .i64 0, .int .i64 0, .int .u32 0, .int .i64 0, .int .i64 0, .int .i64 0, .int .u32 0, .int .i64 0] 27 (0, 0)) ∧ v1.heap[rb]? = some (.cells #[.int .i64 0, .int .i64 0, .int .i64 0, .int .i64 0, .int .u32 0, .int .i64 0, .int .i64 0, .int .i64 0, .int .u32 0, .int .i64 0] 27 (0, 0)) ∧ N < rb ∧ w1.heap.size ≤ rb) := ⟨K0.out.1.trans (b1.mono K0.out.1.size), (b1.block _ (Array.getElem?_eq_some_iff.1 K0.out.2.1).1).trans K0.out.2.1, (b1.block _ (Array.getElem?_eq_some_iff.1 K0.out.2.2).1).trans K0.out.2.2, q1, hnr, hwr⟩
          clear hv1 hrb b1 q1 hnr hwr
          refine hK.out _ _ (fun _ => K1.out.2.1) (fun hHeld0 => ?_)
          have hHeld := hHeld0 (by decide)
          clear hHeld0 hK K
          (try simp only [List.getElem_toArray, List.getElem_cons_zero, List.getElem_cons_succ, Act.put, List.setIfInBounds_toArray, List.set_cons_zero, List.set_cons_succ])
          refine wpAnyK_one (i := 10) (by kernel_rfl) rfl (fun K hK => ?_)
          simp only [List.getElem_toArray, List.getElem_cons_zero, List.getElem_cons_succ, Act.put, List.setIfInBounds_toArray, List.set_cons_zero, List.set_cons_succ]
          rw [if_pos (by rfl)]
          refine wp_store_row 27 (.tmp 7) (.tmp 60) rfl rb #[.int .i64 y0, .int .i64 y1, .int .i64 y2, .int .i64 y3, .int .u32 m4, .int .i64 y5, .int .i64 y6, .int .i64 y7, .int .u32 m8, .int .i64 y9] rfl rfl _ _ K1.out.2.2.2.1 info_rc25d rfl HRW.out ?_
          refine hK.out _ _ (fun h => absurd rfl h) (fun _ => ?_)
          clear hK K hHeld
          refine wpAnyK_done (by kernel_rfl) ?_ _
          have K2 : Hid ((v1.setRow rb #[.int .i64 y0, .int .i64 y1, .int .i64 y2, .int .i64 y3, .int .u32 m4, .int .i64 y5, .int .i64 y6, .int .i64 y7, .int .u32 m8, .int .i64 y9]).heap[rb]? = some (.cells #[.int .i64 y0, .int .i64 y1, .int .i64 y2, .int .i64 y3, .int .u32 m4, .int .i64 y5, .int .i64 y6, .int .i64 y7, .int .u32 m8, .int .i64 y9] 27 (0, 0)) ∧ (v1.setRow rb #[.int .i64 y0, .int .i64 y1, .int .i64 y2, .int .i64 y3, .int .u32 m4, .int .i64 y5, .int .i64 y6, .int .i64 y7, .int .u32 m8, .int .i64 y9]).heap[N]? = some (.cells #[.int .i64 0, .int .i64 0, .int .i64 0, .int .i64 0, .int .u32 0, .int .i64 0, .int .i64 0, .int .i64 0, .int .u32 0, .int .i64 0] 27 (0, 0)) ∧ Below w1.heap.size w1 (v1.setRow rb #[.int .i64 y0, .int .i64 y1, .int .i64 y2, .int .i64 y3, .int .u32 m4, .int .i64 y5, .int .i64 y6, .int .i64 y7, .int .u32 m8, .int .i64 y9])) := ⟨set_row25 K1.out.2.2.2.1, (old_row25 _ (by have := K1.out.2.2.2.2.1; omega)).trans K1.out.2.2.1, below_row25 K1.out.1 K1.out.2.2.2.2.2 _⟩
          obtain ⟨v2, hv2⟩ : ∃ v, v = v1.setRow rb #[.int .i64 y0, .int .i64 y1, .int .i64 y2, .int .i64 y3, .int .u32 m4, .int .i64 y5, .int .i64 y6, .int .i64 y7, .int .u32 m8, .int .i64 y9] := ⟨_, rfl⟩
          rw [← hv2] at K2 ⊢
          clear hv2 K1 K0
          go_wp2_with (refine wpList_load_row rfl 27 (.tmp 7) rfl rb rfl _ #[.int .i64 y0, .int .i64 y1, .int .i64 y2, .int .i64 y3, .int .u32 m4, .int .i64 y5, .int .i64 y6, .int .i64 y7, .int .u32 m8, .int .i64 y9] _ _ K2.out.1 Tryd.underlying27 rfl info_rc25d ?_)
          refine (HEN.out v2).mono ?_
          rintro e5 v3 ⟨p5, c5, rfl, o5, b5⟩
          have K3 : Hid (v3.heap[rb]? = some (.cells #[.int .i64 y0, .int .i64 y1, .int .i64 y2, .int .i64 y3, .int .u32 m4, .int .i64 y5, .int .i64 y6, .int .i64 y7, .int .u32 m8, .int .i64 y9] 27 (0, 0)) ∧ v3.heap[N]? = some (.cells #[.int .i64 0, .int .i64 0, .int .i64 0, .int .i64 0, .int .u32 0, .int .i64 0, .int .i64 0, .int .i64 0, .int .u32 0, .int .i64 0] 27 (0, 0)) ∧ Below w1.heap.size w1 v3) := ⟨(b5.block _ (Array.getElem?_eq_some_iff.1 K2.out.1).1).trans K2.out.1, (b5.block _ (Array.getElem?_eq_some_iff.1 K2.out.2.1).1).trans K2.out.2.1, K2.out.2.2.trans (b5.mono K2.out.2.2.size)⟩
          obtain ⟨-, a5, cc5, hv5, sg5, -⟩ := own_seg (M := 255) o5 (by decide) HEB.out
          injection hv5 with r1 r2 r3
          subst r1
          clear o5 b5 r2 r3 K2
          go_wp2_with fail
          obtain ⟨v4, hv4⟩ : ∃ v, v = v3.drew := ⟨_, rfl⟩
          have HV4 : Hid (v3.drew = v4) := hv4.symm
          have K4 : Hid (v4.heap[rb]? = some (.cells #[.int .i64 y0, .int .i64 y1, .int .i64 y2, .int .i64 y3, .int .u32 m4, .int .i64 y5, .int .i64 y6, .int .i64 y7, .int .u32 m8, .int .i64 y9] 27 (0, 0)) ∧ v4.heap[N]? = some (.cells #[.int .i64 0, .int .i64 0, .int .i64 0, .int .i64 0, .int .u32 0, .int .i64 0, .int .i64 0, .int .i64 0, .int .u32 0, .int .i64 0] 27 (0, 0)) ∧ Below w1.heap.size w1 v4 ∧ Seg v4 p5 en) := by rw [hv4]; exact ⟨K3.out.1, K3.out.2.1, K3.out.2.2.drew, sg5.drew⟩
          clear hv4 K3 sg5
          by_cases hm : (dr25 zs).may
          rotate_left
          · have hck : (ck != 0) = true := by have := mt HCK.out.1 hm; simpa using this
            have hr : R = (zr25, 250) := by rw [HD.out, if_neg (fun h => hm h.1)]
            refine plain_region16 (fun _ => True) 10 (by kernel_rfl) trivial (fun hHeld0 => ?_)
            rw [HV4.out]
            have hHeld : (fun _ : World => True) v4 := trivial
            clear hHeld0 HV4
            refine wpAnyK_take (i := 0) (v := .int .i64 ck) rfl (by kernel_rfl) (by kernel_rfl) (by kernel_rfl) (by kernel_rfl) (fun _ _ _ h => h) (Or.inl ⟨by rfl, fun w hSw => by go_simp⟩) hHeld ?_
            simp only [List.getElem_toArray, List.getElem_cons_zero, Act.put, List.setIfInBounds_toArray, List.set_cons_zero, List.set_cons_succ]
            refine wpAnyK_take (i := 1) (v := .bool true) rfl (by kernel_rfl) (by kernel_rfl) (by kernel_rfl) (by kernel_rfl) (fun _ _ _ h => h) (Or.inl ⟨by rfl, fun w hSw => by go_simp⟩) hHeld ?_
            simp only [List.getElem_toArray, List.getElem_cons_zero, List.getElem_cons_succ, Act.put, List.setIfInBounds_toArray, List.set_cons_zero, List.set_cons_succ]
            refine wpAnyK_take (i := 2) (v := .bool true) rfl (by kernel_rfl) (by kernel_rfl) (by kernel_rfl) (by kernel_rfl) (fun _ _ _ h => h) (Or.inl ⟨by rfl, fun w hSw => by go_simp⟩) hHeld ?_
            simp only [List.getElem_toArray, List.getElem_cons_zero, List.getElem_cons_succ, Act.put, List.setIfInBounds_toArray, List.set_cons_zero, List.set_cons_succ]
            refine wpAnyK_take (i := 3) (v := undef) rfl (by kernel_rfl) (by kernel_rfl) (by kernel_rfl) (by kernel_rfl) (fun _ _ _ h => h) (Or.inr ⟨by rfl, rfl⟩) hHeld ?_
            simp only [List.getElem_toArray, List.getElem_cons_zero, List.getElem_cons_succ, Act.put, List.setIfInBounds_toArray, List.set_cons_zero, List.set_cons_succ]
            refine wpAnyK_take (i := 4) (v := undef) rfl (by kernel_rfl) (by kernel_rfl) (by kernel_rfl) (by kernel_rfl) (fun _ _ _ h => h) (Or.inr ⟨by rfl, rfl⟩) hHeld ?_
            simp only [List.getElem_toArray, List.getElem_cons_zero, List.getElem_cons_succ, Act.put, List.setIfInBounds_toArray, List.set_cons_zero, List.set_cons_succ]
            refine wpAnyK_take (i := 5) (v := undef) rfl (by kernel_rfl) (by kernel_rfl) (by kernel_rfl) (by kernel_rfl) (fun _ _ _ h => h) (Or.inr ⟨by rfl, rfl⟩) hHeld ?_
            simp only [List.getElem_toArray, List.getElem_cons_zero, List.getElem_cons_succ, Act.put, List.setIfInBounds_toArray, List.set_cons_zero, List.set_cons_succ]
            refine wpAnyK_take (i := 6) (v := undef) rfl (by kernel_rfl) (by kernel_rfl) (by kernel_rfl) (by kernel_rfl) (fun _ _ _ h => h) (Or.inr ⟨by rfl, rfl⟩) hHeld ?_
            simp only [List.getElem_toArray, List.getElem_cons_zero, List.getElem_cons_succ, Act.put, List.setIfInBounds_toArray, List.set_cons_zero, List.set_cons_succ]
            refine wpAnyK_take (i := 7) (v := undef) rfl (by kernel_rfl) (by kernel_rfl) (by kernel_rfl) (by kernel_rfl) (fun _ _ _ h => h) (Or.inr ⟨by rfl, rfl⟩) hHeld ?_
            simp only [List.getElem_toArray, List.getElem_cons_zero, List.getElem_cons_succ, Act.put, List.setIfInBounds_toArray, List.set_cons_zero, List.set_cons_succ]
            refine wpAnyK_take (i := 8) (v := undef) rfl (by kernel_rfl) (by kernel_rfl) (by kernel_rfl) (by kernel_rfl) (fun _ _ _ h => h) (Or.inr ⟨by rfl, rfl⟩) hHeld ?_
            simp only [List.getElem_toArray, List.getElem_cons_zero, List.getElem_cons_succ, Act.put, List.setIfInBounds_toArray, List.set_cons_zero, List.set_cons_succ]
            refine wpAnyK_take (i := 9) (v := .bool true) rfl (by kernel_rfl) (by kernel_rfl) (by kernel_rfl) (by kernel_rfl) (fun _ _ _ h => h) (Or.inl ⟨by rfl, fun w hSw => by go_simp⟩) hHeld ?_
            simp only [List.getElem_toArray, List.getElem_cons_zero, List.getElem_cons_succ, Act.put, List.setIfInBounds_toArray, List.set_cons_zero, List.set_cons_succ]
            refine wpAnyK_done (by kernel_rfl) ?_ _
            go_wp2_with (refine wpList_store_row rfl 27 (.tmp 2) (.tmp 76) rfl N #[.int .i64 0, .int .i64 0, .int .i64 0, .int .i64 0, .int .u32 0, .int .i64 0, .int .i64 0, .int .i64 0, .int .u32 0, .int .i64 0] rfl rfl _ _ K4.out.2.1 info_rc25d rfl (row_rc25 zr25) ?_)
            refine bodyPost_ret (v := .tuple #[.agg #[.int .i64 0, .int .i64 0, .int .i64 0, .int .i64 0, .int .u32 0, .int .i64 0, .int .i64 0, .int .i64 0, .int .u32 0, .int .i64 0], .int .i64 250]) (results_ct25 (fn := Tryd.f19) (p := 2) (u := 3) (ty := 27) rfl _ _ N _ #[.int .i64 0, .int .i64 0, .int .i64 0, .int .i64 0, .int .u32 0, .int .i64 0, .int .i64 0, .int .i64 0, .int .u32 0, .int .i64 0] _ _ rfl (set_row25 K4.out.2.1) Tryd.underlying27 rfl info_rc25d) rfl ?_
            exact ⟨by first | rfl | (rw [hr]; rfl), by have := below_row25 (w := w) (by rw [← HN.out]; exact HBN.out _ K4.out.2.2.1) (Nat.le_of_eq HN.out.symm) #[.int .i64 0, .int .i64 0, .int .i64 0, .int .i64 0, .int .u32 0, .int .i64 0, .int .i64 0, .int .i64 0, .int .u32 0, .int .i64 0]; rw [← HN.out] at this ⊢; exact this⟩
          have hck : (ck != 0) = false := by rw [HCK.out.2 hm]; rfl
          by_cases he : en = zs.take 43
          · have hse : ((strOfNums en).toList == (strOfNums (zs.take 43)).toList) = true := by rw [str_injS HEB.out HT43.out.1]; simp [he]
            have S43 : (43 : Int) ≤ (cp : Int) := by have := HSG.out; omega
            refine plain_region16 (fun V => Seg V p5 en ∧ Seg V (some ⟨g, o, none⟩) (zs.take 43)) 10 (by kernel_rfl) (by rw [HV4.out]; exact ⟨K4.out.2.2.2, (HSG.out.1.old K4.out.2.2.1).take 43⟩) (fun hHeld => ?_)
            rw [HV4.out] at hHeld ⊢
            clear HV4
            refine wpAnyK_take (i := 0) (v := .int .i64 ck) rfl (by kernel_rfl) (by kernel_rfl) (by kernel_rfl) (by kernel_rfl) (fun _ _ _ h => h) (Or.inl ⟨by rfl, fun w hSw => by go_simp⟩) hHeld ?_
            simp only [List.getElem_toArray, List.getElem_cons_zero, Act.put, List.setIfInBounds_toArray, List.set_cons_zero, List.set_cons_succ]
            refine wpAnyK_take (i := 1) (v := .bool false) rfl (by kernel_rfl) (by kernel_rfl) (by kernel_rfl) (by kernel_rfl) (fun _ _ _ h => h) (Or.inl ⟨by rfl, fun w hSw => by go_simp⟩) hHeld ?_
            simp only [List.getElem_toArray, List.getElem_cons_zero, List.getElem_cons_succ, Act.put, List.setIfInBounds_toArray, List.set_cons_zero, List.set_cons_succ]
            refine wpAnyK_take (i := 2) (v := .bool false) rfl (by kernel_rfl) (by kernel_rfl) (by kernel_rfl) (by kernel_rfl) (fun _ _ _ h => h) (Or.inl ⟨by rfl, fun w hSw => by go_simp⟩) hHeld ?_
            simp only [List.getElem_toArray, List.getElem_cons_zero, List.getElem_cons_succ, Act.put, List.setIfInBounds_toArray, List.set_cons_zero, List.set_cons_succ]
            refine wpAnyK_take (i := 3) (v := .slice p5 en.length c5) rfl (by kernel_rfl) (by kernel_rfl) (by kernel_rfl) (by kernel_rfl) (fun _ _ _ h => h) (Or.inl ⟨by rfl, fun w hSw => by go_simp⟩) hHeld ?_
            simp only [List.getElem_toArray, List.getElem_cons_zero, List.getElem_cons_succ, Act.put, List.setIfInBounds_toArray, List.set_cons_zero, List.set_cons_succ]
            refine wpAnyK_take (i := 4) (v := .string (strOfNums en)) rfl (by kernel_rfl) (by kernel_rfl) (by kernel_rfl) (by kernel_rfl) (fun _ _ _ h => h) (yields_conv25 (by rfl) 28 9 (.tmp 69) rfl rfl (fun W hW => run_conv_segS c5 hW.1 28 5 9 Tryd.underlying28 Tryd.underlying5 Tryd.underlying9)) hHeld ?_
            simp only [List.getElem_toArray, List.getElem_cons_zero, List.getElem_cons_succ, Act.put, List.setIfInBounds_toArray, List.set_cons_zero, List.set_cons_succ]
            refine wpAnyK_take (i := 5) (v := .slice (some ⟨g, o, none⟩) n cp) rfl (by kernel_rfl) (by kernel_rfl) (by kernel_rfl) (by kernel_rfl) (fun _ _ _ h => h) (Or.inl ⟨by rfl, fun w hSw => by go_simp⟩) hHeld ?_
            simp only [List.getElem_toArray, List.getElem_cons_zero, List.getElem_cons_succ, Act.put, List.setIfInBounds_toArray, List.set_cons_zero, List.set_cons_succ]
            refine wpAnyK_take (i := 6) (v := .slice (some ⟨g, o, none⟩) 43 cp) rfl (by kernel_rfl) (by kernel_rfl) (by kernel_rfl) (by kernel_rfl) (fun _ _ _ h => h) (Or.inl ⟨by rfl, fun w hSw => by go_simp⟩) hHeld ?_
            simp only [List.getElem_toArray, List.getElem_cons_zero, List.getElem_cons_succ, Act.put, List.setIfInBounds_toArray, List.set_cons_zero, List.set_cons_succ]
            refine wpAnyK_take (i := 7) (v := .string (strOfNums (zs.take 43))) rfl (by kernel_rfl) (by kernel_rfl) (by kernel_rfl) (by kernel_rfl) (fun _ _ _ h => h) (yields_conv25 (by rfl) 28 9 (.tmp 72) rfl rfl (fun W hW => by have := run_conv_segS (P := Tryd.prog) cp hW.2 28 5 9 Tryd.underlying28 Tryd.underlying5 Tryd.underlying9; rw [HT43.out.2] at this; exact this)) hHeld ?_
            simp only [List.getElem_toArray, List.getElem_cons_zero, List.getElem_cons_succ, Act.put, List.setIfInBounds_toArray, List.set_cons_zero, List.set_cons_succ]
            refine wpAnyK_take (i := 8) (v := .bool false) rfl (by kernel_rfl) (by kernel_rfl) (by kernel_rfl) (by kernel_rfl) (fun _ _ _ h => h) (Or.inl ⟨by rfl, fun w hSw => by go_simp⟩) hHeld ?_
            simp only [List.getElem_toArray, List.getElem_cons_zero, List.getElem_cons_succ, Act.put, List.setIfInBounds_toArray, List.set_cons_zero, List.set_cons_succ]
            refine wpAnyK_take (i := 9) (v := .bool false) rfl (by kernel_rfl) (by kernel_rfl) (by kernel_rfl) (by kernel_rfl) (fun _ _ _ h => h) (Or.inl ⟨by rfl, fun w hSw => by go_simp⟩) hHeld ?_
            simp only [List.getElem_toArray, List.getElem_cons_zero, List.getElem_cons_succ, Act.put, List.setIfInBounds_toArray, List.set_cons_zero, List.set_cons_succ]
            refine wpAnyK_done (by kernel_rfl) ?_ _
            have hr : R = (dr25 zs, 0) := by rw [HD.out, if_pos ⟨hm, he⟩]
            go_wp2_with (first | refine wpList_load_row rfl 27 (.tmp 7) rfl rb rfl _ #[.int .i64 y0, .int .i64 y1, .int .i64 y2, .int .i64 y3, .int .u32 m4, .int .i64 y5, .int .i64 y6, .int .i64 y7, .int .u32 m8, .int .i64 y9] _ _ K4.out.1 Tryd.underlying27 rfl info_rc25d ?_ | refine wpList_store_row rfl 27 (.tmp 2) (.tmp 77) rfl N #[.int .i64 y0, .int .i64 y1, .int .i64 y2, .int .i64 y3, .int .u32 m4, .int .i64 y5, .int .i64 y6, .int .i64 y7, .int .u32 m8, .int .i64 y9] rfl rfl _ _ K4.out.2.1 info_rc25d rfl HRW.out ?_)
            refine bodyPost_ret (v := .tuple #[.agg #[.int .i64 y0, .int .i64 y1, .int .i64 y2, .int .i64 y3, .int .u32 m4, .int .i64 y5, .int .i64 y6, .int .i64 y7, .int .u32 m8, .int .i64 y9], .int .i64 0]) (results_ct25 (fn := Tryd.f19) (p := 2) (u := 3) (ty := 27) rfl _ _ N _ #[.int .i64 y0, .int .i64 y1, .int .i64 y2, .int .i64 y3, .int .u32 m4, .int .i64 y5, .int .i64 y6, .int .i64 y7, .int .u32 m8, .int .i64 y9] _ _ rfl (set_row25 K4.out.2.1) Tryd.underlying27 rfl info_rc25d) rfl ?_
            exact ⟨by (try rw [hr]); show _ = Ending.returned (.tuple #[.agg (dr25 zs).cs, .int .i64 0]); rw [HDR.out], by have := below_row25 (w := w) (by rw [← HN.out]; exact HBN.out _ K4.out.2.2.1) (Nat.le_of_eq HN.out.symm) #[.int .i64 y0, .int .i64 y1, .int .i64 y2, .int .i64 y3, .int .u32 m4, .int .i64 y5, .int .i64 y6, .int .i64 y7, .int .u32 m8, .int .i64 y9]; rw [← HN.out] at this ⊢; exact this⟩
          · have hse : ((strOfNums en).toList == (strOfNums (zs.take 43)).toList) = false := by rw [str_injS HEB.out HT43.out.1]; simp [he]
            have S43 : (43 : Int) ≤ (cp : Int) := by have := HSG.out; omega
            refine plain_region16 (fun V => Seg V p5 en ∧ Seg V (some ⟨g, o, none⟩) (zs.take 43)) 10 (by kernel_rfl) (by rw [HV4.out]; exact ⟨K4.out.2.2.2, (HSG.out.1.old K4.out.2.2.1).take 43⟩) (fun hHeld => ?_)
            rw [HV4.out] at hHeld ⊢
            clear HV4
            refine wpAnyK_take (i := 0) (v := .int .i64 ck) rfl (by kernel_rfl) (by kernel_rfl) (by kernel_rfl) (by kernel_rfl) (fun _ _ _ h => h) (Or.inl ⟨by rfl, fun w hSw => by go_simp⟩) hHeld ?_
            simp only [List.getElem_toArray, List.getElem_cons_zero, Act.put, List.setIfInBounds_toArray, List.set_cons_zero, List.set_cons_succ]
            refine wpAnyK_take (i := 1) (v := .bool false) rfl (by kernel_rfl) (by kernel_rfl) (by kernel_rfl) (by kernel_rfl) (fun _ _ _ h => h) (Or.inl ⟨by rfl, fun w hSw => by go_simp⟩) hHeld ?_
            simp only [List.getElem_toArray, List.getElem_cons_zero, List.getElem_cons_succ, Act.put, List.setIfInBounds_toArray, List.set_cons_zero, List.set_cons_succ]
            refine wpAnyK_take (i := 2) (v := .bool false) rfl (by kernel_rfl) (by kernel_rfl) (by kernel_rfl) (by kernel_rfl) (fun _ _ _ h => h) (Or.inl ⟨by rfl, fun w hSw => by go_simp⟩) hHeld ?_
            simp only [List.getElem_toArray, List.getElem_cons_zero, List.getElem_cons_succ, Act.put, List.setIfInBounds_toArray, List.set_cons_zero, List.set_cons_succ]
            refine wpAnyK_take (i := 3) (v := .slice p5 en.length c5) rfl (by kernel_rfl) (by kernel_rfl) (by kernel_rfl) (by kernel_rfl) (fun _ _ _ h => h) (Or.inl ⟨by rfl, fun w hSw => by go_simp⟩) hHeld ?_
            simp only [List.getElem_toArray, List.getElem_cons_zero, List.getElem_cons_succ, Act.put, List.setIfInBounds_toArray, List.set_cons_zero, List.set_cons_succ]
            refine wpAnyK_take (i := 4) (v := .string (strOfNums en)) rfl (by kernel_rfl) (by kernel_rfl) (by kernel_rfl) (by kernel_rfl) (fun _ _ _ h => h) (yields_conv25 (by rfl) 28 9 (.tmp 69) rfl rfl (fun W hW => run_conv_segS c5 hW.1 28 5 9 Tryd.underlying28 Tryd.underlying5 Tryd.underlying9)) hHeld ?_
            simp only [List.getElem_toArray, List.getElem_cons_zero, List.getElem_cons_succ, Act.put, List.setIfInBounds_toArray, List.set_cons_zero, List.set_cons_succ]
            refine wpAnyK_take (i := 5) (v := .slice (some ⟨g, o, none⟩) n cp) rfl (by kernel_rfl) (by kernel_rfl) (by kernel_rfl) (by kernel_rfl) (fun _ _ _ h => h) (Or.inl ⟨by rfl, fun w hSw => by go_simp⟩) hHeld ?_
            simp only [List.getElem_toArray, List.getElem_cons_zero, List.getElem_cons_succ, Act.put, List.setIfInBounds_toArray, List.set_cons_zero, List.set_cons_succ]
            refine wpAnyK_take (i := 6) (v := .slice (some ⟨g, o, none⟩) 43 cp) rfl (by kernel_rfl) (by kernel_rfl) (by kernel_rfl) (by kernel_rfl) (fun _ _ _ h => h) (Or.inl ⟨by rfl, fun w hSw => by go_simp⟩) hHeld ?_
            simp only [List.getElem_toArray, List.getElem_cons_zero, List.getElem_cons_succ, Act.put, List.setIfInBounds_toArray, List.set_cons_zero, List.set_cons_succ]
            refine wpAnyK_take (i := 7) (v := .string (strOfNums (zs.take 43))) rfl (by kernel_rfl) (by kernel_rfl) (by kernel_rfl) (by kernel_rfl) (fun _ _ _ h => h) (yields_conv25 (by rfl) 28 9 (.tmp 72) rfl rfl (fun W hW => by have := run_conv_segS (P := Tryd.prog) cp hW.2 28 5 9 Tryd.underlying28 Tryd.underlying5 Tryd.underlying9; rw [HT43.out.2] at this; exact this)) hHeld ?_
            simp only [List.getElem_toArray, List.getElem_cons_zero, List.getElem_cons_succ, Act.put, List.setIfInBounds_toArray, List.set_cons_zero, List.set_cons_succ]
            refine wpAnyK_take (i := 8) (v := .bool true) rfl (by kernel_rfl) (by kernel_rfl) (by kernel_rfl) (by kernel_rfl) (fun _ _ _ h => h) (Or.inl ⟨by rfl, fun w hSw => by go_simp⟩) hHeld ?_
            simp only [List.getElem_toArray, List.getElem_cons_zero, List.getElem_cons_succ, Act.put, List.setIfInBounds_toArray, List.set_cons_zero, List.set_cons_succ]
            refine wpAnyK_take (i := 9) (v := .bool true) rfl (by kernel_rfl) (by kernel_rfl) (by kernel_rfl) (by kernel_rfl) (fun _ _ _ h => h) (Or.inl ⟨by rfl, fun w hSw => by go_simp⟩) hHeld ?_
            simp only [List.getElem_toArray, List.getElem_cons_zero, List.getElem_cons_succ, Act.put, List.setIfInBounds_toArray, List.set_cons_zero, List.set_cons_succ]
            refine wpAnyK_done (by kernel_rfl) ?_ _
            have hr : R = (zr25, 250) := by rw [HD.out, if_neg (fun h => he h.2)]
            go_wp2_with (refine wpList_store_row rfl 27 (.tmp 2) (.tmp 76) rfl N #[.int .i64 0, .int .i64 0, .int .i64 0, .int .i64 0, .int .u32 0, .int .i64 0, .int .i64 0, .int .i64 0, .int .u32 0, .int .i64 0] rfl rfl _ _ K4.out.2.1 info_rc25d rfl (row_rc25 zr25) ?_)
            refine bodyPost_ret (v := .tuple #[.agg #[.int .i64 0, .int .i64 0, .int .i64 0, .int .i64 0, .int .u32 0, .int .i64 0, .int .i64 0, .int .i64 0, .int .u32 0, .int .i64 0], .int .i64 250]) (results_ct25 (fn := Tryd.f19) (p := 2) (u := 3) (ty := 27) rfl _ _ N _ #[.int .i64 0, .int .i64 0, .int .i64 0, .int .i64 0, .int .u32 0, .int .i64 0, .int .i64 0, .int .i64 0, .int .u32 0, .int .i64 0] _ _ rfl (set_row25 K4.out.2.1) Tryd.underlying27 rfl info_rc25d) rfl ?_
            exact ⟨by first | rfl | (rw [hr]; rfl), by have := below_row25 (w := w) (by rw [← HN.out]; exact HBN.out _ K4.out.2.2.1) (Nat.le_of_eq HN.out.symm) #[.int .i64 0, .int .i64 0, .int .i64 0, .int .i64 0, .int .u32 0, .int .i64 0, .int .i64 0, .int .i64 0, .int .u32 0, .int .i64 0]; rw [← HN.out] at this ⊢; exact this⟩
        · (try simp only [List.getElem_toArray, List.getElem_cons_zero, List.getElem_cons_succ, Act.put, List.setIfInBounds_toArray, List.set_cons_zero, List.set_cons_succ])
          go_simp
          obtain ⟨v1, hv1⟩ : ∃ v, v = v0.alloc (.cells #[.int .i64 0, .int .i64 0, .int .i64 0, .int .i64 0, .int .u32 0, .int .i64 0, .int .i64 0, .int .i64 0, .int .u32 0, .int .i64 0] 27) := ⟨_, rfl⟩
          obtain ⟨rb, hrb⟩ : ∃ b, b = v0.heap.size := ⟨_, rfl⟩
          have b1 : Below v0.heap.size v0 v1 := by rw [hv1]; exact (Below.refl _ _).alloc (Nat.le_refl _) _
          have q1 : v1.heap[rb]? = some (.cells #[.int .i64 0, .int .i64 0, .int .i64 0, .int .i64 0, .int .u32 0, .int .i64 0, .int .i64 0, .int .i64 0, .int .u32 0, .int .i64 0] 27 (0, 0)) := by rw [hv1, hrb]; exact heap_alloc_new _ _
          have hnr : N < rb := by rw [hrb]; exact (Array.getElem?_eq_some_iff.1 K0.out.2.2).1
          have hwr : w1.heap.size ≤ rb := by rw [hrb]; exact K0.out.1.size
          rw [← hv1, ← hrb]
          have K1 : Hid (Below w1.heap.size w1 v1 ∧ v1.heap[lb]? = some (.cells #[.int .i64 y1, .int .i64 y2, .int .i64 y3, .int .u32 m4, .int .i64 y5, .int .i64 y6, .int .i64 y7, .int .u32 m8] 103 (0, 0)) ∧ v1.heap[N]? = some (.cells #[.int .i64 0, .int .i64 0, .int .i64 0, .int .i64 0, .int .u32 0, .int .i64 0, .int .i64 0, .int .i64 0, .int .u32 0, .int .i64 0] 27 (0, 0)) ∧ v1.heap[rb]? = some (.cells #[.int .i64 0, .int .i64 0, .int .i64 0, .int .i64 0, .int .u32 0, .int .i64 0, .int .i64 0, .int .i64 0, .int .u32 0, .int .i64 0] 27 (0, 0)) ∧ N < rb ∧ w1.heap.size ≤ rb) := ⟨K0.out.1.trans (b1.mono K0.out.1.size), (b1.block _ (Array.getElem?_eq_some_iff.1 K0.out.2.1).1).trans K0.out.2.1, (b1.block _ (Array.getElem?_eq_some_iff.1 K0.out.2.2).1).trans K0.out.2.2, q1, hnr, hwr⟩
          clear hv1 hrb b1 q1 hnr hwr
          refine hK.out _ _ (fun _ => K1.out.2.1) (fun hHeld0 => ?_)
          have hHeld := hHeld0 (by decide)
          clear hHeld0 hK K
          (try simp only [List.getElem_toArray, List.getElem_cons_zero, List.getElem_cons_succ, Act.put, List.setIfInBounds_toArray, List.set_cons_zero, List.set_cons_succ])
          refine wpAnyK_one (i := 7) (by kernel_rfl) rfl (fun K hK => ?_)
          (try simp only [List.getElem_toArray, List.getElem_cons_zero, List.getElem_cons_succ, Act.put, List.setIfInBounds_toArray, List.set_cons_zero, List.set_cons_succ])
          go_simp
          refine (HG9.out v1 K1.out.1).mono ?_
          rintro e7 u7 ⟨rfl, hu⟩
          subst u7
          refine hK.out _ _ (fun _ => K1.out.2.1) (fun hHeld0 => ?_)
          have hHeld := hHeld0 (by decide)
          clear hHeld0 hK K
          (try simp only [List.getElem_toArray, List.getElem_cons_zero, List.getElem_cons_succ, Act.put, List.setIfInBounds_toArray, List.set_cons_zero, List.set_cons_succ])
          refine wpAnyK_take (i := 8) (v := .agg #[.int .i64 y0, .int .i64 y1, .int .i64 y2, .int .i64 y3, .int .u32 m4, .int .i64 y5, .int .i64 y6, .int .i64 y7, .int .u32 m8, .int .i64 y9]) rfl (by kernel_rfl) (by kernel_rfl) (by kernel_rfl) (by kernel_rfl) (fun _ _ _ h => h) (Or.inl ⟨by rfl, fun w hSw => by go_simp⟩) hHeld ?_
          simp only [List.getElem_toArray, List.getElem_cons_zero, List.getElem_cons_succ, Act.put, List.setIfInBounds_toArray, List.set_cons_zero, List.set_cons_succ]
          refine wpAnyK_one (i := 10) (by kernel_rfl) rfl (fun K hK => ?_)
          simp only [List.getElem_toArray, List.getElem_cons_zero, List.getElem_cons_succ, Act.put, List.setIfInBounds_toArray, List.set_cons_zero, List.set_cons_succ]
          rw [if_pos (by rfl)]
          refine wp_store_row 27 (.tmp 7) (.tmp 60) rfl rb #[.int .i64 y0, .int .i64 y1, .int .i64 y2, .int .i64 y3, .int .u32 m4, .int .i64 y5, .int .i64 y6, .int .i64 y7, .int .u32 m8, .int .i64 y9] rfl rfl _ _ K1.out.2.2.2.1 info_rc25d rfl HRW.out ?_
          refine hK.out _ _ (fun h => absurd rfl h) (fun _ => ?_)
          clear hK K hHeld
          refine wpAnyK_done (by kernel_rfl) ?_ _
          have K2 : Hid ((v1.setRow rb #[.int .i64 y0, .int .i64 y1, .int .i64 y2, .int .i64 y3, .int .u32 m4, .int .i64 y5, .int .i64 y6, .int .i64 y7, .int .u32 m8, .int .i64 y9]).heap[rb]? = some (.cells #[.int .i64 y0, .int .i64 y1, .int .i64 y2, .int .i64 y3, .int .u32 m4, .int .i64 y5, .int .i64 y6, .int .i64 y7, .int .u32 m8, .int .i64 y9] 27 (0, 0)) ∧ (v1.setRow rb #[.int .i64 y0, .int .i64 y1, .int .i64 y2, .int .i64 y3, .int .u32 m4, .int .i64 y5, .int .i64 y6, .int .i64 y7, .int .u32 m8, .int .i64 y9]).heap[N]? = some (.cells #[.int .i64 0, .int .i64 0, .int .i64 0, .int .i64 0, .int .u32 0, .int .i64 0, .int .i64 0, .int .i64 0, .int .u32 0, .int .i64 0] 27 (0, 0)) ∧ Below w1.heap.size w1 (v1.setRow rb #[.int .i64 y0, .int .i64 y1, .int .i64 y2, .int .i64 y3, .int .u32 m4, .int .i64 y5, .int .i64 y6, .int .i64 y7, .int .u32 m8, .int .i64 y9])) := ⟨set_row25 K1.out.2.2.2.1, (old_row25 _ (by have := K1.out.2.2.2.2.1; omega)).trans K1.out.2.2.1, below_row25 K1.out.1 K1.out.2.2.2.2.2 _⟩
          obtain ⟨v2, hv2⟩ : ∃ v, v = v1.setRow rb #[.int .i64 y0, .int .i64 y1, .int .i64 y2, .int .i64 y3, .int .u32 m4, .int .i64 y5, .int .i64 y6, .int .i64 y7, .int .u32 m8, .int .i64 y9] := ⟨_, rfl⟩
          rw [← hv2] at K2 ⊢
          clear hv2 K1 K0
          go_wp2_with (refine wpList_load_row rfl 27 (.tmp 7) rfl rb rfl _ #[.int .i64 y0, .int .i64 y1, .int .i64 y2, .int .i64 y3, .int .u32 m4, .int .i64 y5, .int .i64 y6, .int .i64 y7, .int .u32 m8, .int .i64 y9] _ _ K2.out.1 Tryd.underlying27 rfl info_rc25d ?_)
          refine (HEN.out v2).mono ?_
          rintro e5 v3 ⟨p5, c5, rfl, o5, b5⟩
          have K3 : Hid (v3.heap[rb]? = some (.cells #[.int .i64 y0, .int .i64 y1, .int .i64 y2, .int .i64 y3, .int .u32 m4, .int .i64 y5, .int .i64 y6, .int .i64 y7, .int .u32 m8, .int .i64 y9] 27 (0, 0)) ∧ v3.heap[N]? = some (.cells #[.int .i64 0, .int .i64 0, .int .i64 0, .int .i64 0, .int .u32 0, .int .i64 0, .int .i64 0, .int .i64 0, .int .u32 0, .int .i64 0] 27 (0, 0)) ∧ Below w1.heap.size w1 v3) := ⟨(b5.block _ (Array.getElem?_eq_some_iff.1 K2.out.1).1).trans K2.out.1, (b5.block _ (Array.getElem?_eq_some_iff.1 K2.out.2.1).1).trans K2.out.2.1, K2.out.2.2.trans (b5.mono K2.out.2.2.size)⟩
          obtain ⟨-, a5, cc5, hv5, sg5, -⟩ := own_seg (M := 255) o5 (by decide) HEB.out
          injection hv5 with r1 r2 r3
          subst r1
          clear o5 b5 r2 r3 K2
          go_wp2_with fail
          obtain ⟨v4, hv4⟩ : ∃ v, v = v3.drew := ⟨_, rfl⟩
          have HV4 : Hid (v3.drew = v4) := hv4.symm
          have K4 : Hid (v4.heap[rb]? = some (.cells #[.int .i64 y0, .int .i64 y1, .int .i64 y2, .int .i64 y3, .int .u32 m4, .int .i64 y5, .int .i64 y6, .int .i64 y7, .int .u32 m8, .int .i64 y9] 27 (0, 0)) ∧ v4.heap[N]? = some (.cells #[.int .i64 0, .int .i64 0, .int .i64 0, .int .i64 0, .int .u32 0, .int .i64 0, .int .i64 0, .int .i64 0, .int .u32 0, .int .i64 0] 27 (0, 0)) ∧ Below w1.heap.size w1 v4 ∧ Seg v4 p5 en) := by rw [hv4]; exact ⟨K3.out.1, K3.out.2.1, K3.out.2.2.drew, sg5.drew⟩
          clear hv4 K3 sg5
          by_cases hm : (dr25 zs).may
          rotate_left
          · have hck : (ck != 0) = true := by have := mt HCK.out.1 hm; simpa using this
            have hr : R = (zr25, 250) := by rw [HD.out, if_neg (fun h => hm h.1)]
            refine plain_region16 (fun _ => True) 10 (by kernel_rfl) trivial (fun hHeld0 => ?_)
            rw [HV4.out]
            have hHeld : (fun _ : World => True) v4 := trivial
            clear hHeld0 HV4
            refine wpAnyK_take (i := 0) (v := .int .i64 ck) rfl (by kernel_rfl) (by kernel_rfl) (by kernel_rfl) (by kernel_rfl) (fun _ _ _ h => h) (Or.inl ⟨by rfl, fun w hSw => by go_simp⟩) hHeld ?_
            simp only [List.getElem_toArray, List.getElem_cons_zero, Act.put, List.setIfInBounds_toArray, List.set_cons_zero, List.set_cons_succ]
            refine wpAnyK_take (i := 1) (v := .bool true) rfl (by kernel_rfl) (by kernel_rfl) (by kernel_rfl) (by kernel_rfl) (fun _ _ _ h => h) (Or.inl ⟨by rfl, fun w hSw => by go_simp⟩) hHeld ?_
            simp only [List.getElem_toArray, List.getElem_cons_zero, List.getElem_cons_succ, Act.put, List.setIfInBounds_toArray, List.set_cons_zero, List.set_cons_succ]
            refine wpAnyK_take (i := 2) (v := .bool true) rfl (by kernel_rfl) (by kernel_rfl) (by kernel_rfl) (by kernel_rfl) (fun _ _ _ h => h) (Or.inl ⟨by rfl, fun w hSw => by go_simp⟩) hHeld ?_
            simp only [List.getElem_toArray, List.getElem_cons_zero, List.getElem_cons_succ, Act.put, List.setIfInBounds_toArray, List.set_cons_zero, List.set_cons_succ]
            refine wpAnyK_take (i := 3) (v := undef) rfl (by kernel_rfl) (by kernel_rfl) (by kernel_rfl) (by kernel_rfl) (fun _ _ _ h => h) (Or.inr ⟨by rfl, rfl⟩) hHeld ?_
            simp only [List.getElem_toArray, List.getElem_cons_zero, List.getElem_cons_succ, Act.put, List.setIfInBounds_toArray, List.set_cons_zero, List.set_cons_succ]
            refine wpAnyK_take (i := 4) (v := undef) rfl (by kernel_rfl) (by kernel_rfl) (by kernel_rfl) (by kernel_rfl) (fun _ _ _ h => h) (Or.inr ⟨by rfl, rfl⟩) hHeld ?_
            simp only [List.getElem_toArray, List.getElem_cons_zero, List.getElem_cons_succ, Act.put, List.setIfInBounds_toArray, List.set_cons_zero, List.set_cons_succ]
            refine wpAnyK_take (i := 5) (v := undef) rfl (by kernel_rfl) (by kernel_rfl) (by kernel_rfl) (by kernel_rfl) (fun _ _ _ h => h) (Or.inr ⟨by rfl, rfl⟩) hHeld ?_
            simp only [List.getElem_toArray, List.getElem_cons_zero, List.getElem_cons_succ, Act.put, List.setIfInBounds_toArray, List.set_cons_zero, List.set_cons_succ]
            refine wpAnyK_take (i := 6) (v := undef) rfl (by kernel_rfl) (by kernel_rfl) (by kernel_rfl) (by kernel_rfl) (fun _ _ _ h => h) (Or.inr ⟨by rfl, rfl⟩) hHeld ?_
            simp only [List.getElem_toArray, List.getElem_cons_zero, List.getElem_cons_succ, Act.put, List.setIfInBounds_toArray, List.set_cons_zero, List.set_cons_succ]
            refine wpAnyK_take (i := 7) (v := undef) rfl (by kernel_rfl) (by kernel_rfl) (by kernel_rfl) (by kernel_rfl) (fun _ _ _ h => h) (Or.inr ⟨by rfl, rfl⟩) hHeld ?_
            simp only [List.getElem_toArray, List.getElem_cons_zero, List.getElem_cons_succ, Act.put, List.setIfInBounds_toArray, List.set_cons_zero, List.set_cons_succ]
            refine wpAnyK_take (i := 8) (v := undef) rfl (by kernel_rfl) (by kernel_rfl) (by kernel_rfl) (by kernel_rfl) (fun _ _ _ h => h) (Or.inr ⟨by rfl, rfl⟩) hHeld ?_
            simp only [List.getElem_toArray, List.getElem_cons_zero, List.getElem_cons_succ, Act.put, List.setIfInBounds_toArray, List.set_cons_zero, List.set_cons_succ]
            refine wpAnyK_take (i := 9) (v := .bool true) rfl (by kernel_rfl) (by kernel_rfl) (by kernel_rfl) (by kernel_rfl) (fun _ _ _ h => h) (Or.inl ⟨by rfl, fun w hSw => by go_simp⟩) hHeld ?_
            simp only [List.getElem_toArray, List.getElem_cons_zero, List.getElem_cons_succ, Act.put, List.setIfInBounds_toArray, List.set_cons_zero, List.set_cons_succ]
            refine wpAnyK_done (by kernel_rfl) ?_ _
            go_wp2_with (refine wpList_store_row rfl 27 (.tmp 2) (.tmp 76) rfl N #[.int .i64 0, .int .i64 0, .int .i64 0, .int .i64 0, .int .u32 0, .int .i64 0, .int .i64 0, .int .i64 0, .int .u32 0, .int .i64 0] rfl rfl _ _ K4.out.2.1 info_rc25d rfl (row_rc25 zr25) ?_)
            refine bodyPost_ret (v := .tuple #[.agg #[.int .i64 0, .int .i64 0, .int .i64 0, .int .i64 0, .int .u32 0, .int .i64 0, .int .i64 0, .int .i64 0, .int .u32 0, .int .i64 0], .int .i64 250]) (results_ct25 (fn := Tryd.f19) (p := 2) (u := 3) (ty := 27) rfl _ _ N _ #[.int .i64 0, .int .i64 0, .int .i64 0, .int .i64 0, .int .u32 0, .int .i64 0, .int .i64 0, .int .i64 0, .int .u32 0, .int .i64 0] _ _ rfl (set_row25 K4.out.2.1) Tryd.underlying27 rfl info_rc25d) rfl ?_
            exact ⟨by first | rfl | (rw [hr]; rfl), by have := below_row25 (w := w) (by rw [← HN.out]; exact HBN.out _ K4.out.2.2.1) (Nat.le_of_eq HN.out.symm) #[.int .i64 0, .int .i64 0, .int .i64 0, .int .i64 0, .int .u32 0, .int .i64 0, .int .i64 0, .int .i64 0, .int .u32 0, .int .i64 0]; rw [← HN.out] at this ⊢; exact this⟩
          have hck : (ck != 0) = false := by rw [HCK.out.2 hm]; rfl
          by_cases he : en = zs.take 43
          · have hse : ((strOfNums en).toList == (strOfNums (zs.take 43)).toList) = true := by rw [str_injS HEB.out HT43.out.1]; simp [he]
            have S43 : (43 : Int) ≤ (cp : Int) := by have := HSG.out; omega
            refine plain_region16 (fun V => Seg V p5 en ∧ Seg V (some ⟨g, o, none⟩) (zs.take 43)) 10 (by kernel_rfl) (by rw [HV4.out]; exact ⟨K4.out.2.2.2, (HSG.out.1.old K4.out.2.2.1).take 43⟩) (fun hHeld => ?_)
            rw [HV4.out] at hHeld ⊢
            clear HV4
            refine wpAnyK_take (i := 0) (v := .int .i64 ck) rfl (by kernel_rfl) (by kernel_rfl) (by kernel_rfl) (by kernel_rfl) (fun _ _ _ h => h) (Or.inl ⟨by rfl, fun w hSw => by go_simp⟩) hHeld ?_
            simp only [List.getElem_toArray, List.getElem_cons_zero, Act.put, List.setIfInBounds_toArray, List.set_cons_zero, List.set_cons_succ]
            refine wpAnyK_take (i := 1) (v := .bool false) rfl (by kernel_rfl) (by kernel_rfl) (by kernel_rfl) (by kernel_rfl) (fun _ _ _ h => h) (Or.inl ⟨by rfl, fun w hSw => by go_simp⟩) hHeld ?_
            simp only [List.getElem_toArray, List.getElem_cons_zero, List.getElem_cons_succ, Act.put, List.setIfInBounds_toArray, List.set_cons_zero, List.set_cons_succ]
            refine wpAnyK_take (i := 2) (v := .bool false) rfl (by kernel_rfl) (by kernel_rfl) (by kernel_rfl) (by kernel_rfl) (fun _ _ _ h => h) (Or.inl ⟨by rfl, fun w hSw => by go_simp⟩) hHeld ?_
            simp only [List.getElem_toArray, List.getElem_cons_zero, List.getElem_cons_succ, Act.put, List.setIfInBounds_toArray, List.set_cons_zero, List.set_cons_succ]
            refine wpAnyK_take (i := 3) (v := .slice p5 en.length c5) rfl (by kernel_rfl) (by kernel_rfl) (by kernel_rfl) (by kernel_rfl) (fun _ _ _ h => h) (Or.inl ⟨by rfl, fun w hSw => by go_simp⟩) hHeld ?_
            simp only [List.getElem_toArray, List.getElem_cons_zero, List.getElem_cons_succ, Act.put, List.setIfInBounds_toArray, List.set_cons_zero, List.set_cons_succ]
            refine wpAnyK_take (i := 4) (v := .string (strOfNums en)) rfl (by kernel_rfl) (by kernel_rfl) (by kernel_rfl) (by kernel_rfl) (fun _ _ _ h => h) (yields_conv25 (by rfl) 28 9 (.tmp 69) rfl rfl (fun W hW => run_conv_segS c5 hW.1 28 5 9 Tryd.underlying28 Tryd.underlying5 Tryd.underlying9)) hHeld ?_
            simp only [List.getElem_toArray, List.getElem_cons_zero, List.getElem_cons_succ, Act.put, List.setIfInBounds_toArray, List.set_cons_zero, List.set_cons_succ]
            refine wpAnyK_take (i := 5) (v := .slice (some ⟨g, o, none⟩) n cp) rfl (by kernel_rfl) (by kernel_rfl) (by kernel_rfl) (by kernel_rfl) (fun _ _ _ h => h) (Or.inl ⟨by rfl, fun w hSw => by go_simp⟩) hHeld ?_
            simp only [List.getElem_toArray, List.getElem_cons_zero, List.getElem_cons_succ, Act.put, List.setIfInBounds_toArray, List.set_cons_zero, List.set_cons_succ]
            refine wpAnyK_take (i := 6) (v := .slice (some ⟨g, o, none⟩) 43 cp) rfl (by kernel_rfl) (by kernel_rfl) (by kernel_rfl) (by kernel_rfl) (fun _ _ _ h => h) (Or.inl ⟨by rfl, fun w hSw => by go_simp⟩) hHeld ?_
            simp only [List.getElem_toArray, List.getElem_cons_zero, List.getElem_cons_succ, Act.put, List.setIfInBounds_toArray, List.set_cons_zero, List.set_cons_succ]
            refine wpAnyK_take (i := 7) (v := .string (strOfNums (zs.take 43))) rfl (by kernel_rfl) (by kernel_rfl) (by kernel_rfl) (by kernel_rfl) (fun _ _ _ h => h) (yields_conv25 (by rfl) 28 9 (.tmp 72) rfl rfl (fun W hW => by have := run_conv_segS (P := Tryd.prog) cp hW.2 28 5 9 Tryd.underlying28 Tryd.underlying5 Tryd.underlying9; rw [HT43.out.2] at this; exact this)) hHeld ?_
            simp only [List.getElem_toArray, List.getElem_cons_zero, List.getElem_cons_succ, Act.put, List.setIfInBounds_toArray, List.set_cons_zero, List.set_cons_succ]
            refine wpAnyK_take (i := 8) (v := .bool false) rfl (by kernel_rfl) (by kernel_rfl) (by kernel_rfl) (by kernel_rfl) (fun _ _ _ h => h) (Or.inl ⟨by rfl, fun w hSw => by go_simp⟩) hHeld ?_
            simp only [List.getElem_toArray, List.getElem_cons_zero, List.getElem_cons_succ, Act.put, List.setIfInBounds_toArray, List.set_cons_zero, List.set_cons_succ]
            refine wpAnyK_take (i := 9) (v := .bool false) rfl (by kernel_rfl) (by kernel_rfl) (by kernel_rfl) (by kernel_rfl) (fun _ _ _ h => h) (Or.inl ⟨by rfl, fun w hSw => by go_simp⟩) hHeld ?_
            simp only [List.getElem_toArray, List.getElem_cons_zero, List.getElem_cons_succ, Act.put, List.setIfInBounds_toArray, List.set_cons_zero, List.set_cons_succ]
            refine wpAnyK_done (by kernel_rfl) ?_ _
            have hr : R = (dr25 zs, 0) := by rw [HD.out, if_pos ⟨hm, he⟩]
            go_wp2_with (first | refine wpList_load_row rfl 27 (.tmp 7) rfl rb rfl _ #[.int .i64 y0, .int .i64 y1, .int .i64 y2, .int .i64 y3, .int .u32 m4, .int .i64 y5, .int .i64 y6, .int .i64 y7, .int .u32 m8, .int .i64 y9] _ _ K4.out.1 Tryd.underlying27 rfl info_rc25d ?_ | refine wpList_store_row rfl 27 (.tmp 2) (.tmp 77) rfl N #[.int .i64 y0, .int .i64 y1, .int .i64 y2, .int .i64 y3, .int .u32 m4, .int .i64 y5, .int .i64 y6, .int .i64 y7, .int .u32 m8, .int .i64 y9] rfl rfl _ _ K4.out.2.1 info_rc25d rfl HRW.out ?_)
            refine bodyPost_ret (v := .tuple #[.agg #[.int .i64 y0, .int .i64 y1, .int .i64 y2, .int .i64 y3, .int .u32 m4, .int .i64 y5, .int .i64 y6, .int .i64 y7, .int .u32 m8, .int .i64 y9], .int .i64 0]) (results_ct25 (fn := Tryd.f19) (p := 2) (u := 3) (ty := 27) rfl _ _ N _ #[.int .i64 y0, .int .i64 y1, .int .i64 y2, .int .i64 y3, .int .u32 m4, .int .i64 y5, .int .i64 y6, .int .i64 y7, .int .u32 m8, .int .i64 y9] _ _ rfl (set_row25 K4.out.2.1) Tryd.underlying27 rfl info_rc25d) rfl ?_
            exact ⟨by (try rw [hr]); show _ = Ending.returned (.tuple #[.agg (dr25 zs).cs, .int .i64 0]); rw [HDR.out], by have := below_row25 (w := w) (by rw [← HN.out]; exact HBN.out _ K4.out.2.2.1) (Nat.le_of_eq HN.out.symm) #[.int .i64 y0, .int .i64 y1, .int .i64 y2, .int .i64 y3, .int .u32 m4, .int .i64 y5, .int .i64 y6, .int .i64 y7, .int .u32 m8, .int .i64 y9]; rw [← HN.out] at this ⊢; exact this⟩
          · have hse : ((strOfNums en).toList == (strOfNums (zs.take 43)).toList) = false := by rw [str_injS HEB.out HT43.out.1]; simp [he]
            have S43 : (43 : Int) ≤ (cp : Int) := by have := HSG.out; omega
            refine plain_region16 (fun V => Seg V p5 en ∧ Seg V (some ⟨g, o, none⟩) (zs.take 43)) 10 (by kernel_rfl) (by rw [HV4.out]; exact ⟨K4.out.2.2.2, (HSG.out.1.old K4.out.2.2.1).take 43⟩) (fun hHeld => ?_)
            rw [HV4.out] at hHeld ⊢
            clear HV4
            refine wpAnyK_take (i := 0) (v := .int .i64 ck) rfl (by kernel_rfl) (by kernel_rfl) (by kernel_rfl) (by kernel_rfl) (fun _ _ _ h => h) (Or.inl ⟨by rfl, fun w hSw => by go_simp⟩) hHeld ?_
            simp only [List.getElem_toArray, List.getElem_cons_zero, Act.put, List.setIfInBounds_toArray, List.set_cons_zero, List.set_cons_succ]
            refine wpAnyK_take (i := 1) (v := .bool false) rfl (by kernel_rfl) (by kernel_rfl) (by kernel_rfl) (by kernel_rfl) (fun _ _ _ h => h) (Or.inl ⟨by rfl, fun w hSw => by go_simp⟩) hHeld ?_
            simp only [List.getElem_toArray, List.getElem_cons_zero, List.getElem_cons_succ, Act.put, List.setIfInBounds_toArray, List.set_cons_zero, List.set_cons_succ]
            refine wpAnyK_take (i := 2) (v := .bool false) rfl (by kernel_rfl) (by kernel_rfl) (by kernel_rfl) (by kernel_rfl) (fun _ _ _ h => h) (Or.inl ⟨by rfl, fun w hSw => by go_simp⟩) hHeld ?_
            simp only [List.getElem_toArray, List.getElem_cons_zero, List.getElem_cons_succ, Act.put, List.setIfInBounds_toArray, List.set_cons_zero, List.set_cons_succ]
            refine wpAnyK_take (i := 3) (v := .slice p5 en.length c5) rfl (by kernel_rfl) (by kernel_rfl) (by kernel_rfl) (by kernel_rfl) (fun _ _ _ h => h) (Or.inl ⟨by rfl, fun w hSw => by go_simp⟩) hHeld ?_
            simp only [List.getElem_toArray, List.getElem_cons_zero, List.getElem_cons_succ, Act.put, List.setIfInBounds_toArray, List.set_cons_zero, List.set_cons_succ]
            refine wpAnyK_take (i := 4) (v := .string (strOfNums en)) rfl (by kernel_rfl) (by kernel_rfl) (by kernel_rfl) (by kernel_rfl) (fun _ _ _ h => h) (yields_conv25 (by rfl) 28 9 (.tmp 69) rfl rfl (fun W hW => run_conv_segS c5 hW.1 28 5 9 Tryd.underlying28 Tryd.underlying5 Tryd.underlying9)) hHeld ?_
            simp only [List.getElem_toArray, List.getElem_cons_zero, List.getElem_cons_succ, Act.put, List.setIfInBounds_toArray, List.set_cons_zero, List.set_cons_succ]
            refine wpAnyK_take (i := 5) (v := .slice (some ⟨g, o, none⟩) n cp) rfl (by kernel_rfl) (by kernel_rfl) (by kernel_rfl) (by kernel_rfl) (fun _ _ _ h => h) (Or.inl ⟨by rfl, fun w hSw => by go_simp⟩) hHeld ?_
            simp only [List.getElem_toArray, List.getElem_cons_zero, List.getElem_cons_succ, Act.put, List.setIfInBounds_toArray, List.set_cons_zero, List.set_cons_succ]
            refine wpAnyK_take (i := 6) (v := .slice (some ⟨g, o, none⟩) 43 cp) rfl (by kernel_rfl) (by kernel_rfl) (by kernel_rfl) (by kernel_rfl) (fun _ _ _ h => h) (Or.inl ⟨by rfl, fun w hSw => by go_simp⟩) hHeld ?_
            simp only [List.getElem_toArray, List.getElem_cons_zero, List.getElem_cons_succ, Act.put, List.setIfInBounds_toArray, List.set_cons_zero, List.set_cons_succ]
            refine wpAnyK_take (i := 7) (v := .string (strOfNums (zs.take 43))) rfl (by kernel_rfl) (by kernel_rfl) (by kernel_rfl) (by kernel_rfl) (fun _ _ _ h => h) (yields_conv25 (by rfl) 28 9 (.tmp 72) rfl rfl (fun W hW => by have := run_conv_segS (P := Tryd.prog) cp hW.2 28 5 9 Tryd.underlying28 Tryd.underlying5 Tryd.underlying9; rw [HT43.out.2] at this; exact this)) hHeld ?_
            simp only [List.getElem_toArray, List.getElem_cons_zero, List.getElem_cons_succ, Act.put, List.setIfInBounds_toArray, List.set_cons_zero, List.set_cons_succ]
            refine wpAnyK_take (i := 8) (v := .bool true) rfl (by kernel_rfl) (by kernel_rfl) (by kernel_rfl) (by kernel_rfl) (fun _ _ _ h => h) (Or.inl ⟨by rfl, fun w hSw => by go_simp⟩) hHeld ?_
            simp only [List.getElem_toArray, List.getElem_cons_zero, List.getElem_cons_succ, Act.put, List.setIfInBounds_toArray, List.set_cons_zero, List.set_cons_succ]
            refine wpAnyK_take (i := 9) (v := .bool true) rfl (by kernel_rfl) (by kernel_rfl) (by kernel_rfl) (by kernel_rfl) (fun _ _ _ h => h) (Or.inl ⟨by rfl, fun w hSw => by go_simp⟩) hHeld ?_
            simp only [List.getElem_toArray, List.getElem_cons_zero, List.getElem_cons_succ, Act.put, List.setIfInBounds_toArray, List.set_cons_zero, List.set_cons_succ]
            refine wpAnyK_done (by kernel_rfl) ?_ _
            have hr : R = (zr25, 250) := by rw [HD.out, if_neg (fun h => he h.2)]
            go_wp2_with (refine wpList_store_row rfl 27 (.tmp 2) (.tmp 76) rfl N #[.int .i64 0, .int .i64 0, .int .i64 0, .int .i64 0, .int .u32 0, .int .i64 0, .int .i64 0, .int .i64 0, .int .u32 0, .int .i64 0] rfl rfl _ _ K4.out.2.1 info_rc25d rfl (row_rc25 zr25) ?_)
            refine bodyPost_ret (v := .tuple #[.agg #[.int .i64 0, .int .i64 0, .int .i64 0, .int .i64 0, .int .u32 0, .int .i64 0, .int .i64 0, .int .i64 0, .int .u32 0, .int .i64 0], .int .i64 250]) (results_ct25 (fn := Tryd.f19) (p := 2) (u := 3) (ty := 27) rfl _ _ N _ #[.int .i64 0, .int .i64 0, .int .i64 0, .int .i64 0, .int .u32 0, .int .i64 0, .int .i64 0, .int .i64 0, .int .u32 0, .int .i64 0] _ _ rfl (set_row25 K4.out.2.1) Tryd.underlying27 rfl info_rc25d) rfl ?_
            exact ⟨by first | rfl | (rw [hr]; rfl), by have := below_row25 (w := w) (by rw [← HN.out]; exact HBN.out _ K4.out.2.2.1) (Nat.le_of_eq HN.out.symm) #[.int .i64 0, .int .i64 0, .int .i64 0, .int .i64 0, .int .u32 0, .int .i64 0, .int .i64 0, .int .i64 0, .int .u32 0, .int .i64 0]; rw [← HN.out] at this ⊢; exact this⟩
      · (try simp only [List.getElem_toArray, List.getElem_cons_zero, List.getElem_cons_succ, Act.put, List.setIfInBounds_toArray, List.set_cons_zero, List.set_cons_succ])
        go_simp
        obtain ⟨v1, hv1⟩ : ∃ v, v = v0.alloc (.cells #[.int .i64 0, .int .i64 0, .int .i64 0, .int .i64 0, .int .u32 0, .int .i64 0, .int .i64 0, .int .i64 0, .int .u32 0, .int .i64 0] 27) := ⟨_, rfl⟩
        obtain ⟨rb, hrb⟩ : ∃ b, b = v0.heap.size := ⟨_, rfl⟩
        have b1 : Below v0.heap.size v0 v1 := by rw [hv1]; exact (Below.refl _ _).alloc (Nat.le_refl _) _
        have q1 : v1.heap[rb]? = some (.cells #[.int .i64 0, .int .i64 0, .int .i64 0, .int .i64 0, .int .u32 0, .int .i64 0, .int .i64 0, .int .i64 0, .int .u32 0, .int .i64 0] 27 (0, 0)) := by rw [hv1, hrb]; exact heap_alloc_new _ _
        have hnr : N < rb := by rw [hrb]; exact (Array.getElem?_eq_some_iff.1 K0.out.2.2).1
        have hwr : w1.heap.size ≤ rb := by rw [hrb]; exact K0.out.1.size
        rw [← hv1, ← hrb]
        have K1 : Hid (Below w1.heap.size w1 v1 ∧ v1.heap[lb]? = some (.cells #[.int .i64 y1, .int .i64 y2, .int .i64 y3, .int .u32 m4, .int .i64 y5, .int .i64 y6, .int .i64 y7, .int .u32 m8] 103 (0, 0)) ∧ v1.heap[N]? = some (.cells #[.int .i64 0, .int .i64 0, .int .i64 0, .int .i64 0, .int .u32 0, .int .i64 0, .int .i64 0, .int .i64 0, .int .u32 0, .int .i64 0] 27 (0, 0)) ∧ v1.heap[rb]? = some (.cells #[.int .i64 0, .int .i64 0, .int .i64 0, .int .i64 0, .int .u32 0, .int .i64 0, .int .i64 0, .int .i64 0, .int .u32 0, .int .i64 0] 27 (0, 0)) ∧ N < rb ∧ w1.heap.size ≤ rb) := ⟨K0.out.1.trans (b1.mono K0.out.1.size), (b1.block _ (Array.getElem?_eq_some_iff.1 K0.out.2.1).1).trans K0.out.2.1, (b1.block _ (Array.getElem?_eq_some_iff.1 K0.out.2.2).1).trans K0.out.2.2, q1, hnr, hwr⟩
        clear hv1 hrb b1 q1 hnr hwr
        refine hK.out _ _ (fun _ => K1.out.2.1) (fun hHeld0 => ?_)
        have hHeld := hHeld0 (by decide)
        clear hHeld0 hK K
        (try simp only [List.getElem_toArray, List.getElem_cons_zero, List.getElem_cons_succ, Act.put, List.setIfInBounds_toArray, List.set_cons_zero, List.set_cons_succ])
        refine wpAnyK_one (i := 1) (by kernel_rfl) rfl (fun K hK => ?_)
        (try simp only [List.getElem_toArray, List.getElem_cons_zero, List.getElem_cons_succ, Act.put, List.setIfInBounds_toArray, List.set_cons_zero, List.set_cons_succ])
        go_simp
        refine (HG0.out v1 K1.out.1).mono ?_
        rintro e1 u1 ⟨rfl, hu⟩
        subst u1
        refine hK.out _ _ (fun _ => K1.out.2.1) (fun hHeld0 => ?_)
        have hHeld := hHeld0 (by decide)
        clear hHeld0 hK K
        (try simp only [List.getElem_toArray, List.getElem_cons_zero, List.getElem_cons_succ, Act.put, List.setIfInBounds_toArray, List.set_cons_zero, List.set_cons_succ])
        refine wpAnyK_one (i := 7) (by kernel_rfl) rfl (fun K hK => ?_)
        (try simp only [List.getElem_toArray, List.getElem_cons_zero, List.getElem_cons_succ, Act.put, List.setIfInBounds_toArray, List.set_cons_zero, List.set_cons_succ])
        go_simp
        refine (HG9.out v1 K1.out.1).mono ?_
        rintro e7 u7 ⟨rfl, hu⟩
        subst u7
        refine hK.out _ _ (fun _ => K1.out.2.1) (fun hHeld0 => ?_)
        have hHeld := hHeld0 (by decide)
        clear hHeld0 hK K
        (try simp only [List.getElem_toArray, List.getElem_cons_zero, List.getElem_cons_succ, Act.put, List.setIfInBounds_toArray, List.set_cons_zero, List.set_cons_succ])
        refine wpAnyK_take (i := 8) (v := .agg #[.int .i64 y0, .int .i64 y1, .int .i64 y2, .int .i64 y3, .int .u32 m4, .int .i64 y5, .int .i64 y6, .int .i64 y7, .int .u32 m8, .int .i64 y9]) rfl (by kernel_rfl) (by kernel_rfl) (by kernel_rfl) (by kernel_rfl) (fun _ _ _ h => h) (Or.inl ⟨by rfl, fun w hSw => by go_simp⟩) hHeld ?_
        simp only [List.getElem_toArray, List.getElem_cons_zero, List.getElem_cons_succ, Act.put, List.setIfInBounds_toArray, List.set_cons_zero, List.set_cons_succ]
        refine wpAnyK_one (i := 10) (by kernel_rfl) rfl (fun K hK => ?_)
        simp only [List.getElem_toArray, List.getElem_cons_zero, List.getElem_cons_succ, Act.put, List.setIfInBounds_toArray, List.set_cons_zero, List.set_cons_succ]
        rw [if_pos (by rfl)]
        refine wp_store_row 27 (.tmp 7) (.tmp 60) rfl rb #[.int .i64 y0, .int .i64 y1, .int .i64 y2, .int .i64 y3, .int .u32 m4, .int .i64 y5, .int .i64 y6, .int .i64 y7, .int .u32 m8, .int .i64 y9] rfl rfl _ _ K1.out.2.2.2.1 info_rc25d rfl HRW.out ?_
        refine hK.out _ _ (fun h => absurd rfl h) (fun _ => ?_)
        clear hK K hHeld
        refine wpAnyK_done (by kernel_rfl) ?_ _
        have K2 : Hid ((v1.setRow rb #[.int .i64 y0, .int .i64 y1, .int .i64 y2, .int .i64 y3, .int .u32 m4, .int .i64 y5, .int .i64 y6, .int .i64 y7, .int .u32 m8, .int .i64 y9]).heap[rb]? = some (.cells #[.int .i64 y0, .int .i64 y1, .int .i64 y2, .int .i64 y3, .int .u32 m4, .int .i64 y5, .int .i64 y6, .int .i64 y7, .int .u32 m8, .int .i64 y9] 27 (0, 0)) ∧ (v1.setRow rb #[.int .i64 y0, .int .i64 y1, .int .i64 y2, .int .i64 y3, .int .u32 m4, .int .i64 y5, .int .i64 y6, .int .i64 y7, .int .u32 m8, .int .i64 y9]).heap[N]? = some (.cells #[.int .i64 0, .int .i64 0, .int .i64 0, .int .i64 0, .int .u32 0, .int .i64 0, .int .i64 0, .int .i64 0, .int .u32 0, .int .i64 0] 27 (0, 0)) ∧ Below w1.heap.size w1 (v1.setRow rb #[.int .i64 y0, .int .i64 y1, .int .i64 y2, .int .i64 y3, .int .u32 m4, .int .i64 y5, .int .i64 y6, .int .i64 y7, .int .u32 m8, .int .i64 y9])) := ⟨set_row25 K1.out.2.2.2.1, (old_row25 _ (by have := K1.out.2.2.2.2.1; omega)).trans K1.out.2.2.1, below_row25 K1.out.1 K1.out.2.2.2.2.2 _⟩
        obtain ⟨v2, hv2⟩ : ∃ v, v = v1.setRow rb #[.int .i64 y0, .int .i64 y1, .int .i64 y2, .int .i64 y3, .int .u32 m4, .int .i64 y5, .int .i64 y6, .int .i64 y7, .int .u32 m8, .int .i64 y9] := ⟨_, rfl⟩
        rw [← hv2] at K2 ⊢
        clear hv2 K1 K0
        go_wp2_with (refine wpList_load_row rfl 27 (.tmp 7) rfl rb rfl _ #[.int .i64 y0, .int .i64 y1, .int .i64 y2, .int .i64 y3, .int .u32 m4, .int .i64 y5, .int .i64 y6, .int .i64 y7, .int .u32 m8, .int .i64 y9] _ _ K2.out.1 Tryd.underlying27 rfl info_rc25d ?_)
        refine (HEN.out v2).mono ?_
        rintro e5 v3 ⟨p5, c5, rfl, o5, b5⟩
        have K3 : Hid (v3.heap[rb]? = some (.cells #[.int .i64 y0, .int .i64 y1, .int .i64 y2, .int .i64 y3, .int .u32 m4, .int .i64 y5, .int .i64 y6, .int .i64 y7, .int .u32 m8, .int .i64 y9] 27 (0, 0)) ∧ v3.heap[N]? = some (.cells #[.int .i64 0, .int .i64 0, .int .i64 0, .int .i64 0, .int .u32 0, .int .i64 0, .int .i64 0, .int .i64 0, .int .u32 0, .int .i64 0] 27 (0, 0)) ∧ Below w1.heap.size w1 v3) := ⟨(b5.block _ (Array.getElem?_eq_some_iff.1 K2.out.1).1).trans K2.out.1, (b5.block _ (Array.getElem?_eq_some_iff.1 K2.out.2.1).1).trans K2.out.2.1, K2.out.2.2.trans (b5.mono K2.out.2.2.size)⟩
        obtain ⟨-, a5, cc5, hv5, sg5, -⟩ := own_seg (M := 255) o5 (by decide) HEB.out
        injection hv5 with r1 r2 r3
        subst r1
        clear o5 b5 r2 r3 K2
        go_wp2_with fail
        obtain ⟨v4, hv4⟩ : ∃ v, v = v3.drew := ⟨_, rfl⟩
        have HV4 : Hid (v3.drew = v4) := hv4.symm
        have K4 : Hid (v4.heap[rb]? = some (.cells #[.int .i64 y0, .int .i64 y1, .int .i64 y2, .int .i64 y3, .int .u32 m4, .int .i64 y5, .int .i64 y6, .int .i64 y7, .int .u32 m8, .int .i64 y9] 27 (0, 0)) ∧ v4.heap[N]? = some (.cells #[.int .i64 0, .int .i64 0, .int .i64 0, .int .i64 0, .int .u32 0, .int .i64 0, .int .i64 0, .int .i64 0, .int .u32 0, .int .i64 0] 27 (0, 0)) ∧ Below w1.heap.size w1 v4 ∧ Seg v4 p5 en) := by rw [hv4]; exact ⟨K3.out.1, K3.out.2.1, K3.out.2.2.drew, sg5.drew⟩
        clear hv4 K3 sg5
        by_cases hm : (dr25 zs).may
        rotate_left
        · have hck : (ck != 0) = true := by have := mt HCK.out.1 hm; simpa using this
          have hr : R = (zr25, 250) := by rw [HD.out, if_neg (fun h => hm h.1)]
          refine plain_region16 (fun _ => True) 10 (by kernel_rfl) trivial (fun hHeld0 => ?_)
          rw [HV4.out]
          have hHeld : (fun _ : World => True) v4 := trivial
          clear hHeld0 HV4
          refine wpAnyK_take (i := 0) (v := .int .i64 ck) rfl (by kernel_rfl) (by kernel_rfl) (by kernel_rfl) (by kernel_rfl) (fun _ _ _ h => h) (Or.inl ⟨by rfl, fun w hSw => by go_simp⟩) hHeld ?_
          simp only [List.getElem_toArray, List.getElem_cons_zero, Act.put, List.setIfInBounds_toArray, List.set_cons_zero, List.set_cons_succ]
          refine wpAnyK_take (i := 1) (v := .bool true) rfl (by kernel_rfl) (by kernel_rfl) (by kernel_rfl) (by kernel_rfl) (fun _ _ _ h => h) (Or.inl ⟨by rfl, fun w hSw => by go_simp⟩) hHeld ?_
          simp only [List.getElem_toArray, List.getElem_cons_zero, List.getElem_cons_succ, Act.put, List.setIfInBounds_toArray, List.set_cons_zero, List.set_cons_succ]
          refine wpAnyK_take (i := 2) (v := .bool true) rfl (by kernel_rfl) (by kernel_rfl) (by kernel_rfl) (by kernel_rfl) (fun _ _ _ h => h) (Or.inl ⟨by rfl, fun w hSw => by go_simp⟩) hHeld ?_
          simp only [List.getElem_toArray, List.getElem_cons_zero, List.getElem_cons_succ, Act.put, List.setIfInBounds_toArray, List.set_cons_zero, List.set_cons_succ]
          refine wpAnyK_take (i := 3) (v := undef) rfl (by kernel_rfl) (by kernel_rfl) (by kernel_rfl) (by kernel_rfl) (fun _ _ _ h => h) (Or.inr ⟨by rfl, rfl⟩) hHeld ?_
          simp only [List.getElem_toArray, List.getElem_cons_zero, List.getElem_cons_succ, Act.put, List.setIfInBounds_toArray, List.set_cons_zero, List.set_cons_succ]
          refine wpAnyK_take (i := 4) (v := undef) rfl (by kernel_rfl) (by kernel_rfl) (by kernel_rfl) (by kernel_rfl) (fun _ _ _ h => h) (Or.inr ⟨by rfl, rfl⟩) hHeld ?_
          simp only [List.getElem_toArray, List.getElem_cons_zero, List.getElem_cons_succ, Act.put, List.setIfInBounds_toArray, List.set_cons_zero, List.set_cons_succ]
          refine wpAnyK_take (i := 5) (v := undef) rfl (by kernel_rfl) (by kernel_rfl) (by kernel_rfl) (by kernel_rfl) (fun _ _ _ h => h) (Or.inr ⟨by rfl, rfl⟩) hHeld ?_
          simp only [List.getElem_toArray, List.getElem_cons_zero, List.getElem_cons_succ, Act.put, List.setIfInBounds_toArray, List.set_cons_zero, List.set_cons_succ]
          refine wpAnyK_take (i := 6) (v := undef) rfl (by kernel_rfl) (by kernel_rfl) (by kernel_rfl) (by kernel_rfl) (fun _ _ _ h => h) (Or.inr ⟨by rfl, rfl⟩) hHeld ?_
          simp only [List.getElem_toArray, List.getElem_cons_zero, List.getElem_cons_succ, Act.put, List.setIfInBounds_toArray, List.set_cons_zero, List.set_cons_succ]
          refine wpAnyK_take (i := 7) (v := undef) rfl (by kernel_rfl) (by kernel_rfl) (by kernel_rfl) (by kernel_rfl) (fun _ _ _ h => h) (Or.inr ⟨by rfl, rfl⟩) hHeld ?_
          simp only [List.getElem_toArray, List.getElem_cons_zero, List.getElem_cons_succ, Act.put, List.setIfInBounds_toArray, List.set_cons_zero, List.set_cons_succ]
          refine wpAnyK_take (i := 8) (v := undef) rfl (by kernel_rfl) (by kernel_rfl) (by kernel_rfl) (by kernel_rfl) (fun _ _ _ h => h) (Or.inr ⟨by rfl, rfl⟩) hHeld ?_
          simp only [List.getElem_toArray, List.getElem_cons_zero, List.getElem_cons_succ, Act.put, List.setIfInBounds_toArray, List.set_cons_zero, List.set_cons_succ]
          refine wpAnyK_take (i := 9) (v := .bool true) rfl (by kernel_rfl) (by kernel_rfl) (by kernel_rfl) (by kernel_rfl) (fun _ _ _ h => h) (Or.inl ⟨by rfl, fun w hSw => by go_simp⟩) hHeld ?_
          simp only [List.getElem_toArray, List.getElem_cons_zero, List.getElem_cons_succ, Act.put, List.setIfInBounds_toArray, List.set_cons_zero, List.set_cons_succ]
          refine wpAnyK_done (by kernel_rfl) ?_ _
          go_wp2_with (refine wpList_store_row rfl 27 (.tmp 2) (.tmp 76) rfl N #[.int .i64 0, .int .i64 0, .int .i64 0, .int .i64 0, .int .u32 0, .int .i64 0, .int .i64 0, .int .i64 0, .int .u32 0, .int .i64 0] rfl rfl _ _ K4.out.2.1 info_rc25d rfl (row_rc25 zr25) ?_)
          refine bodyPost_ret (v := .tuple #[.agg #[.int .i64 0, .int .i64 0, .int .i64 0, .int .i64 0, .int .u32 0, .int .i64 0, .int .i64 0, .int .i64 0, .int .u32 0, .int .i64 0], .int .i64 250]) (results_ct25 (fn := Tryd.f19) (p := 2) (u := 3) (ty := 27) rfl _ _ N _ #[.int .i64 0, .int .i64 0, .int .i64 0, .int .i64 0, .int .u32 0, .int .i64 0, .int .i64 0, .int .i64 0, .int .u32 0, .int .i64 0] _ _ rfl (set_row25 K4.out.2.1) Tryd.underlying27 rfl info_rc25d) rfl ?_
          exact ⟨by first | rfl | (rw [hr]; rfl), by have := below_row25 (w := w) (by rw [← HN.out]; exact HBN.out _ K4.out.2.2.1) (Nat.le_of_eq HN.out.symm) #[.int .i64 0, .int .i64 0, .int .i64 0, .int .i64 0, .int .u32 0, .int .i64 0, .int .i64 0, .int .i64 0, .int .u32 0, .int .i64 0]; rw [← HN.out] at this ⊢; exact this⟩
        have hck : (ck != 0) = false := by rw [HCK.out.2 hm]; rfl
        by_cases he : en = zs.take 43
        · have hse : ((strOfNums en).toList == (strOfNums (zs.take 43)).toList) = true := by rw [str_injS HEB.out HT43.out.1]; simp [he]
          have S43 : (43 : Int) ≤ (cp : Int) := by have := HSG.out; omega
          refine plain_region16 (fun V => Seg V p5 en ∧ Seg V (some ⟨g, o, none⟩) (zs.take 43)) 10 (by kernel_rfl) (by rw [HV4.out]; exact ⟨K4.out.2.2.2, (HSG.out.1.old K4.out.2.2.1).take 43⟩) (fun hHeld => ?_)
          rw [HV4.out] at hHeld ⊢
          clear HV4
          refine wpAnyK_take (i := 0) (v := .int .i64 ck) rfl (by kernel_rfl) (by kernel_rfl) (by kernel_rfl) (by kernel_rfl) (fun _ _ _ h => h) (Or.inl ⟨by rfl, fun w hSw => by go_simp⟩) hHeld ?_
          simp only [List.getElem_toArray, List.getElem_cons_zero, Act.put, List.setIfInBounds_toArray, List.set_cons_zero, List.set_cons_succ]
          refine wpAnyK_take (i := 1) (v := .bool false) rfl (by kernel_rfl) (by kernel_rfl) (by kernel_rfl) (by kernel_rfl) (fun _ _ _ h => h) (Or.inl ⟨by rfl, fun w hSw => by go_simp⟩) hHeld ?_
          simp only [List.getElem_toArray, List.getElem_cons_zero, List.getElem_cons_succ, Act.put, List.setIfInBounds_toArray, List.set_cons_zero, List.set_cons_succ]
          refine wpAnyK_take (i := 2) (v := .bool false) rfl (by kernel_rfl) (by kernel_rfl) (by kernel_rfl) (by kernel_rfl) (fun _ _ _ h => h) (Or.inl ⟨by rfl, fun w hSw => by go_simp⟩) hHeld ?_
          simp only [List.getElem_toArray, List.getElem_cons_zero, List.getElem_cons_succ, Act.put, List.setIfInBounds_toArray, List.set_cons_zero, List.set_cons_succ]
          refine wpAnyK_take (i := 3) (v := .slice p5 en.length c5) rfl (by kernel_rfl) (by kernel_rfl) (by kernel_rfl) (by kernel_rfl) (fun _ _ _ h => h) (Or.inl ⟨by rfl, fun w hSw => by go_simp⟩) hHeld ?_
          simp only [List.getElem_toArray, List.getElem_cons_zero, List.getElem_cons_succ, Act.put, List.setIfInBounds_toArray, List.set_cons_zero, List.set_cons_succ]
          refine wpAnyK_take (i := 4) (v := .string (strOfNums en)) rfl (by kernel_rfl) (by kernel_rfl) (by kernel_rfl) (by kernel_rfl) (fun _ _ _ h => h) (yields_conv25 (by rfl) 28 9 (.tmp 69) rfl rfl (fun W hW => run_conv_segS c5 hW.1 28 5 9 Tryd.underlying28 Tryd.underlying5 Tryd.underlying9)) hHeld ?_
          simp only [List.getElem_toArray, List.getElem_cons_zero, List.getElem_cons_succ, Act.put, List.setIfInBounds_toArray, List.set_cons_zero, List.set_cons_succ]
          refine wpAnyK_take (i := 5) (v := .slice (some ⟨g, o, none⟩) n cp) rfl (by kernel_rfl) (by kernel_rfl) (by kernel_rfl) (by kernel_rfl) (fun _ _ _ h => h) (Or.inl ⟨by rfl, fun w hSw => by go_simp⟩) hHeld ?_
          simp only [List.getElem_toArray, List.getElem_cons_zero, List.getElem_cons_succ, Act.put, List.setIfInBounds_toArray, List.set_cons_zero, List.set_cons_succ]
          refine wpAnyK_take (i := 6) (v := .slice (some ⟨g, o, none⟩) 43 cp) rfl (by kernel_rfl) (by kernel_rfl) (by kernel_rfl) (by kernel_rfl) (fun _ _ _ h => h) (Or.inl ⟨by rfl, fun w hSw => by go_simp⟩) hHeld ?_
          simp only [List.getElem_toArray, List.getElem_cons_zero, List.getElem_cons_succ, Act.put, List.setIfInBounds_toArray, List.set_cons_zero, List.set_cons_succ]
          refine wpAnyK_take (i := 7) (v := .string (strOfNums (zs.take 43))) rfl (by kernel_rfl) (by kernel_rfl) (by kernel_rfl) (by kernel_rfl) (fun _ _ _ h => h) (yields_conv25 (by rfl) 28 9 (.tmp 72) rfl rfl (fun W hW => by have := run_conv_segS (P := Tryd.prog) cp hW.2 28 5 9 Tryd.underlying28 Tryd.underlying5 Tryd.underlying9; rw [HT43.out.2] at this; exact this)) hHeld ?_
          simp only [List.getElem_toArray, List.getElem_cons_zero, List.getElem_cons_succ, Act.put, List.setIfInBounds_toArray, List.set_cons_zero, List.set_cons_succ]
          refine wpAnyK_take (i := 8) (v := .bool false) rfl (by kernel_rfl) (by kernel_rfl) (by kernel_rfl) (by kernel_rfl) (fun _ _ _ h => h) (Or.inl ⟨by rfl, fun w hSw => by go_simp⟩) hHeld ?_
          simp only [List.getElem_toArray, List.getElem_cons_zero, List.getElem_cons_succ, Act.put, List.setIfInBounds_toArray, List.set_cons_zero, List.set_cons_succ]
          refine wpAnyK_take (i := 9) (v := .bool false) rfl (by kernel_rfl) (by kernel_rfl) (by kernel_rfl) (by kernel_rfl) (fun _ _ _ h => h) (Or.inl ⟨by rfl, fun w hSw => by go_simp⟩) hHeld ?_
          simp only [List.getElem_toArray, List.getElem_cons_zero, List.getElem_cons_succ, Act.put, List.setIfInBounds_toArray, List.set_cons_zero, List.set_cons_succ]
          refine wpAnyK_done (by kernel_rfl) ?_ _
          have hr : R = (dr25 zs, 0) := by rw [HD.out, if_pos ⟨hm, he⟩]
          go_wp2_with (first | refine wpList_load_row rfl 27 (.tmp 7) rfl rb rfl _ #[.int .i64 y0, .int .i64 y1, .int .i64 y2, .int .i64 y3, .int .u32 m4, .int .i64 y5, .int .i64 y6, .int .i64 y7, .int .u32 m8, .int .i64 y9] _ _ K4.out.1 Tryd.underlying27 rfl info_rc25d ?_ | refine wpList_store_row rfl 27 (.tmp 2) (.tmp 77) rfl N #[.int .i64 y0, .int .i64 y1, .int .i64 y2, .int .i64 y3, .int .u32 m4, .int .i64 y5, .int .i64 y6, .int .i64 y7, .int .u32 m8, .int .i64 y9] rfl rfl _ _ K4.out.2.1 info_rc25d rfl HRW.out ?_)
          refine bodyPost_ret (v := .tuple #[.agg #[.int .i64 y0, .int .i64 y1, .int .i64 y2, .int .i64 y3, .int .u32 m4, .int .i64 y5, .int .i64 y6, .int .i64 y7, .int .u32 m8, .int .i64 y9], .int .i64 0]) (results_ct25 (fn := Tryd.f19) (p := 2) (u := 3) (ty := 27) rfl _ _ N _ #[.int .i64 y0, .int .i64 y1, .int .i64 y2, .int .i64 y3, .int .u32 m4, .int .i64 y5, .int .i64 y6, .int .i64 y7, .int .u32 m8, .int .i64 y9] _ _ rfl (set_row25 K4.out.2.1) Tryd.underlying27 rfl info_rc25d) rfl ?_
          exact ⟨by (try rw [hr]); show _ = Ending.returned (.tuple #[.agg (dr25 zs).cs, .int .i64 0]); rw [HDR.out], by have := below_row25 (w := w) (by rw [← HN.out]; exact HBN.out _ K4.out.2.2.1) (Nat.le_of_eq HN.out.symm) #[.int .i64 y0, .int .i64 y1, .int .i64 y2, .int .i64 y3, .int .u32 m4, .int .i64 y5, .int .i64 y6, .int .i64 y7, .int .u32 m8, .int .i64 y9]; rw [← HN.out] at this ⊢; exact this⟩
        · have hse : ((strOfNums en).toList == (strOfNums (zs.take 43)).toList) = false := by rw [str_injS HEB.out HT43.out.1]; simp [he]
          have S43 : (43 : Int) ≤ (cp : Int) := by have := HSG.out; omega
          refine plain_region16 (fun V => Seg V p5 en ∧ Seg V (some ⟨g, o, none⟩) (zs.take 43)) 10 (by kernel_rfl) (by rw [HV4.out]; exact ⟨K4.out.2.2.2, (HSG.out.1.old K4.out.2.2.1).take 43⟩) (fun hHeld => ?_)
          rw [HV4.out] at hHeld ⊢
          clear HV4
          refine wpAnyK_take (i := 0) (v := .int .i64 ck) rfl (by kernel_rfl) (by kernel_rfl) (by kernel_rfl) (by kernel_rfl) (fun _ _ _ h => h) (Or.inl ⟨by rfl, fun w hSw => by go_simp⟩) hHeld ?_
          simp only [List.getElem_toArray, List.getElem_cons_zero, Act.put, List.setIfInBounds_toArray, List.set_cons_zero, List.set_cons_succ]
          refine wpAnyK_take (i := 1) (v := .bool false) rfl (by kernel_rfl) (by kernel_rfl) (by kernel_rfl) (by kernel_rfl) (fun _ _ _ h => h) (Or.inl ⟨by rfl, fun w hSw => by go_simp⟩) hHeld ?_
          simp only [List.getElem_toArray, List.getElem_cons_zero, List.getElem_cons_succ, Act.put, List.setIfInBounds_toArray, List.set_cons_zero, List.set_cons_succ]
          refine wpAnyK_take (i := 2) (v := .bool false) rfl (by kernel_rfl) (by kernel_rfl) (by kernel_rfl) (by kernel_rfl) (fun _ _ _ h => h) (Or.inl ⟨by rfl, fun w hSw => by go_simp⟩) hHeld ?_
          simp only [List.getElem_toArray, List.getElem_cons_zero, List.getElem_cons_succ, Act.put, List.setIfInBounds_toArray, List.set_cons_zero, List.set_cons_succ]
          refine wpAnyK_take (i := 3) (v := .slice p5 en.length c5) rfl (by kernel_rfl) (by kernel_rfl) (by kernel_rfl) (by kernel_rfl) (fun _ _ _ h => h) (Or.inl ⟨by rfl, fun w hSw => by go_simp⟩) hHeld ?_
          simp only [List.getElem_toArray, List.getElem_cons_zero, List.getElem_cons_succ, Act.put, List.setIfInBounds_toArray, List.set_cons_zero, List.set_cons_succ]
          refine wpAnyK_take (i := 4) (v := .string (strOfNums en)) rfl (by kernel_rfl) (by kernel_rfl) (by kernel_rfl) (by kernel_rfl) (fun _ _ _ h => h) (yields_conv25 (by rfl) 28 9 (.tmp 69) rfl rfl (fun W hW => run_conv_segS c5 hW.1 28 5 9 Tryd.underlying28 Tryd.underlying5 Tryd.underlying9)) hHeld ?_
          simp only [List.getElem_toArray, List.getElem_cons_zero, List.getElem_cons_succ, Act.put, List.setIfInBounds_toArray, List.set_cons_zero, List.set_cons_succ]
          refine wpAnyK_take (i := 5) (v := .slice (some ⟨g, o, none⟩) n cp) rfl (by kernel_rfl) (by kernel_rfl) (by kernel_rfl) (by kernel_rfl) (fun _ _ _ h => h) (Or.inl ⟨by rfl, fun w hSw => by go_simp⟩) hHeld ?_
          simp only [List.getElem_toArray, List.getElem_cons_zero, List.getElem_cons_succ, Act.put, List.setIfInBounds_toArray, List.set_cons_zero, List.set_cons_succ]
          refine wpAnyK_take (i := 6) (v := .slice (some ⟨g, o, none⟩) 43 cp) rfl (by kernel_rfl) (by kernel_rfl) (by kernel_rfl) (by kernel_rfl) (fun _ _ _ h => h) (Or.inl ⟨by rfl, fun w hSw => by go_simp⟩) hHeld ?_
          simp only [List.getElem_toArray, List.getElem_cons_zero, List.getElem_cons_succ, Act.put, List.setIfInBounds_toArray, List.set_cons_zero, List.set_cons_succ]
          refine wpAnyK_take (i := 7) (v := .string (strOfNums (zs.take 43))) rfl (by kernel_rfl) (by kernel_rfl) (by kernel_rfl) (by kernel_rfl) (fun _ _ _ h => h) (yields_conv25 (by rfl) 28 9 (.tmp 72) rfl rfl (fun W hW => by have := run_conv_segS (P := Tryd.prog) cp hW.2 28 5 9 Tryd.underlying28 Tryd.underlying5 Tryd.underlying9; rw [HT43.out.2] at this; exact this)) hHeld ?_
          simp only [List.getElem_toArray, List.getElem_cons_zero, List.getElem_cons_succ, Act.put, List.setIfInBounds_toArray, List.set_cons_zero, List.set_cons_succ]
          refine wpAnyK_take (i := 8) (v := .bool true) rfl (by kernel_rfl) (by kernel_rfl) (by kernel_rfl) (by kernel_rfl) (fun _ _ _ h => h) (Or.inl ⟨by rfl, fun w hSw => by go_simp⟩) hHeld ?_
          simp only [List.getElem_toArray, List.getElem_cons_zero, List.getElem_cons_succ, Act.put, List.setIfInBounds_toArray, List.set_cons_zero, List.set_cons_succ]
          refine wpAnyK_take (i := 9) (v := .bool true) rfl (by kernel_rfl) (by kernel_rfl) (by kernel_rfl) (by kernel_rfl) (fun _ _ _ h => h) (Or.inl ⟨by rfl, fun w hSw => by go_simp⟩) hHeld ?_
          simp only [List.getElem_toArray, List.getElem_cons_zero, List.getElem_cons_succ, Act.put, List.setIfInBounds_toArray, List.set_cons_zero, List.set_cons_succ]
          refine wpAnyK_done (by kernel_rfl) ?_ _
          have hr : R = (zr25, 250) := by rw [HD.out, if_neg (fun h => he h.2)]
          go_wp2_with (refine wpList_store_row rfl 27 (.tmp 2) (.tmp 76) rfl N #[.int .i64 0, .int .i64 0, .int .i64 0, .int .i64 0, .int .u32 0, .int .i64 0, .int .i64 0, .int .i64 0, .int .u32 0, .int .i64 0] rfl rfl _ _ K4.out.2.1 info_rc25d rfl (row_rc25 zr25) ?_)
          refine bodyPost_ret (v := .tuple #[.agg #[.int .i64 0, .int .i64 0, .int .i64 0, .int .i64 0, .int .u32 0, .int .i64 0, .int .i64 0, .int .i64 0, .int .u32 0, .int .i64 0], .int .i64 250]) (results_ct25 (fn := Tryd.f19) (p := 2) (u := 3) (ty := 27) rfl _ _ N _ #[.int .i64 0, .int .i64 0, .int .i64 0, .int .i64 0, .int .u32 0, .int .i64 0, .int .i64 0, .int .i64 0, .int .u32 0, .int .i64 0] _ _ rfl (set_row25 K4.out.2.1) Tryd.underlying27 rfl info_rc25d) rfl ?_
          exact ⟨by first | rfl | (rw [hr]; rfl), by have := below_row25 (w := w) (by rw [← HN.out]; exact HBN.out _ K4.out.2.2.1) (Nat.le_of_eq HN.out.symm) #[.int .i64 0, .int .i64 0, .int .i64 0, .int .i64 0, .int .u32 0, .int .i64 0, .int .i64 0, .int .i64 0, .int .u32 0, .int .i64 0]; rw [← HN.out] at this ⊢; exact this⟩
end Go.Proofs.YteboaolflecibaaDoor
