
import Derived.Test.YtjoghmdjnkdokaaDoorRfD
import Derived.Deep.CutRange
namespace Go.Proofs.YtjoghmdjnkdokaaDoor
open Go.RowKit Go.Shelf
set_option linter.unusedVariables false
set_option linter.unusedSimpArgs false

/-! The document's flash: done. -/
theorem seg_take21 {w : World} {q : Nat} {cur : List Value} {t : TypeId} {zs : List Int} (h : w.heap[q]? = some (.cells cur.toArray t (0, 0))) (ht : cur.take zs.length = zs.map (Value.int .u8)) (hz : ∀ z ∈ zs, 0 ≤ z ∧ z ≤ 255) : Seg w (some ⟨q, 0, none⟩) zs := by
  refine ⟨fun i hi => ⟨q, 0, rfl, ?_⟩, by decide, getD_bd (by decide) hz⟩
  have e : cur[i]? = some (.int .u8 (zs.getD i 0)) := by
    have h1 : (cur.take zs.length)[i]? = cur[i]? := by rw [List.getElem?_take, if_pos hi]
    rw [← h1, ht]
    simp [List.getD, hi]
  simp [World.cell?, h, e]
theorem splice_take21 (cur : List Value) (tn B : List Int) (ht : cur.take B.length = B.map (Value.int .u8)) (hl : tn.length ≤ B.length) : (splice cur 0 (tn.map (Value.int .u8))).take B.length = (tn ++ B.drop tn.length).map (Value.int .u8) := by
  unfold splice
  rw [List.take_zero, List.nil_append, Nat.zero_add, List.length_map, List.take_append, List.take_of_length_le (by simpa using hl), List.length_map, List.map_append]
  congr 1
  rw [List.map_drop, ← ht, List.drop_take]
set_option maxRecDepth 100000 in
set_option maxHeartbeats 16000000 in
theorem rdon21 {w : World} {b : Nat} {G : Nat → Prop} {S : Fs21} (h : Rl21d w b G S) (hO : Ok21 S) (kd : Int) (X Y : Nat) (hm : ms21 S.ps (X : Int) (Y : Int) = 0) (hlg : S.lg.length ≤ 4398046511000) :
    Calls Tryd.prog 59 #[.pointer (some ⟨b, 0, none⟩), .int .i64 kd, .int .i64 (X : Int), .int .i64 (Y : Int)] w fun e w' => e = .returned (.bool (decide (S.lf = 1))) ∧ Rn21 w w' b G (dnS21 S kd (X : Int) (Y : Int)) := by
  obtain ⟨g, c, A, tn, ta, tc, la, lc, V, h1, h2, h3, h4, h5, h6⟩ := h
  obtain ⟨X', Y', d, eX, eY, hX, hY, hd⟩ := h1.at hm
  obtain rfl : X = X' := by omega
  obtain rfl : Y = Y' := by omega
  clear eX eY
  obtain ⟨LN, hLN⟩ : ∃ LN, LN = S.lg.length := ⟨_, rfl⟩
  obtain ⟨q, cap, w1, hrun, hown, hk1, hq⟩ := run_log21d w la LN lc S.lg hLN.symm kd (X : Int) (Y : Int) (by rw [hLN]; exact h1.hl) (by omega) 44
  obtain ⟨w2, hw2⟩ : ∃ w2, w2 = w1.setCell ⟨b, 6, none⟩ (.slice (some ⟨q, 0, none⟩) (LN + 1) cap) := ⟨_, rfl⟩
  have HW2 : Hid (w1.setCell ⟨b, 6, none⟩ (.slice (some ⟨q, 0, none⟩) (LN + 1) cap) = w2) := hw2.symm
  obtain ⟨hR2, hk2⟩ := h1.log (w2 := w2) (q := q) (cap := cap) (o := (kd, (X : Int), (Y : Int))) (by rw [← hLN]; exact hk1) (by rw [← hLN]; exact hown) (by rw [← hLN]; exact hq) (by rw [← hLN]; exact hw2)
  have HR2 : Hid (Rf21 w2 b g c A tn ta tc (some ⟨q, 0, none⟩) cap V { S with lg := S.lg ++ [(kd, (X : Int), (Y : Int))] }) := hR2
  have HR1 : Hid (Rf21 w b g c A tn ta tc la lc V S) := h1
  have HG : Hid (G b ∧ (∀ x, x < 3 → G (g x)) ∧ (∀ k, (Value.slice la S.lg.length lc).ownBlock = some k → G k) ∧ (∀ k, V k → G k) ∧ (∀ k, G k → k < w.heap.size)) := ⟨h2, h3, h4, h5, h6⟩
  have HK2 : Hid (Kp G w w2) := hk2.mono (fun i _ e => by rcases e with e | e; (subst e; exact h2); (exact h4 i e))
  have HQ : Hid (G q ∨ w.heap.size ≤ q) := by
    rcases hq with hq | hq
    · exact .inl (h4 q (by rw [← hLN]; exact hq))
    · exact .inr hq
  have HAPP : Hid ((Builtin.append_ #[44, 44] 44 #[.slice la LN lc, .slice (some ⟨w.heap.size, 0, none⟩) 1 1]).run Tryd.prog (w.alloc (.cells #[.int .i64 kd, .int .i64 (X : Int), .int .i64 (Y : Int)] 125)) = .ok (.slice (some ⟨q, 0, none⟩) (LN + 1) cap) w1) := hrun
  have c6 : w.cell? ⟨b, 6, none⟩ = some (.slice la LN lc) := by rw [hLN]; exact h1.cel (i := 6) rfl
  have hb1 : w1.heap[b]? = w.heap[b]? := hk1.block b h1.bl (fun e => (h1.lo (by rw [← hLN]; exact e)).2.1 rfl)
  have x6 : w1.cell? ⟨b, 6, none⟩ = some (.slice la LN lc) := (World.cell?_of_block (a := ⟨b, 6, none⟩) hb1).trans c6
  have f6 : w1.frozen? ⟨b, 6, none⟩ = false := (World.frozen?_of_block (a := ⟨b, 6, none⟩) hb1).trans (h1.fr 6)
  have x8 : w2.cell? ⟨b, 8, none⟩ = some (.int .i64 S.lf) := hR2.cel (i := 8) rfl
  have f8 : w2.frozen? ⟨b, 8, none⟩ = false := hR2.fr 8
  have hS : Hid (dnS21 S kd (X : Int) (Y : Int) = if S.lf = 1 then cu21 S kd (X : Int) (Y : Int) (sh21 S (X : Int) (Y : Int)) else { S with lg := S.lg ++ [(kd, (X : Int), (Y : Int))], lf := max 0 (S.lf - 1) }) := rfl
  rw [hS.out]
  have hlf := hO.lf
  have HD : Hid (X < 3 ∧ Y < (A X).length ∧ (A X)[Y]? = some d) := ⟨hX, hY, hd⟩
  have HEND : Hid (∀ (S' : Fs21) (w' : World) (tn' : List Int) (ta' : Option Addr) (tc' : Nat) (A' : Nat → List Pd21) (V' : Nat → Prop), Rf21 w' b g c A' tn' ta' tc' (some ⟨q, 0, none⟩) cap V' S' → S'.lg = S.lg ++ [(kd, (X : Int), (Y : Int))] → (∀ k, V' k → G k ∨ w2.heap.size ≤ k) → Kp G w2 w' → Rn21 w w' b G S') := fun S' w' tn' ta' tc' A' V' hR hl hV hk => by
    obtain ⟨h2, h3, h4, h5, h6⟩ := HG.out
    refine ⟨fun k => (G k ∨ w.heap.size ≤ k) ∧ k < w'.heap.size, ⟨g, c, A', tn', ta', tc', _, cap, V', hR, ⟨.inl h2, hR.bl⟩, fun x hx => ⟨.inl (h3 x hx), hR.gl hx⟩, fun k e => ?_, fun k e => ⟨?_, hR.vs k e⟩, fun k e => e.2⟩, fun k e => e.1, HK2.out.trans hk (fun _ _ e => e)⟩
    · refine ⟨?_, (hR.lo e).1⟩
      simp [Value.ownBlock] at e
      subst e
      exact HQ.out
    · rcases hV k e with q | q
      · exact .inl q
      · exact .inr (Nat.le_trans HK2.out.size q)
  clear h1 h2 h3 h4 h5 h6 hrun hown hk1 hq hk2 hd hR2 hb1 hS
  by_cases l0 : S.lf = 0
  · rw [if_neg (by omega)]
    have e : decide (S.lf = 1) = false := by simp [l0]
    rw [e]
    rw [l0] at x8
    have HFIN : Hid (Rn21 w w2 b G { S with lg := S.lg ++ [(kd, (X : Int), (Y : Int))], lf := max 0 (S.lf - 1) }) := by
      refine HEND.out _ _ tn ta tc A V ?_ rfl (fun k e => .inl (HG.out.2.2.2.1 k e)) (Kp.refl _ _)
      have : ({ S with lg := S.lg ++ [(kd, (X : Int), (Y : Int))], lf := max 0 (S.lf - 1) } : Fs21) = { S with lg := S.lg ++ [(kd, (X : Int), (Y : Int))] } := by
        have hmx : max 0 (S.lf - 1) = S.lf := by omega
        rw [hmx]
      rw [this]
      exact HR2.out
    generalize ({ S with lg := S.lg ++ [(kd, (X : Int), (Y : Int))], lf := max 0 (S.lf - 1) } : Fs21) = S1 at HFIN ⊢
    clear HEND e hw2 hLN l0
    go_enter Tryd.func59, Tryd.ntmps59
    go_upto_region 2 with (first
      | (at_builtin; refine wpList_apr21 rfl (.tmp 15) (.tmp 20) 44 rfl rfl rfl HAPP.out ?_))
    rw [HW2.out]
    go_wp2_with fail
    go_ret
    exact ⟨rfl, HFIN.out⟩
  · by_cases l1 : S.lf = 1
    · rw [if_pos l1]
      have e : decide (S.lf = 1) = true := by simp [l1]
      rw [e]
      have hR2 := HR2.out
      obtain ⟨hX, hY, hd⟩ := HD.out
      obtain ⟨w3, hw3⟩ : ∃ w3, w3 = w2.setCell ⟨b, 8, none⟩ (.int .i64 0) := ⟨_, rfl⟩
      have HW3 : Hid (w2.setCell ⟨b, 8, none⟩ (.int .i64 0) = w3) := hw3.symm
      have hk3 : Kp (fun k => k = b) w2 w3 := by rw [hw3]; exact Kp.set (S := fun k => k = b) rfl _
      have hR3 : Rf21 w3 b g c A tn ta tc (some ⟨q, 0, none⟩) cap V { S with lg := S.lg ++ [(kd, (X : Int), (Y : Int))], lf := 0 } :=
        hR2.re (S' := { S with lg := S.lg ++ [(kd, (X : Int), (Y : Int))], lf := 0 }) hk3 rfl rfl rfl rfl ⟨fun q => absurd rfl q, hR2.ht.2⟩ (by rw [hw3]; simp [World.setCell, Array.getElem?_modify, hR2.hp])
      have hdd := hR3.hd X Y d hX hd
      have htn : tn = S.tn := hR2.ht.1 (by show S.lf ≠ 0; omega)
      have hdb : d.b = fb21 S (X : Int) (Y : Int) := hdd.2.2.1
      have hdl : d.b.length = S.pg := by rw [hdb]; exact fb21_len hO _ _
      have htl : tn.length ≤ d.b.length := by rw [hdl, htn]; exact hO.tn
      have hpg := hO.pg
      have hmem : ∀ z ∈ d.b, 0 ≤ z ∧ z ≤ 255 := hdd.1.mem
      have hmet : ∀ z ∈ tn, 0 ≤ z ∧ z ≤ 255 := hR3.ht.2.1.mem
      obtain ⟨i0, hi, hz0, hz1, hz2⟩ := info_parts info_y21
      have hm0 : (w3.alloc (.cells #[] 5)).ownsRow w3.heap.size 5 1 (.slice (some ⟨w3.heap.size, 0, none⟩) 0 0) 0 [] := World.ownsRow_made w3 #[] 0 (Nat.le_refl _) (by decide) rfl
      have hb0 : Below w3.heap.size w3 (w3.alloc (.cells #[] 5)) := (Below.refl _ _).alloc (Nat.le_refl _) _
      have hs1 := hdd.1.alloc (.cells #[] 5)
      have p0 : (w3.alloc (.cells #[] 5)).cell? ⟨g X, Y * 3, none⟩ = some (.slice (some ⟨d.k, d.off, none⟩) d.b.length d.c) := ((hR3.old hb0).pgc hX hd).1
      have ca := hR3.car hX
      obtain ⟨NA, hNA⟩ : ∃ NA, NA = (A X).length := ⟨_, rfl⟩
      rw [← hNA] at ca
      have hXi : (X : Int) < 3 := by omega
      have hYi : (Y : Int) < (NA : Int) := by omega
      have HR3 : Hid (Rf21 w3 b g c A tn ta tc (some ⟨q, 0, none⟩) cap V { S with lg := S.lg ++ [(kd, (X : Int), (Y : Int))], lf := 0 }) := hR3
      have HW9 : Hid (∀ W : World, Below w3.heap.size w3 W → W.cell? ⟨b, 9, none⟩ = some (.slice ta tn.length tc) ∧ W.cell? ⟨b, 7, none⟩ = some (.bool (!S.on)) ∧ (∀ i, W.frozen? ⟨b, i, none⟩ = false) ∧ (∀ i, W.frozen? ⟨g X, i, none⟩ = false) ∧ W.cell? ⟨g X, Y * 3, none⟩ = some (.slice (some ⟨d.k, d.off, none⟩) d.b.length d.c) ∧ W.cell? ⟨g X, Y * 3 + 1, none⟩ = some (.bool d.er) ∧ Sl21 W V ta tn tc) := fun W hW => by
        have q := hR3.old hW
        exact ⟨q.cel (i := 9) rfl, q.cel (i := 7) rfl, q.fr, fun i => q.frg hX i, (q.pgc hX hd).1, (q.pgc hX hd).2.1, q.ht.2⟩
      have hbg : ¬ b = g X := hR3.bg hX
      have hgb : ¬ g X = b := fun e => hR3.bg hX e.symm
      have hlen : Hid (d.b.length = S.pg ∧ tn.length ≤ d.b.length ∧ tn = S.tn ∧ d.b = fb21 S (X : Int) (Y : Int)) := ⟨hdl, htl, htn, hdb⟩
      have HFIN : Hid (∀ (w6 : World) (q5 c1 : Nat) (cur : List Value), Below w3.heap.size w3 w6 → w3.heap.size ≤ q5 → w6.heap[q5]? = some (.cells cur.toArray 5 (0, 0)) → cur.take d.b.length = (tn ++ d.b.drop tn.length).map (Value.int .u8) → d.b.length ≤ c1 →
          Rn21 w ((((w6.setCell ⟨g X, Y * 3, none⟩ (.slice (some ⟨q5, 0, none⟩) d.b.length c1)).setCell ⟨g X, Y * 3 + 1, none⟩ (.bool false)).setCell ⟨b, 7, none⟩ (.bool true)).setCell ⟨b, 9, none⟩ (.slice none 0 0)) b G (cu21 S kd (X : Int) (Y : Int) (sh21 S (X : Int) (Y : Int)))) := fun w6 q5 c1 cur hb6 hq5 hh6 ht6 hc1 => by
        have hR3 := HR3.out
        have hql : q5 < w6.heap.size := (Array.getElem?_eq_some_iff.1 hh6).1
        have hR6 := hR3.new hb6 (fun k => k = q5) (fun k e => by subst e; exact ⟨hq5, hql⟩)
        have hl6 : (tn ++ d.b.drop tn.length).length = d.b.length := by simp; omega
        have hsg6 : Seg w6 (some ⟨q5, 0, none⟩) (tn ++ d.b.drop tn.length) := seg_take21 hh6 (by rw [hl6]; exact ht6) (fun z hz => by
          rcases List.mem_append.1 hz with e | e
          · exact hmet z e
          · exact hmem z (List.mem_of_mem_drop e))
        obtain ⟨X0, hX0⟩ := hR6.ha X hX
        have hk7 : Kp (fun k => k = g X) w6 ((w6.setCell ⟨g X, Y * 3, none⟩ (.slice (some ⟨q5, 0, none⟩) d.b.length c1)).setCell ⟨g X, Y * 3 + 1, none⟩ (.bool false)) := (Kp.set (S := fun k => k = g X) rfl _).trans (Kp.set (S := fun k => k = g X) rfl _) (fun _ _ e => e)
        have hgq : g X ≠ q5 := by have := hR3.gl hX; omega
        have hrow := pgrow21_two (w := w6) (d' := ⟨q5, 0, c1, tn ++ d.b.drop tn.length, false, d.wr⟩) hX0 hd rfl
        rw [show (⟨q5, 0, c1, tn ++ d.b.drop tn.length, false, d.wr⟩ : Pd21).b.length = d.b.length from hl6] at hrow
        have hR7 := hR6.page hX hY ⟨q5, 0, c1, tn ++ d.b.drop tn.length, false, d.wr⟩ ⟨la21 S.pg S.tn (sh21 S (X : Int) (Y : Int)).b, false, (sh21 S (X : Int) (Y : Int)).wr⟩ hk7 ⟨X0, hrow⟩ (hsg6.kp hk7 (fun b' o' e' _ => by cases e'; exact fun e => hgq e.symm)) (.inr rfl) (by
            show tn ++ d.b.drop tn.length = la21 S.pg S.tn _ ++ List.replicate (S.pg - (la21 S.pg S.tn _).length) 255
            rw [la21_len _ _ _ hO.tn (sh21_ok hO _ _).1, Nat.sub_self, List.replicate_zero, List.append_nil, ← la21_fb hO, htn, hdb]) rfl hdd.2.2.2.2.1 (by show (tn ++ d.b.drop tn.length).length ≤ c1; rw [hl6]; exact hc1)
        have hk8 : Kp (fun k => k = b) ((w6.setCell ⟨g X, Y * 3, none⟩ (.slice (some ⟨q5, 0, none⟩) d.b.length c1)).setCell ⟨g X, Y * 3 + 1, none⟩ (.bool false)) ((((w6.setCell ⟨g X, Y * 3, none⟩ (.slice (some ⟨q5, 0, none⟩) d.b.length c1)).setCell ⟨g X, Y * 3 + 1, none⟩ (.bool false)).setCell ⟨b, 7, none⟩ (.bool true)).setCell ⟨b, 9, none⟩ (.slice none 0 0)) := (Kp.set (S := fun k => k = b) rfl _).trans (Kp.set (S := fun k => k = b) rfl _) (fun _ _ e => e)
        have hR8 := hR7.re (S' := cu21 S kd (X : Int) (Y : Int) (sh21 S (X : Int) (Y : Int))) hk8 rfl rfl rfl rfl (tn' := []) (ta' := none) (tc' := 0) ⟨fun _ => rfl, SegK.nil (by decide) _ _, .inl rfl, fun _ => rfl, by simp⟩ (by
          have := hR7.hp
          simp only [World.setCell] at this ⊢
          simp [Array.getElem?_modify] at this ⊢
          simp [this, cu21])
        refine HEND.out _ _ _ _ _ _ _ hR8 rfl (fun k e => ?_) ?_
        · rcases e with e | e
          · exact .inl (HG.out.2.2.2.1 k e)
          · exact .inr (by rw [e]; exact Nat.le_trans hk3.size hq5)
        · refine (hk3.mono (S' := G) (fun i _ e => by subst e; exact HG.out.1)).trans ((Kp.of_below (S := G) hb6).trans ((hk7.mono (S' := G) (fun i _ e => by subst e; exact HG.out.2.1 X hX)).trans (hk8.mono (S' := G) (fun i _ e => by subst e; exact HG.out.1)) (fun _ _ e => e)) (fun _ _ e => e)) (fun _ _ e => e)
      generalize cu21 S kd (X : Int) (Y : Int) (sh21 S (X : Int) (Y : Int)) = S1 at HFIN ⊢
      obtain ⟨DL, hDL⟩ : ∃ DL, DL = d.b.length := ⟨_, rfl⟩
      obtain ⟨DB, hDB⟩ : ∃ DB, DB = d.b := ⟨_, rfl⟩
      rw [l1] at x8
      have hw0 : IntKind.i64.wrap (1 - 1) = 0 := by decide
      have hDpos : 0 < d.b.length := by omega
      have HMT : Hid (∀ z ∈ tn, 0 ≤ z ∧ z ≤ 255) := hmet
      have h140 : d.b.length ≤ 4096 := by omega
      clear HEND e hw2 hLN hw3 hk3 hR3 hR2 hdd htn hdb hdl htl hpg hmem hmet hb0 hDL hDB hd hY hNA hm
      go_enter Tryd.func59, Tryd.ntmps59
      go_upto_region 2 with (first
        | (at_builtin; refine wpList_apr21 rfl (.tmp 15) (.tmp 20) 44 rfl rfl rfl HAPP.out ?_))
      rw [HW2.out]
      go_upto_region 7 with fail
      rw [HW3.out]
      go_upto_region 9 with (first
        | (at_builtin; refine wpList_appS rfl (.tmp 49) (.tmp 53) 22 rfl w3.heap.size 5 i0 (.int .u8 0) 1 Tryd.underlying22 hi hz0 hz1 hz2 rfl hm0 hs1 (by intro h; cases h) rfl rfl (by omega) (by omega) (by simp) ?_; intro a1 c1 w5 hown5 hg5 hf5 hn5))
      have hb5 : Below w3.heap.size w3 w5 := ((Below.refl _ _).alloc (Nat.le_refl _) _).trans (below_own hm0 hg5 (by simp))
      rw [Nat.zero_add, List.nil_append] at hown5
      rcases hown5.2 with ⟨e1, e2⟩ | ⟨q5, cp5, cur5, hv5, hbq, hh5, hle5, hmx5, hsz5, htk5⟩
      · omega
      simp only [Value.slice.injEq] at hv5
      obtain ⟨rfl, -, rfl⟩ := hv5
      rw [Nat.mul_one] at hsz5 htk5
      obtain ⟨x9, x7, fb, fg, y0, y1, hsl⟩ := HW9.out w5 hb5
      have HH5 : Hid (w5.heap[q5]? = some (.cells cur5.toList.toArray 5 (0, 0))) := by show _ = _; rw [Array.toArray_toList]; exact hh5
      have HTK : Hid (cur5.toList.take d.b.length = d.b.map (Value.int .u8) ∧ d.b.length ≤ c1 ∧ cur5.size = c1) := ⟨htk5, hle5, hsz5⟩
      have HB5 : Hid (Below w3.heap.size w3 w5 ∧ w3.heap.size ≤ q5) := ⟨hb5, hbq⟩
      have HSL : Hid (Sl21 w5 V ta tn tc) := hsl
      clear hown5 hg5 hf5 hn5 hm0 hs1 hh5 htk5 hle5 hmx5 hsz5 hb5 hbq fb fg y0 y1 hsl
      have HNM : Hid ((tn.map (Value.int .u8)).length = Nat.min tn.length d.b.length) := by
        show _ = _
        have := hlen.out.2.1
        rw [List.length_map]; exact (Nat.min_eq_left this).symm
      have HPS : Hid (0 < (tn.map (Value.int .u8)).length → (some ⟨q5, 0, none⟩ : Option Addr) = some ⟨q5, 0, none⟩ ∧ ∃ ad, ta = some ad ∧ ∀ j v, (tn.map (Value.int .u8))[j]? = some v → w5.cell? (ad.add j) = some v) := fun hp => ⟨rfl, by
        obtain ⟨b', o', e', _⟩ := HSL.out.1.at_ 0 (by simpa using hp)
        exact ⟨⟨b', o', none⟩, e', seg_cells (e' ▸ HSL.out.1)⟩⟩
      have HFT : Hid (0 + (tn.map (Value.int .u8)).length ≤ cur5.toList.length) := by
        show _ ≤ _
        have h1 := hlen.out.2.1
        have h2 := HTK.out
        simp; omega
      go_upto_region 10 with (first
        | (refine wpList_copy_splice rfl (.tmp 55) (.tmp 59) 22 22 rfl 5 Tryd.underlying22 size_y21 (some ⟨q5, 0, none⟩) ta d.b.length c1 tn.length tc rfl rfl q5 0 cur5.toList 5 HH5.out (tn.map (Value.int .u8)) HNM.out HPS.out HFT.out (ints_oneCell _ _) w3.heap.size w3 HB5.out.1 HB5.out.2 ?_; intro w6 h6 b6))
      obtain ⟨z9, z7, fb, fg, y0, y1, hsl⟩ := HW9.out w6 b6
      have fb7 := fb 7
      have fb9 := fb 9
      have fg0 := fg (Y * 3)
      have fg1 := fg (Y * 3 + 1)
      have HF := HFIN.out w6 q5 c1 _ b6 HB5.out.2 h6.out (splice_take21 _ _ _ HTK.out.1 hlen.out.2.1) HTK.out.2.1
      have HFF : Hid (Rn21 w ((((w6.setCell ⟨g X, Y * 3, none⟩ (.slice (some ⟨q5, 0, none⟩) d.b.length c1)).setCell ⟨g X, Y * 3 + 1, none⟩ (.bool false)).setCell ⟨b, 7, none⟩ (.bool true)).setCell ⟨b, 9, none⟩ (.slice none 0 0)) b G S1) := HF
      clear HF fb fg hsl
      go_wp2_with fail
      go_ret
      exact ⟨rfl, HFF.out⟩
    · rw [if_neg l1]
      have e : decide (S.lf = 1) = false := by simp [l1]
      rw [e]
      obtain ⟨M, hM⟩ : ∃ M, M = S.lf - 1 := ⟨_, rfl⟩
      have hMw : IntKind.i64.wrap (S.lf - 1) = M := by rw [IntWalk.i64_in _ (by omega), hM]
      have hM0 : 0 < M := by omega
      have hl0' : (S.lf == 0) = false := by simp [l0]
      have HFIN : Hid (Rn21 w (w2.setCell ⟨b, 8, none⟩ (.int .i64 M)) b G { S with lg := S.lg ++ [(kd, (X : Int), (Y : Int))], lf := max 0 (S.lf - 1) }) := by
        have hk : Kp (fun k => k = b) w2 (w2.setCell ⟨b, 8, none⟩ (.int .i64 M)) := Kp.set (S := fun k => k = b) rfl _
        have hmx : max 0 (S.lf - 1) = M := by omega
        have hR := HR2.out
        refine HEND.out _ _ tn ta tc A V ?_ rfl (fun k e => .inl (HG.out.2.2.2.1 k e)) (hk.mono (fun i _ e => by subst e; exact HG.out.1))
        rw [hmx]
        exact hR.re (S' := { S with lg := S.lg ++ [(kd, (X : Int), (Y : Int))], lf := M }) hk rfl rfl rfl rfl ⟨fun _ => hR.ht.1 l0, hR.ht.2⟩ (by simp [World.setCell, Array.getElem?_modify, hR.hp])
      generalize ({ S with lg := S.lg ++ [(kd, (X : Int), (Y : Int))], lf := max 0 (S.lf - 1) } : Fs21) = S1 at HFIN ⊢
      obtain ⟨LF, hLF⟩ : ∃ LF, LF = S.lf := ⟨_, rfl⟩
      rw [← hLF] at x8 hMw hl0'
      clear HEND e hw2 hLN hM hLF
      go_enter Tryd.func59, Tryd.ntmps59
      go_upto_region 2 with (first
        | (at_builtin; refine wpList_apr21 rfl (.tmp 15) (.tmp 20) 44 rfl rfl rfl HAPP.out ?_))
      rw [HW2.out]
      go_wp2_with fail
      go_ret
      exact ⟨rfl, HFIN.out⟩
end Go.Proofs.YtjoghmdjnkdokaaDoor
