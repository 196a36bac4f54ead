import Derived.Test.YtmjlpfmacblcpaaDoorPh
import Derived.Deep.CutRange
import Derived.Test.YtmjlpfmacblcpaaDoorPk
namespace Go.Proofs.YtmjlpfmacblcpaaDoor
open Go.RowKit Go.Shelf
set_option linter.unusedVariables false
set_option linter.unusedSimpArgs false
theorem seg_take21 {w : World} {q : Nat} {cur : List Value} {t : TypeId} {zs : List Int} (h : w.heap[q]? = some (.cells cur.toArray t (0, 0))) (ht : cur.take zs.length = zs.map (Value.int .u8)) (hz : ∀ z ∈ zs, 0 ≤ z ∧ z ≤ 255) : Seg w (some ⟨q, 0, none⟩) zs := by
  refine ⟨fun i hi => ⟨q, 0, rfl, ?_⟩, by decide, getD_bd (by decide) hz⟩
  have e : cur[i]? = some (.int .u8 (zs.getD i 0)) := by
    have h1 : (cur.take zs.length)[i]? = cur[i]? := by rw [List.getElem?_take, if_pos hi]
    rw [← h1, ht]
    simp [List.getD, hi]
  simp [World.cell?, h, e]
theorem splice_take21 (cur : List Value) (tn B : List Int) (ht : cur.take B.length = B.map (Value.int .u8)) (hl : tn.length ≤ B.length) : (splice cur 0 (tn.map (Value.int .u8))).take B.length = (tn ++ B.drop tn.length).map (Value.int .u8) := by
  unfold splice
  rw [List.take_zero, List.nil_append, Nat.zero_add, List.length_map, List.take_append, List.take_of_length_le (by simpa using hl), List.length_map, List.map_append]
  congr 1
  rw [List.map_drop, ← ht, List.drop_take]
set_option maxRecDepth 100000 in
set_option maxHeartbeats 16000000 in
theorem rdon21 {w : World} {b : Nat} {G : Nat → Prop} {S : Fs21} (h : Rl21d w b G S) (hO : Ok21 S) (kd : Int) (X Y : Nat) (hm : ms21 S.ps (X : Int) (Y : Int) = 0) (hlg : S.lg.length ≤ 5500000001000) :
    Calls Tryd.prog 97 #[.pointer (some ⟨b, 0, none⟩), .int .i64 kd, .int .i64 (X : Int), .int .i64 (Y : Int)] w fun e w' => e = .returned (.bool (decide (S.lf = 1))) ∧ Rn21 w w' b G (dnS21 S kd (X : Int) (Y : Int)) := by
  obtain ⟨g, c, A, tn, ta, tc, la, lc, V, h1, h2, h3, h4, h5, h6⟩ := h
  obtain ⟨X', Y', d, eX, eY, hX, hY, hd⟩ := h1.at hm
  obtain rfl : X = X' := by omega
  obtain rfl : Y = Y' := by omega
  clear eX eY
  obtain ⟨LN, hLN⟩ : ∃ LN, LN = S.lg.length := ⟨_, rfl⟩
  obtain ⟨q, cap, w1, hrun, hown, hk1, hq⟩ := run_log21d w la LN lc S.lg hLN.symm kd (X : Int) (Y : Int) (by rw [hLN]; exact h1.hl) (by omega) 105
  obtain ⟨w2, hw2⟩ : ∃ w2, w2 = w1.setCell ⟨b, 6, none⟩ (.slice (some ⟨q, 0, none⟩) (LN + 1) cap) := ⟨_, rfl⟩
  have HW2 : Hid (w1.setCell ⟨b, 6, none⟩ (.slice (some ⟨q, 0, none⟩) (LN + 1) cap) = w2) := hw2.symm
  obtain ⟨hR2, hk2⟩ := h1.log (w2 := w2) (q := q) (cap := cap) (o := (kd, (X : Int), (Y : Int))) (by rw [← hLN]; exact hk1) (by rw [← hLN]; exact hown) (by rw [← hLN]; exact hq) (by rw [← hLN]; exact hw2)
  have HR2 : Hid (Rf21 w2 b g c A tn ta tc (some ⟨q, 0, none⟩) cap V { S with lg := S.lg ++ [(kd, (X : Int), (Y : Int))] }) := hR2
  have HR1 : Hid (Rf21 w b g c A tn ta tc la lc V S) := h1
  have HG : Hid (G b ∧ (∀ x, x < 3 → G (g x)) ∧ (∀ k, (Value.slice la S.lg.length lc).ownBlock = some k → G k) ∧ (∀ k, V k → G k) ∧ (∀ k, G k → k < w.heap.size)) := ⟨h2, h3, h4, h5, h6⟩
  have HK2 : Hid (Kp G w w2) := hk2.mono (fun i _ e => by rcases e with e | e; (subst e; exact h2); (exact h4 i e))
  have HQ : Hid (G q ∨ w.heap.size ≤ q) := by
    rcases hq with hq | hq
    · exact .inl (h4 q (by rw [← hLN]; exact hq))
    · exact .inr hq
  have HAPP : Hid ((Builtin.append_ #[105, 105] 105 #[.slice la LN lc, .slice (some ⟨w.heap.size, 0, none⟩) 1 1]).run Tryd.prog (w.alloc (.cells #[.int .i64 kd, .int .i64 (X : Int), .int .i64 (Y : Int)] 177)) = .ok (.slice (some ⟨q, 0, none⟩) (LN + 1) cap) w1) := hrun
  have c6 : w.cell? ⟨b, 6, none⟩ = some (.slice la LN lc) := by rw [hLN]; exact h1.cel (i := 6) rfl
  have hb1 : w1.heap[b]? = w.heap[b]? := hk1.block b h1.bl (fun e => (h1.lo (by rw [← hLN]; exact e)).2.1 rfl)
  have x6 : w1.cell? ⟨b, 6, none⟩ = some (.slice la LN lc) := (World.cell?_of_block (a := ⟨b, 6, none⟩) hb1).trans c6
  have f6 : w1.frozen? ⟨b, 6, none⟩ = false := (World.frozen?_of_block (a := ⟨b, 6, none⟩) hb1).trans (h1.fr 6)
  have x8 : w2.cell? ⟨b, 8, none⟩ = some (.int .i64 S.lf) := hR2.cel (i := 8) rfl
  have f8 : w2.frozen? ⟨b, 8, none⟩ = false := hR2.fr 8
  have hS : Hid (dnS21 S kd (X : Int) (Y : Int) = if S.lf = 1 then cu21 S kd (X : Int) (Y : Int) (sh21 S (X : Int) (Y : Int)) else { S with lg := S.lg ++ [(kd, (X : Int), (Y : Int))], lf := max 0 (S.lf - 1) }) := rfl
  rw [hS.out]
  have hlf := hO.lf
  have HD : Hid (X < 3 ∧ Y < (A X).length ∧ (A X)[Y]? = some d) := ⟨hX, hY, hd⟩
  have HEND : Hid (∀ (S' : Fs21) (w' : World) (tn' : List Int) (ta' : Option Addr) (tc' : Nat) (A' : Nat → List Pd21) (V' : Nat → Prop), Rf21 w' b g c A' tn' ta' tc' (some ⟨q, 0, none⟩) cap V' S' → S'.lg = S.lg ++ [(kd, (X : Int), (Y : Int))] → (∀ k, V' k → G k ∨ w2.heap.size ≤ k) → Kp G w2 w' → Rn21 w w' b G S') := fun S' w' tn' ta' tc' A' V' hR hl hV hk => by
    obtain ⟨h2, h3, h4, h5, h6⟩ := HG.out
    refine ⟨fun k => (G k ∨ w.heap.size ≤ k) ∧ k < w'.heap.size, ⟨g, c, A', tn', ta', tc', _, cap, V', hR, ⟨.inl h2, hR.bl⟩, fun x hx => ⟨.inl (h3 x hx), hR.gl hx⟩, fun k e => ?_, fun k e => ⟨?_, hR.vs k e⟩, fun k e => e.2⟩, fun k e => e.1, HK2.out.trans hk (fun _ _ e => e)⟩
    · refine ⟨?_, (hR.lo e).1⟩
      simp [Value.ownBlock] at e
      subst e
      exact HQ.out
    · rcases hV k e with q | q
      · exact .inl q
      · exact .inr (Nat.le_trans HK2.out.size q)
  clear h1 h2 h3 h4 h5 h6 hrun hown hk1 hq hk2 hd hR2 hb1 hS
  by_cases l0 : S.lf = 0
  · rw [if_neg (by omega)]
    have e : decide (S.lf = 1) = false := by simp [l0]
    rw [e]
    rw [l0] at x8
    have HFIN : Hid (Rn21 w w2 b G { S with lg := S.lg ++ [(kd, (X : Int), (Y : Int))], lf := max 0 (S.lf - 1) }) := by
      refine HEND.out _ _ tn ta tc A V ?_ rfl (fun k e => .inl (HG.out.2.2.2.1 k e)) (Kp.refl _ _)
      have : ({ S with lg := S.lg ++ [(kd, (X : Int), (Y : Int))], lf := max 0 (S.lf - 1) } : Fs21) = { S with lg := S.lg ++ [(kd, (X : Int), (Y : Int))] } := by
        have hmx : max 0 (S.lf - 1) = S.lf := by omega
        rw [hmx]
      rw [this]
      exact HR2.out
    generalize ({ S with lg := S.lg ++ [(kd, (X : Int), (Y : Int))], lf := max 0 (S.lf - 1) } : Fs21) = S1 at HFIN ⊢
    clear HEND e hw2 hLN l0
    go_enter Tryd.func97, Tryd.ntmps97
    go_upto_region 2 with (first
      | (at_builtin; refine wpList_apr21 rfl (.tmp 15) (.tmp 20) 105 rfl rfl rfl HAPP.out ?_))
    rw [HW2.out]
    go_wp2_with fail
    go_ret
    exact ⟨rfl, HFIN.out⟩
  · by_cases l1 : S.lf = 1
    · rw [if_pos l1]
      have e : decide (S.lf = 1) = true := by simp [l1]
      rw [e]
      have hR2 := HR2.out
      obtain ⟨hX, hY, hd⟩ := HD.out
      obtain ⟨w3, hw3⟩ : ∃ w3, w3 = w2.setCell ⟨b, 8, none⟩ (.int .i64 0) := ⟨_, rfl⟩
      have HW3 : Hid (w2.setCell ⟨b, 8, none⟩ (.int .i64 0) = w3) := hw3.symm
      have hk3 : Kp (fun k => k = b) w2 w3 := by rw [hw3]; exact Kp.set (S := fun k => k = b) rfl _
      have hR3 : Rf21 w3 b g c A tn ta tc (some ⟨q, 0, none⟩) cap V { S with lg := S.lg ++ [(kd, (X : Int), (Y : Int))], lf := 0 } :=
        hR2.re (S' := { S with lg := S.lg ++ [(kd, (X : Int), (Y : Int))], lf := 0 }) hk3 rfl rfl rfl rfl ⟨fun q => absurd rfl q, hR2.ht.2⟩ (by rw [hw3]; simp [World.setCell, Array.getElem?_modify, hR2.hp])
      have hdd := hR3.hd X Y d hX hd
      have htn : tn = S.tn := hR2.ht.1 (by show S.lf ≠ 0; omega)
      have hdb : d.b = fb21 S (X : Int) (Y : Int) := hdd.2.2.1
      have hdl : d.b.length = S.pg := by rw [hdb]; exact fb21_len hO _ _
      have htl : tn.length ≤ d.b.length := by rw [hdl, htn]; exact hO.tn
      have hpg := hO.pg
      have hmem : ∀ z ∈ d.b, 0 ≤ z ∧ z ≤ 255 := hdd.1.mem
      have hmet : ∀ z ∈ tn, 0 ≤ z ∧ z ≤ 255 := hR3.ht.2.1.mem
      obtain ⟨i0, hi, hz0, hz1, hz2⟩ := info_parts info_y21
      have hm0 : (w3.alloc (.cells #[] 5)).ownsRow w3.heap.size 5 1 (.slice (some ⟨w3.heap.size, 0, none⟩) 0 0) 0 [] := World.ownsRow_made w3 #[] 0 (Nat.le_refl _) (by decide) rfl
      have hb0 : Below w3.heap.size w3 (w3.alloc (.cells #[] 5)) := (Below.refl _ _).alloc (Nat.le_refl _) _
      have hs1 := hdd.1.alloc (.cells #[] 5)
      have p0 : (w3.alloc (.cells #[] 5)).cell? ⟨g X, Y * 3, none⟩ = some (.slice (some ⟨d.k, d.off, none⟩) d.b.length d.c) := ((hR3.old hb0).pgc hX hd).1
      have ca := hR3.car hX
      obtain ⟨NA, hNA⟩ : ∃ NA, NA = (A X).length := ⟨_, rfl⟩
      rw [← hNA] at ca
      have hXi : (X : Int) < 3 := by omega
      have hYi : (Y : Int) < (NA : Int) := by omega
      have HR3 : Hid (Rf21 w3 b g c A tn ta tc (some ⟨q, 0, none⟩) cap V { S with lg := S.lg ++ [(kd, (X : Int), (Y : Int))], lf := 0 }) := hR3
      have HW9 : Hid (∀ W : World, Below w3.heap.size w3 W → W.cell? ⟨b, 9, none⟩ = some (.slice ta tn.length tc) ∧ W.cell? ⟨b, 7, none⟩ = some (.bool (!S.on)) ∧ (∀ i, W.frozen? ⟨b, i, none⟩ = false) ∧ (∀ i, W.frozen? ⟨g X, i, none⟩ = false) ∧ W.cell? ⟨g X, Y * 3, none⟩ = some (.slice (some ⟨d.k, d.off, none⟩) d.b.length d.c) ∧ W.cell? ⟨g X, Y * 3 + 1, none⟩ = some (.bool d.er) ∧ Sl21 W V ta tn tc) := fun W hW => by
        have q := hR3.old hW
        exact ⟨q.cel (i := 9) rfl, q.cel (i := 7) rfl, q.fr, fun i => q.frg hX i, (q.pgc hX hd).1, (q.pgc hX hd).2.1, q.ht.2⟩
      have hbg : ¬ b = g X := hR3.bg hX
      have hgb : ¬ g X = b := fun e => hR3.bg hX e.symm
      have hlen : Hid (d.b.length = S.pg ∧ tn.length ≤ d.b.length ∧ tn = S.tn ∧ d.b = fb21 S (X : Int) (Y : Int)) := ⟨hdl, htl, htn, hdb⟩
      have HFIN : Hid (∀ (w6 : World) (q5 c1 : Nat) (cur : List Value), Below w3.heap.size w3 w6 → w3.heap.size ≤ q5 → w6.heap[q5]? = some (.cells cur.toArray 5 (0, 0)) → cur.take d.b.length = (tn ++ d.b.drop tn.length).map (Value.int .u8) → d.b.length ≤ c1 →
          Rn21 w ((((w6.setCell ⟨g X, Y * 3, none⟩ (.slice (some ⟨q5, 0, none⟩) d.b.length c1)).setCell ⟨g X, Y * 3 + 1, none⟩ (.bool false)).setCell ⟨b, 7, none⟩ (.bool true)).setCell ⟨b, 9, none⟩ (.slice none 0 0)) b G (cu21 S kd (X : Int) (Y : Int) (sh21 S (X : Int) (Y : Int)))) := fun w6 q5 c1 cur hb6 hq5 hh6 ht6 hc1 => by
        have hR3 := HR3.out
        have hql : q5 < w6.heap.size := (Array.getElem?_eq_some_iff.1 hh6).1
        have hR6 := hR3.new hb6 (fun k => k = q5) (fun k e => by subst e; exact ⟨hq5, hql⟩)
        have hl6 : (tn ++ d.b.drop tn.length).length = d.b.length := by simp; omega
        have hsg6 : Seg w6 (some ⟨q5, 0, none⟩) (tn ++ d.b.drop tn.length) := seg_take21 hh6 (by rw [hl6]; exact ht6) (fun z hz => by
          rcases List.mem_append.1 hz with e | e
          · exact hmet z e
          · exact hmem z (List.mem_of_mem_drop e))
        obtain ⟨X0, hX0⟩ := hR6.ha X hX
        have hk7 : Kp (fun k => k = g X) w6 ((w6.setCell ⟨g X, Y * 3, none⟩ (.slice (some ⟨q5, 0, none⟩) d.b.length c1)).setCell ⟨g X, Y * 3 + 1, none⟩ (.bool false)) := (Kp.set (S := fun k => k = g X) rfl _).trans (Kp.set (S := fun k => k = g X) rfl _) (fun _ _ e => e)
        have hgq : g X ≠ q5 := by have := hR3.gl hX; omega
        have hrow := pgrow21_two (w := w6) (d' := ⟨q5, 0, c1, tn ++ d.b.drop tn.length, false, d.wr⟩) hX0 hd rfl
        rw [show (⟨q5, 0, c1, tn ++ d.b.drop tn.length, false, d.wr⟩ : Pd21).b.length = d.b.length from hl6] at hrow
        have hR7 := hR6.page hX hY ⟨q5, 0, c1, tn ++ d.b.drop tn.length, false, d.wr⟩ ⟨la21 S.pg S.tn (sh21 S (X : Int) (Y : Int)).b, false, (sh21 S (X : Int) (Y : Int)).wr⟩ hk7 ⟨X0, hrow⟩ (hsg6.kp hk7 (fun b' o' e' _ => by cases e'; exact fun e => hgq e.symm)) (.inr rfl) (by
            show tn ++ d.b.drop tn.length = la21 S.pg S.tn _ ++ List.replicate (S.pg - (la21 S.pg S.tn _).length) 255
            rw [la21_len _ _ _ hO.tn (sh21_ok hO _ _).1, Nat.sub_self, List.replicate_zero, List.append_nil, ← la21_fb hO, htn, hdb]) rfl hdd.2.2.2.2.1 (by show (tn ++ d.b.drop tn.length).length ≤ c1; rw [hl6]; exact hc1)
        have hk8 : Kp (fun k => k = b) ((w6.setCell ⟨g X, Y * 3, none⟩ (.slice (some ⟨q5, 0, none⟩) d.b.length c1)).setCell ⟨g X, Y * 3 + 1, none⟩ (.bool false)) ((((w6.setCell ⟨g X, Y * 3, none⟩ (.slice (some ⟨q5, 0, none⟩) d.b.length c1)).setCell ⟨g X, Y * 3 + 1, none⟩ (.bool false)).setCell ⟨b, 7, none⟩ (.bool true)).setCell ⟨b, 9, none⟩ (.slice none 0 0)) := (Kp.set (S := fun k => k = b) rfl _).trans (Kp.set (S := fun k => k = b) rfl _) (fun _ _ e => e)
        have hR8 := hR7.re (S' := cu21 S kd (X : Int) (Y : Int) (sh21 S (X : Int) (Y : Int))) hk8 rfl rfl rfl rfl (tn' := []) (ta' := none) (tc' := 0) ⟨fun _ => rfl, SegK.nil (by decide) _ _, .inl rfl, fun _ => rfl, by simp⟩ (by
          have := hR7.hp
          simp only [World.setCell] at this ⊢
          simp [Array.getElem?_modify] at this ⊢
          simp [this, cu21])
        refine HEND.out _ _ _ _ _ _ _ hR8 rfl (fun k e => ?_) ?_
        · rcases e with e | e
          · exact .inl (HG.out.2.2.2.1 k e)
          · exact .inr (by rw [e]; exact Nat.le_trans hk3.size hq5)
        · refine (hk3.mono (S' := G) (fun i _ e => by subst e; exact HG.out.1)).trans ((Kp.of_below (S := G) hb6).trans ((hk7.mono (S' := G) (fun i _ e => by subst e; exact HG.out.2.1 X hX)).trans (hk8.mono (S' := G) (fun i _ e => by subst e; exact HG.out.1)) (fun _ _ e => e)) (fun _ _ e => e)) (fun _ _ e => e)
      generalize cu21 S kd (X : Int) (Y : Int) (sh21 S (X : Int) (Y : Int)) = S1 at HFIN ⊢
      obtain ⟨DL, hDL⟩ : ∃ DL, DL = d.b.length := ⟨_, rfl⟩
      obtain ⟨DB, hDB⟩ : ∃ DB, DB = d.b := ⟨_, rfl⟩
      rw [l1] at x8
      have hw0 : IntKind.i64.wrap (1 - 1) = 0 := by decide
      have hDpos : 0 < d.b.length := by omega
      have HMT : Hid (∀ z ∈ tn, 0 ≤ z ∧ z ≤ 255) := hmet
      have h140 : d.b.length ≤ 4096 := by omega
      clear HEND e hw2 hLN hw3 hk3 hR3 hR2 hdd htn hdb hdl htl hpg hmem hmet hb0 hDL hDB hd hY hNA hm
      go_enter Tryd.func97, Tryd.ntmps97
      go_upto_region 2 with (first
        | (at_builtin; refine wpList_apr21 rfl (.tmp 15) (.tmp 20) 105 rfl rfl rfl HAPP.out ?_))
      rw [HW2.out]
      go_upto_region 7 with fail
      rw [HW3.out]
      go_upto_region 9 with (first
        | (at_builtin; refine wpList_appS rfl (.tmp 49) (.tmp 53) 22 rfl w3.heap.size 5 i0 (.int .u8 0) 1 Tryd.underlying22 hi hz0 hz1 hz2 rfl hm0 hs1 (by intro h; cases h) rfl rfl (by omega) (by omega) (by simp) ?_; intro a1 c1 w5 hown5 hg5 hf5 hn5))
      have hb5 : Below w3.heap.size w3 w5 := ((Below.refl _ _).alloc (Nat.le_refl _) _).trans (below_own hm0 hg5 (by simp))
      rw [Nat.zero_add, List.nil_append] at hown5
      rcases hown5.2 with ⟨e1, e2⟩ | ⟨q5, cp5, cur5, hv5, hbq, hh5, hle5, hmx5, hsz5, htk5⟩
      · omega
      simp only [Value.slice.injEq] at hv5
      obtain ⟨rfl, -, rfl⟩ := hv5
      rw [Nat.mul_one] at hsz5 htk5
      obtain ⟨x9, x7, fb, fg, y0, y1, hsl⟩ := HW9.out w5 hb5
      have HH5 : Hid (w5.heap[q5]? = some (.cells cur5.toList.toArray 5 (0, 0))) := by show _ = _; rw [Array.toArray_toList]; exact hh5
      have HTK : Hid (cur5.toList.take d.b.length = d.b.map (Value.int .u8) ∧ d.b.length ≤ c1 ∧ cur5.size = c1) := ⟨htk5, hle5, hsz5⟩
      have HB5 : Hid (Below w3.heap.size w3 w5 ∧ w3.heap.size ≤ q5) := ⟨hb5, hbq⟩
      have HSL : Hid (Sl21 w5 V ta tn tc) := hsl
      clear hown5 hg5 hf5 hn5 hm0 hs1 hh5 htk5 hle5 hmx5 hsz5 hb5 hbq fb fg y0 y1 hsl
      have HNM : Hid ((tn.map (Value.int .u8)).length = Nat.min tn.length d.b.length) := by
        show _ = _
        have := hlen.out.2.1
        rw [List.length_map]; exact (Nat.min_eq_left this).symm
      have HPS : Hid (0 < (tn.map (Value.int .u8)).length → (some ⟨q5, 0, none⟩ : Option Addr) = some ⟨q5, 0, none⟩ ∧ ∃ ad, ta = some ad ∧ ∀ j v, (tn.map (Value.int .u8))[j]? = some v → w5.cell? (ad.add j) = some v) := fun hp => ⟨rfl, by
        obtain ⟨b', o', e', _⟩ := HSL.out.1.at_ 0 (by simpa using hp)
        exact ⟨⟨b', o', none⟩, e', seg_cells (e' ▸ HSL.out.1)⟩⟩
      have HFT : Hid (0 + (tn.map (Value.int .u8)).length ≤ cur5.toList.length) := by
        show _ ≤ _
        have h1 := hlen.out.2.1
        have h2 := HTK.out
        simp; omega
      go_upto_region 10 with (first
        | (refine wpList_copy_splice rfl (.tmp 55) (.tmp 59) 22 22 rfl 5 Tryd.underlying22 size_y21 (some ⟨q5, 0, none⟩) ta d.b.length c1 tn.length tc rfl rfl q5 0 cur5.toList 5 HH5.out (tn.map (Value.int .u8)) HNM.out HPS.out HFT.out (ints_oneCell _ _) w3.heap.size w3 HB5.out.1 HB5.out.2 ?_; intro w6 h6 b6))
      obtain ⟨z9, z7, fb, fg, y0, y1, hsl⟩ := HW9.out w6 b6
      have fb7 := fb 7
      have fb9 := fb 9
      have fg0 := fg (Y * 3)
      have fg1 := fg (Y * 3 + 1)
      have HF := HFIN.out w6 q5 c1 _ b6 HB5.out.2 h6.out (splice_take21 _ _ _ HTK.out.1 hlen.out.2.1) HTK.out.2.1
      have HFF : Hid (Rn21 w ((((w6.setCell ⟨g X, Y * 3, none⟩ (.slice (some ⟨q5, 0, none⟩) d.b.length c1)).setCell ⟨g X, Y * 3 + 1, none⟩ (.bool false)).setCell ⟨b, 7, none⟩ (.bool true)).setCell ⟨b, 9, none⟩ (.slice none 0 0)) b G S1) := HF
      clear HF fb fg hsl
      go_wp2_with fail
      go_ret
      exact ⟨rfl, HFF.out⟩
    · rw [if_neg l1]
      have e : decide (S.lf = 1) = false := by simp [l1]
      rw [e]
      obtain ⟨M, hM⟩ : ∃ M, M = S.lf - 1 := ⟨_, rfl⟩
      have hMw : IntKind.i64.wrap (S.lf - 1) = M := by rw [IntWalk.i64_in _ (by omega), hM]
      have hM0 : 0 < M := by omega
      have hl0' : (S.lf == 0) = false := by simp [l0]
      have HFIN : Hid (Rn21 w (w2.setCell ⟨b, 8, none⟩ (.int .i64 M)) b G { S with lg := S.lg ++ [(kd, (X : Int), (Y : Int))], lf := max 0 (S.lf - 1) }) := by
        have hk : Kp (fun k => k = b) w2 (w2.setCell ⟨b, 8, none⟩ (.int .i64 M)) := Kp.set (S := fun k => k = b) rfl _
        have hmx : max 0 (S.lf - 1) = M := by omega
        have hR := HR2.out
        refine HEND.out _ _ tn ta tc A V ?_ rfl (fun k e => .inl (HG.out.2.2.2.1 k e)) (hk.mono (fun i _ e => by subst e; exact HG.out.1))
        rw [hmx]
        exact hR.re (S' := { S with lg := S.lg ++ [(kd, (X : Int), (Y : Int))], lf := M }) hk rfl rfl rfl rfl ⟨fun _ => hR.ht.1 l0, hR.ht.2⟩ (by simp [World.setCell, Array.getElem?_modify, hR.hp])
      generalize ({ S with lg := S.lg ++ [(kd, (X : Int), (Y : Int))], lf := max 0 (S.lf - 1) } : Fs21) = S1 at HFIN ⊢
      obtain ⟨LF, hLF⟩ : ∃ LF, LF = S.lf := ⟨_, rfl⟩
      rw [← hLF] at x8 hMw hl0'
      clear HEND e hw2 hLN hM hLF
      go_enter Tryd.func97, Tryd.ntmps97
      go_upto_region 2 with (first
        | (at_builtin; refine wpList_apr21 rfl (.tmp 15) (.tmp 20) 105 rfl rfl rfl HAPP.out ?_))
      rw [HW2.out]
      go_wp2_with fail
      go_ret
      exact ⟨rfl, HFIN.out⟩
end Go.Proofs.YtmjlpfmacblcpaaDoor

namespace Go.Proofs.YtmjlpfmacblcpaaDoor
open Go.RowKit Go.Shelf
set_option linter.unusedVariables false
set_option linter.unusedSimpArgs false
theorem up21_up21 (pa : Int → Int → Option Sh21) (x y : Int) (s t : Sh21) : up21 (up21 pa x y s) x y t = up21 pa x y t := by
  funext a b
  unfold up21
  split <;> rfl
def wu21 (S : Fs21) (x y : Int) : Fs21 := { S with pa := up21 S.pa x y ⟨(sh21 S x y).b, (sh21 S x y).er, (sh21 S x y).wr + 1⟩ }
theorem ok21_wu {S : Fs21} (h : Ok21 S) (x y : Int) (hw : (sh21 S x y).wr < 1099511627776) : Ok21 (wu21 S x y) := by
  have h1 := sh21_ok h x y
  refine ⟨h.pg, h.ps, h.ac, h.lm, h.lf, h.tn, ok21_up h x y _ ⟨h1.1, by show 0 ≤ (sh21 S x y).wr + 1; omega, by show (sh21 S x y).wr + 1 ≤ _; omega, ?_⟩⟩
  show (sh21 S x y).er = true → (sh21 S x y).b = []
  unfold sh21
  cases e : S.pa x y with
  | none => simp
  | some s => exact (h.sh x y s e).2.2.2
theorem sh21_wu (S : Fs21) (x y : Int) : sh21 (wu21 S x y) x y = ⟨(sh21 S x y).b, (sh21 S x y).er, (sh21 S x y).wr + 1⟩ := by
  unfold wu21; rw [sh21_up]; simp
theorem wu21_cut (S : Fs21) (kd x y : Int) (h : S.lf = 1) : dnS21 (wu21 S x y) kd x y = rn21 S kd x y ⟨[], true, (sh21 S x y).wr + 1⟩ := by
  unfold dnS21 rn21
  rw [if_pos (show (wu21 S x y).lf = 1 from h), if_pos h]
  unfold cu21
  rw [sh21_wu]
  simp only [wu21, up21_up21]
theorem wu21_go (S : Fs21) (kd x y : Int) (s : Sh21) (h : ¬ S.lf = 1) : { dnS21 (wu21 S x y) kd x y with pa := up21 (dnS21 (wu21 S x y) kd x y).pa x y s } = rn21 S kd x y s := by
  unfold dnS21 rn21
  rw [if_neg (show ¬ (wu21 S x y).lf = 1 from h), if_neg h]
  unfold go21
  simp only [wu21, up21_up21]
set_option maxRecDepth 100000 in
set_option maxHeartbeats 16000000 in
theorem rers21 {w : World} {b : Nat} {G : Nat → Prop} {S : Fs21} (h : Rl21d w b G S) (hO : Ok21 S) (x y : Int) (hx : In21 x) (hy : In21 y) (hlg : S.lg.length ≤ 5500000001000) :
    Calls Tryd.prog 53 #[.pointer (some ⟨b, 0, none⟩), .int .i64 x, .int .i64 y] w fun e w' => e = .returned (.int .i64 (erE21 S x y)) ∧ Rn21 w w' b G (erS21 S x y) := by
  have HL : Hid (Rl21d w b G S) := h
  have HIS := ris21 h x y hx hy
  obtain ⟨g, c, A, tn, ta, tc, la, lc, V, h1, h2, h3, h4, h5, h6⟩ := h
  have c7 : w.cell? ⟨b, 7, none⟩ = some (.bool (!S.on)) := h1.cel rfl
  have c10 : w.cell? ⟨b, 10, none⟩ = some (.int .i64 S.lm) := h1.cel rfl
  have hE : Hid (erE21 S x y = if rf21 S.on S.ps x y ≠ 0 then rf21 S.on S.ps x y else if wo21 S x y then 214 else rc21 S) := rfl
  have hS : Hid (erS21 S x y = if rf21 S.on S.ps x y ≠ 0 then S else if wo21 S x y then S else rn21 S 1 x y ⟨[], true, (sh21 S x y).wr + 1⟩) := rfl
  rw [hE.out, hS.out]
  clear hE hS
  have HR : Hid (Rf21 w b g c A tn ta tc la lc V S ∧ G b ∧ (∀ x, x < 3 → G (g x)) ∧ (∀ k, (Value.slice la S.lg.length lc).ownBlock = some k → G k) ∧ (∀ k, V k → G k) ∧ (∀ k, G k → k < w.heap.size)) := ⟨h1, h2, h3, h4, h5, h6⟩
  clear h2 h3 h4 h5 h6
  by_cases hon : S.on = false
  · have hrf : rf21 S.on S.ps x y = 213 := by rw [hon]; rfl
    rw [hrf, if_pos (by decide), if_pos (by decide)]
    rw [hon] at c7
    replace c7 : w.cell? ⟨b, 7, none⟩ = some (.bool true) := c7
    clear h1 hrf HIS
    go_enter Tryd.func53, Tryd.ntmps53
    go_wp2_with fail
    go_ret
    exact ⟨rfl, HL.out.stay (Below.refl _ _)⟩
  have hon' : S.on = true := by simpa using hon
  rw [hon'] at c7
  replace c7 : w.cell? ⟨b, 7, none⟩ = some (.bool false) := c7
  have hrf : rf21 S.on S.ps x y = ms21 S.ps x y := by rw [hon']; rfl
  rw [hrf]
  clear hrf
  by_cases hms : ¬ ms21 S.ps x y = 0
  · have h211 : ms21 S.ps x y = 211 := by unfold ms21 at hms ⊢; split <;> simp_all
    rw [h211, if_pos (by decide), if_pos (by decide)]
    have e : decide (ms21 S.ps x y = 0) = false := by simp [hms]
    rw [e] at HIS
    clear h1 e hms h211
    go_enter Tryd.func53, Tryd.ntmps53
    go_wp2_with fail
    refine HIS.mono ?_
    rintro e w1 ⟨rfl, hw⟩
    subst w1
    go_wp2_with fail
    go_ret
    exact ⟨rfl, HL.out.stay (Below.refl _ _)⟩
  replace hms : ms21 S.ps x y = 0 := by omega
  have hnn : ¬ (ms21 S.ps x y ≠ 0) := by rw [hms]; simp
  rw [if_neg hnn, if_neg hnn]
  clear hnn
  have e0 : decide (ms21 S.ps x y = 0) = true := by simp [hms]
  rw [e0] at HIS
  obtain ⟨X, Y, d, rfl, rfl, hX, hY, hd⟩ := h1.at hms
  have hdd := h1.hd X Y d hX hd
  have hwr : d.wr = (sh21 S (X : Int) (Y : Int)).wr := hdd.2.2.2.2.1
  obtain ⟨WR, hWR⟩ : ∃ WR, WR = d.wr := ⟨_, rfl⟩
  have hWR' : WR = (sh21 S (X : Int) (Y : Int)).wr := by rw [hWR, hwr]
  have hwo : Hid (wo21 S (X : Int) (Y : Int) = (decide (1099511627776 ≤ WR) || (decide (0 < S.lm) && decide (S.lm ≤ WR)))) := by show _ = _; rw [hWR']; rfl
  have ca := h1.car hX
  have p2 := (h1.pgc hX hd).2.2
  rw [← hWR] at p2
  obtain ⟨NA, hNA⟩ : ∃ NA, NA = (A X).length := ⟨_, rfl⟩
  rw [← hNA] at ca
  have hXi : (X : Int) < 3 := by omega
  have hYi : (Y : Int) < (NA : Int) := by omega
  have HWR : Hid (WR = d.wr ∧ WR = (sh21 S (X : Int) (Y : Int)).wr) := ⟨hWR, hWR'⟩
  have hok := sh21_ok hO (X : Int) (Y : Int)
  rw [← hWR'] at hok
  by_cases hW : wo21 S (X : Int) (Y : Int) = true
  · rw [if_pos hW, if_pos hW]
    rw [hwo.out] at hW
    clear h1 hdd hwr hWR hWR' hwo hNA hd hY
    by_cases w1 : 1099511627776 ≤ WR
    · clear hW
      go_enter Tryd.func53, Tryd.ntmps53
      go_wp2_with fail
      refine HIS.mono ?_
      rintro e w1 ⟨rfl, hw⟩
      subst w1
      go_wp2_with fail
      go_ret
      exact ⟨rfl, HL.out.stay (Below.refl _ _)⟩
    · have w2 : 0 < S.lm ∧ S.lm ≤ WR := by simpa [w1] using hW
      obtain ⟨w2, w3⟩ := w2
      clear hW
      go_enter Tryd.func53, Tryd.ntmps53
      go_wp2_with fail
      refine HIS.mono ?_
      rintro e w1 ⟨rfl, hw⟩
      subst w1
      go_wp2_with fail
      go_ret
      exact ⟨rfl, HL.out.stay (Below.refl _ _)⟩
  · rw [if_neg hW, if_neg hW]
    rw [hwo.out] at hW
    have w1 : ¬ 1099511627776 ≤ WR := fun e => hW (by simp [e])
    have w2 : ¬ (0 < S.lm ∧ S.lm ≤ WR) := fun e => hW (by simp [e.1, e.2])
    have hadd : IntKind.i64.wrap (WR + 1) = WR + 1 := IntWalk.i64_in _ (by omega)
    obtain ⟨w3, hw3⟩ : ∃ w3, w3 = w.setCell ⟨g X, Y * 3 + 2, none⟩ (.int .i64 (WR + 1)) := ⟨_, rfl⟩
    have HW3 : Hid (w.setCell ⟨g X, Y * 3 + 2, none⟩ (.int .i64 (WR + 1)) = w3) := hw3.symm
    have hk3 : Kp (fun k => k = g X) w w3 := by rw [hw3]; exact Kp.set (S := fun k => k = g X) rfl _
    have fg := h1.frg hX (Y * 3 + 2)
    obtain ⟨X0, hX0⟩ := h1.ha X hX
    have hL3 : Rl21d w3 b G (wu21 S (X : Int) (Y : Int)) := by
      obtain ⟨_, h2, h3, h4, h5, h6⟩ := HR.out
      refine ⟨g, c, ad21 A X Y { d with wr := WR + 1 }, tn, ta, tc, la, lc, V, ?_, h2, h3, h4, h5, fun k e => Nat.lt_of_lt_of_le (h6 k e) hk3.size⟩
      refine h1.page hX hY { d with wr := WR + 1 } _ hk3 ⟨X0, by rw [hw3]; exact pgrow21_one hX0 hd _⟩ (hdd.1.kp hk3 (fun b' o' e' _ => by cases e'; exact fun e => h1.vg X hX (e ▸ hdd.2.1))) hdd.2.1 hdd.2.2.1 hdd.2.2.2.1 (by show WR + 1 = _; rw [hWR']) hdd.2.2.2.2.2
    have HK3 : Hid (Kp G w w3) := hk3.mono (fun i _ e => by subst e; exact HR.out.2.2.1 X hX)
    have hO3 := ok21_wu hO (X : Int) (Y : Int) (by rw [← hWR']; omega)
    have hDN := rdon21 hL3 hO3 1 X Y hms hlg
    have HLF : Hid ((wu21 S (X : Int) (Y : Int)).lf = S.lf) := rfl
    rw [HLF.out] at hDN
    have HFLN : Hid (∀ w4 : World, Rn21 w3 w4 b G (dnS21 (wu21 S (X : Int) (Y : Int)) 1 (X : Int) (Y : Int)) → Rn21 w w4 b G (dnS21 (wu21 S (X : Int) (Y : Int)) 1 (X : Int) (Y : Int))) := fun w4 hn => Rn21.cons (fun k e => .inl e) HK3.out hn
    clear h1 hdd hwr hwo hW hk3 hL3 hw3 hX0
    by_cases hlf : S.lf = 1
    · have e1 : decide (S.lf = 1) = true := by simp [hlf]
      rw [e1] at hDN
      have hcut := wu21_cut S 1 (X : Int) (Y : Int) hlf
      have hrc : rc21 S = 213 := by unfold rc21; rw [if_pos hlf]
      rw [hrc, ← hcut]
      generalize dnS21 (wu21 S (X : Int) (Y : Int)) 1 (X : Int) (Y : Int) = S1 at hDN HFLN ⊢
      clear hcut hrc e1 hWR hWR' hNA hd hY
      by_cases w2a : 0 < S.lm
      all_goals
        (try (have w2b : ¬ S.lm ≤ WR := fun e => w2 ⟨w2a, e⟩))
        go_enter Tryd.func53, Tryd.ntmps53
        go_wp2_with fail
        refine HIS.mono ?_
        rintro e w1 ⟨rfl, hw⟩
        subst w1
        go_upto_region 9 with fail
        rw [HW3.out]
        go_wp2_with fail
        refine hDN.mono ?_
        rintro e w4 ⟨rfl, hn4⟩
        have HN4 := HFLN.out w4 hn4
        have HN4' : Hid (Rn21 w w4 b G S1) := HN4
        clear hn4 HN4
        go_wp2_with fail
        go_ret
        exact ⟨rfl, HN4'.out⟩
    · have e1 : decide (S.lf = 1) = false := by simp [hlf]
      rw [e1] at hDN
      have hgo := wu21_go S 1 (X : Int) (Y : Int) ⟨[], true, (sh21 S (X : Int) (Y : Int)).wr + 1⟩ hlf
      have hrc : rc21 S = 0 := by unfold rc21; rw [if_neg hlf]
      have hms1 : ms21 (dnS21 (wu21 S (X : Int) (Y : Int)) 1 (X : Int) (Y : Int)).ps (X : Int) (Y : Int) = 0 := by
        have : (dnS21 (wu21 S (X : Int) (Y : Int)) 1 (X : Int) (Y : Int)).ps = S.ps := by unfold dnS21; split <;> rfl
        rw [this]; exact hms
      have hpg1 : (dnS21 (wu21 S (X : Int) (Y : Int)) 1 (X : Int) (Y : Int)).pg = S.pg := by unfold dnS21; split <;> rfl
      rw [hrc, ← hgo, ← hWR']
      generalize dnS21 (wu21 S (X : Int) (Y : Int)) 1 (X : Int) (Y : Int) = S1 at hDN HFLN hms1 hpg1 ⊢
      have HG : Hid (ms21 S1.ps (X : Int) (Y : Int) = 0 ∧ S1.pg = S.pg ∧ 64 ≤ S.pg ∧ S.pg ≤ 4096) := ⟨hms1, hpg1, hO.pg.1, hO.pg.2⟩
      obtain ⟨S2, hS2⟩ : ∃ S2 : Fs21, S2 = { S1 with pa := up21 S1.pa (X : Int) (Y : Int) ⟨[], true, WR + 1⟩ } := ⟨_, rfl⟩
      rw [← hS2]
      have HS2 : Hid (S2 = { S1 with pa := up21 S1.pa (X : Int) (Y : Int) ⟨[], true, WR + 1⟩ }) := hS2
      clear hgo hrc e1 hS2 hms1 hpg1 hWR hWR' hNA hd hY
      by_cases w2a : 0 < S.lm
      all_goals
        (try (have w2b : ¬ S.lm ≤ WR := fun e => w2 ⟨w2a, e⟩))
        go_enter Tryd.func53, Tryd.ntmps53
        go_wp2_with fail
        refine HIS.mono ?_
        rintro e w1 ⟨rfl, hw⟩
        subst w1
        go_upto_region 9 with fail
        rw [HW3.out]
        go_wp2_with fail
        refine hDN.mono ?_
        rintro e w4 ⟨rfl, hn4⟩
        obtain ⟨G4, ⟨g4, c4, A4, tn4, ta4, tc4, la4, lc4, V4, r4, q2, q3, q4, q5, q6⟩, f4, k4⟩ := hn4
        obtain ⟨X4, Y4, d4, eX4, eY4, hX4, hY4, hd4⟩ := r4.at HG.out.1
        obtain rfl : X = X4 := by omega
        obtain rfl : Y = Y4 := by omega
        clear eX4 eY4
        obtain ⟨PG, hPG⟩ : ∃ PG, PG = S1.pg := ⟨_, rfl⟩
        have hpgb : PG ≤ 16777216 := by rw [hPG, HG.out.2.1]; have := HG.out.2.2.2; omega
        have d0 : w4.drew.cell? ⟨b, 0, none⟩ = some (.int .i64 (PG : Int)) := by rw [hPG]; exact r4.cel (i := 0) rfl
        have da : w4.drew.cell? ⟨b, 3 + X, none⟩ = some (.slice (some ⟨g4 X, 0, none⟩) (A4 X).length (c4 X)) := r4.car hX4
        obtain ⟨NB, hNB⟩ : ∃ NB, NB = (A4 X).length := ⟨_, rfl⟩
        rw [← hNB] at da
        have hYb : (Y : Int) < (NB : Int) := by omega
        have HBK : Hid (Calls Tryd.prog 43 #[.int .i64 (PG : Int)] w4.drew fun e w' => Bk21 w4 w4.heap.size PG e w') := (rblk21 PG hpgb w4.drew).mono (fun e w' q => ⟨q.1, q.2.1, (Below.refl _ _).drew.trans (a := w4) q.2.2⟩)
        have hbg4 : ¬ b = g4 X := r4.bg hX4
        have hgb4 : ¬ g4 X = b := fun e => r4.bg hX4 e.symm
        have HC5 : Hid (∀ w5 : World, Below w4.heap.size w4 w5 → (w5.cell? ⟨b, 0, none⟩ = some (.int .i64 (PG : Int)) ∧ w5.cell? ⟨b, 3 + X, none⟩ = some (.slice (some ⟨g4 X, 0, none⟩) NB (c4 X))) ∧ (∀ i, w5.frozen? ⟨g4 X, i, none⟩ = false) ∧ w5.cell? ⟨g4 X, Y * 3, none⟩ = some (.slice (some ⟨d4.k, d4.off, none⟩) d4.b.length d4.c) ∧ w5.cell? ⟨g4 X, Y * 3 + 1, none⟩ = some (.bool d4.er) ∧ w5.cell? ⟨g4 X, Y * 3 + 2, none⟩ = some (.int .i64 d4.wr)) := fun w5 hb => by
          have q := r4.old hb
          refine ⟨⟨by rw [hPG]; exact q.cel (i := 0) rfl, by rw [hNB]; exact q.car hX4⟩, fun i => q.frg hX4 i, (q.pgc hX4 hd4).1, (q.pgc hX4 hd4).2.1, (q.pgc hX4 hd4).2.2⟩
        have HFIN : Hid (∀ w5 : World, Below w4.heap.size w4 w5 → w5.heap[w4.heap.size]? = some (.cells ((List.replicate PG (255 : Int)).map (Value.int .u8)).toArray 5 (0, 0)) → Rn21 w (((w5.setCell ⟨g4 X, Y * 3, none⟩ (.slice (some ⟨w4.heap.size, 0, none⟩) PG PG)).setCell ⟨g4 X, Y * 3 + 1, none⟩ (.bool true)).setCell ⟨g4 X, Y * 3 + 2, none⟩ (.int .i64 (WR + 1))) b G S2) := fun w5 hb hh => by
          have r5 := r4.new hb (fun k => k = w4.heap.size) (fun k e => by subst e; exact ⟨Nat.le_refl _, (Array.getElem?_eq_some_iff.1 hh).1⟩)
          obtain ⟨X1, hX1⟩ := r5.ha X hX4
          have hk7 : Kp (fun k => k = g4 X) w5 (((w5.setCell ⟨g4 X, Y * 3, none⟩ (.slice (some ⟨w4.heap.size, 0, none⟩) PG PG)).setCell ⟨g4 X, Y * 3 + 1, none⟩ (.bool true)).setCell ⟨g4 X, Y * 3 + 2, none⟩ (.int .i64 (WR + 1))) := ((Kp.set (S := fun k => k = g4 X) rfl _).trans (Kp.set (S := fun k => k = g4 X) rfl _) (fun _ _ e => e)).trans (Kp.set (S := fun k => k = g4 X) rfl _) (fun _ _ e => e)
          have hrow := pgrow21 (w := w5) (d' := ⟨w4.heap.size, 0, PG, List.replicate PG 255, true, WR + 1⟩) hX1 hd4
          rw [show (⟨w4.heap.size, 0, PG, List.replicate PG 255, true, WR + 1⟩ : Pd21).b.length = PG from List.length_replicate] at hrow
          have hgl := r4.gl hX4
          have hsg : Seg w5 (some ⟨w4.heap.size, 0, none⟩) (List.replicate PG 255) := seg_row21 hh (fun y hy => by rw [(List.mem_replicate.1 hy).2]; decide)
          have r7 := r5.page hX4 hY4 ⟨w4.heap.size, 0, PG, List.replicate PG 255, true, WR + 1⟩ ⟨[], true, WR + 1⟩ hk7 ⟨X1, hrow⟩ (hsg.kp hk7 (fun b' o' e' _ => by cases e'; show ¬ w4.heap.size = g4 X; omega)) (.inr rfl) (by show List.replicate PG 255 = [] ++ List.replicate (S1.pg - 0) 255; rw [hPG]; simp) rfl rfl (by simp)
          refine Rn21.cons (G1 := G4) (w1 := w4) (fun k e => by rcases f4 k e with q | q; (exact .inl q); (exact .inr (Nat.le_trans HK3.out.size q))) (HK3.out.trans k4 (fun _ _ e => e)) ?_
          rw [HS2.out]
          refine ⟨fun k => (G4 k ∨ w4.heap.size ≤ k) ∧ k < w5.heap.size, ⟨g4, c4, _, tn4, ta4, tc4, la4, lc4, _, r7, ⟨.inl q2, r5.bl⟩, fun x hx => ⟨.inl (q3 x hx), r5.gl hx⟩, fun k e => ⟨.inl (q4 k e), (r5.lo e).1⟩, fun k e => ⟨?_, r5.vs k e⟩, fun k e => ?_⟩, fun k e => e.1, ?_⟩
          · rcases e with e | e
            · exact .inl (q5 k e)
            · exact .inr (by rw [e]; exact Nat.le_refl _)
          · exact Nat.lt_of_lt_of_le e.2 hk7.size
          · exact (Kp.of_below hb).trans (hk7.mono (S' := G4) (fun i _ e => by subst e; exact q3 X hX4)) (fun _ _ e => e)
        clear r4 q2 q3 q4 q5 q6 f4 k4 hPG hNB hX4 hY4 hd4
        go_wp2_with fail
        go_region_held3 (fun V => V.cell? ⟨b, 0, none⟩ = some (.int .i64 (PG : Int)) ∧ V.cell? ⟨b, 3 + X, none⟩ = some (.slice (some ⟨g4 X, 0, none⟩) NB (c4 X))) (first | exact ⟨d0, da⟩ | exact k5 | go_keep)
          (first | (go_at_call 43; refine HBK.out.mono ?_; rintro e5 w5 ⟨rfl, hh5, hb5⟩; obtain ⟨k5, fg5, y0, y1, y2⟩ := HC5.out w5 hb5; have fy0 := fg5 (Y * 3); have fy1 := fg5 (Y * 3 + 1); have fy2 := fg5 (Y * 3 + 2); have HF5 := HFIN.out w5 hb5 hh5; have HF5' : Hid (Rn21 w (((w5.setCell ⟨g4 X, Y * 3, none⟩ (.slice (some ⟨w4.heap.size, 0, none⟩) PG PG)).setCell ⟨g4 X, Y * 3 + 1, none⟩ (.bool true)).setCell ⟨g4 X, Y * 3 + 2, none⟩ (.int .i64 (WR + 1))) b G S2) := HF5; clear HF5 hh5 hb5 fg5))
        go_wp2_with fail
        go_ret
        exact ⟨rfl, HF5'.out⟩
end Go.Proofs.YtmjlpfmacblcpaaDoor

namespace Go.Proofs.YtmjlpfmacblcpaaDoor
open Go.RowKit Go.Shelf
set_option linter.unusedVariables false
set_option linter.unusedSimpArgs false
theorem dn21_cut (S : Fs21) (kd x y : Int) (L : List Int) (h : S.lf = 1) : dnS21 S kd x y = rn21 S kd x y ⟨L, false, (sh21 S x y).wr⟩ := by
  unfold dnS21 rn21
  rw [if_pos h, if_pos h]
  rfl
theorem dn21_go (S : Fs21) (kd x y : Int) (s : Sh21) (h : ¬ S.lf = 1) : { dnS21 S kd x y with pa := up21 (dnS21 S kd x y).pa x y s } = rn21 S kd x y s := by
  unfold dnS21 rn21
  rw [if_neg h, if_neg h]
  rfl
set_option maxRecDepth 100000 in
set_option maxHeartbeats 16000000 in
theorem rprg21 {w : World} {b : Nat} {G : Nat → Prop} {S : Fs21} (h : Rl21d w b G S) (hO : Ok21 S) (x y : Int) (hx : In21 x) (hy : In21 y) (hlg : S.lg.length ≤ 5500000001000)
    (a : Option Addr) (L : List Int) (n cap : Nat) (hs : Seg w a L) (hn : Hid (L.length = n)) (hap : ∀ x off, a = some ⟨x, off, none⟩ → 0 < n → ¬ G x) :
    Calls Tryd.prog 54 #[.pointer (some ⟨b, 0, none⟩), .int .i64 x, .int .i64 y, .slice a n cap] w fun e w' => e = .returned (.int .i64 (pgE21 S x y n)) ∧ Rn21 w w' b G (pgS21 S x y L) := by
  have HL : Hid (Rl21d w b G S) := h
  have HIS := ris21 h x y hx hy
  obtain ⟨g, c, A, tn, ta, tc, la, lc, V, h1, h2, h3, h4, h5, h6⟩ := h
  have c7 : w.cell? ⟨b, 7, none⟩ = some (.bool (!S.on)) := h1.cel rfl
  have c0 : w.cell? ⟨b, 0, none⟩ = some (.int .i64 (S.pg : Int)) := h1.cel rfl
  have hE : Hid (pgE21 S x y n = if rf21 S.on S.ps x y ≠ 0 then rf21 S.on S.ps x y else if S.pg < n then 1 else if (sh21 S x y).er = false then 212 else rc21 S) := rfl
  have hS : Hid (pgS21 S x y L = if rf21 S.on S.ps x y ≠ 0 then S else if S.pg < n then S else if (sh21 S x y).er = false then S else rn21 S 2 x y ⟨L, false, (sh21 S x y).wr⟩) := by show _ = _; unfold pgS21; rw [hn.out]
  rw [hE.out, hS.out]
  clear hE hS
  clear h2 h3 h4 h5 h6
  by_cases hon : S.on = false
  · have hrf : rf21 S.on S.ps x y = 213 := by rw [hon]; rfl
    rw [hrf, if_pos (by decide), if_pos (by decide)]
    rw [hon] at c7
    replace c7 : w.cell? ⟨b, 7, none⟩ = some (.bool true) := c7
    clear h1 hrf HIS
    go_enter Tryd.func54, Tryd.ntmps54
    go_wp2_with fail
    go_ret
    exact ⟨rfl, HL.out.stay (Below.refl _ _)⟩
  have hon' : S.on = true := by simpa using hon
  rw [hon'] at c7
  replace c7 : w.cell? ⟨b, 7, none⟩ = some (.bool false) := c7
  have hrf : rf21 S.on S.ps x y = ms21 S.ps x y := by rw [hon']; rfl
  rw [hrf]
  clear hrf
  by_cases hms : ¬ ms21 S.ps x y = 0
  · have h211 : ms21 S.ps x y = 211 := by unfold ms21 at hms ⊢; split <;> simp_all
    rw [h211, if_pos (by decide), if_pos (by decide)]
    have e : decide (ms21 S.ps x y = 0) = false := by simp [hms]
    rw [e] at HIS
    clear h1 e hms h211
    go_enter Tryd.func54, Tryd.ntmps54
    go_wp2_with fail
    refine HIS.mono ?_
    rintro e w1 ⟨rfl, hw⟩
    subst w1
    go_wp2_with fail
    go_ret
    exact ⟨rfl, HL.out.stay (Below.refl _ _)⟩
  replace hms : ms21 S.ps x y = 0 := by omega
  have hnn : ¬ (ms21 S.ps x y ≠ 0) := by rw [hms]; simp
  rw [if_neg hnn, if_neg hnn]
  clear hnn
  have e0 : decide (ms21 S.ps x y = 0) = true := by simp [hms]
  rw [e0] at HIS
  clear e0
  by_cases hlen : S.pg < n
  · rw [if_pos hlen, if_pos hlen]
    have hli : (S.pg : Int) < (n : Int) := by omega
    clear h1 hs hap
    go_enter Tryd.func54, Tryd.ntmps54
    go_wp2_with fail
    refine HIS.mono ?_
    rintro e w1 ⟨rfl, hw⟩
    subst w1
    go_wp2_with fail
    go_ret
    exact ⟨rfl, HL.out.stay (Below.refl _ _)⟩
  rw [if_neg hlen, if_neg hlen]
  have hli : ¬ (S.pg : Int) < (n : Int) := by omega
  obtain ⟨X, Y, d, rfl, rfl, hX, hY, hd⟩ := h1.at hms
  have hdd := h1.hd X Y d hX hd
  have her : d.er = (sh21 S (X : Int) (Y : Int)).er := hdd.2.2.2.1
  have ca := h1.car hX
  have p1 := (h1.pgc hX hd).2.1
  obtain ⟨NA, hNA⟩ : ∃ NA, NA = (A X).length := ⟨_, rfl⟩
  rw [← hNA] at ca
  have hXi : (X : Int) < 3 := by omega
  have hYi : (Y : Int) < (NA : Int) := by omega
  rw [her] at p1
  by_cases hW : (sh21 S (X : Int) (Y : Int)).er = false
  · rw [if_pos hW, if_pos hW]
    rw [hW] at p1
    clear h1 hdd her hNA hd hY hW hs hap
    go_enter Tryd.func54, Tryd.ntmps54
    go_wp2_with fail
    refine HIS.mono ?_
    rintro e w1 ⟨rfl, hw⟩
    subst w1
    go_wp2_with fail
    go_ret
    exact ⟨rfl, HL.out.stay (Below.refl _ _)⟩
  · rw [if_neg hW, if_neg hW]
    have hW' : (sh21 S (X : Int) (Y : Int)).er = true := by simpa using hW
    rw [hW'] at p1
    have hDN := rdon21 HL.out hO 2 X Y hms hlg
    clear h1 hdd her hNA hd hY hW hW'
    by_cases hlf : S.lf = 1
    · have e1 : decide (S.lf = 1) = true := by simp [hlf]
      rw [e1] at hDN
      have hcut := dn21_cut S 2 (X : Int) (Y : Int) L hlf
      have hrc : rc21 S = 213 := by unfold rc21; rw [if_pos hlf]
      rw [hrc, ← hcut]
      generalize dnS21 S 2 (X : Int) (Y : Int) = S1 at hDN ⊢
      clear hcut hrc e1 hs hap
      go_enter Tryd.func54, Tryd.ntmps54
      go_wp2_with fail
      refine HIS.mono ?_
      rintro e w1 ⟨rfl, hw⟩
      subst w1
      go_wp2_with fail
      refine hDN.mono ?_
      rintro e w4 ⟨rfl, hn4⟩
      have HN4' : Hid (Rn21 w w4 b G S1) := hn4
      clear hn4
      go_wp2_with fail
      go_ret
      exact ⟨rfl, HN4'.out⟩
    · have e1 : decide (S.lf = 1) = false := by simp [hlf]
      rw [e1] at hDN
      have hgo := dn21_go S 2 (X : Int) (Y : Int) ⟨L, false, (sh21 S (X : Int) (Y : Int)).wr⟩ hlf
      have hrc : rc21 S = 0 := by unfold rc21; rw [if_neg hlf]
      have hms1 : ms21 (dnS21 S 2 (X : Int) (Y : Int)).ps (X : Int) (Y : Int) = 0 := by
        have : (dnS21 S 2 (X : Int) (Y : Int)).ps = S.ps := by unfold dnS21; split <;> rfl
        rw [this]; exact hms
      have hpg1 : (dnS21 S 2 (X : Int) (Y : Int)).pg = S.pg := by unfold dnS21; split <;> rfl
      have hsh1 : sh21 (dnS21 S 2 (X : Int) (Y : Int)) (X : Int) (Y : Int) = sh21 S (X : Int) (Y : Int) := by unfold dnS21; rw [if_neg hlf]; rfl
      rw [hrc, ← hgo, ← hsh1]
      generalize dnS21 S 2 (X : Int) (Y : Int) = S1 at hDN hms1 hpg1 ⊢
      have HG : Hid (ms21 S1.ps (X : Int) (Y : Int) = 0 ∧ S1.pg = S.pg ∧ 64 ≤ S.pg ∧ S.pg ≤ 4096 ∧ n ≤ S.pg) := ⟨hms1, hpg1, hO.pg.1, hO.pg.2, by omega⟩
      obtain ⟨S2, hS2⟩ : ∃ S2 : Fs21, S2 = { S1 with pa := up21 S1.pa (X : Int) (Y : Int) ⟨L, false, (sh21 S1 (X : Int) (Y : Int)).wr⟩ } := ⟨_, rfl⟩
      rw [← hS2]
      have HS2 : Hid (S2 = { S1 with pa := up21 S1.pa (X : Int) (Y : Int) ⟨L, false, (sh21 S1 (X : Int) (Y : Int)).wr⟩ }) := hS2
      have HSG : Hid (Seg w a L ∧ ∀ x off, a = some ⟨x, off, none⟩ → 0 < n → ¬ G x) := ⟨hs, hap⟩
      clear hgo hrc e1 hS2 hms1 hpg1 hsh1 hs hap
      go_enter Tryd.func54, Tryd.ntmps54
      go_wp2_with fail
      refine HIS.mono ?_
      rintro e w1 ⟨rfl, hw⟩
      subst w1
      go_wp2_with fail
      refine hDN.mono ?_
      rintro e w4 ⟨rfl, hn4⟩
      obtain ⟨G4, ⟨g4, c4, A4, tn4, ta4, tc4, la4, lc4, V4, r4, q2, q3, q4, q5, q6⟩, f4, k4⟩ := hn4
      obtain ⟨X4, Y4, d4, eX4, eY4, hX4, hY4, hd4⟩ := r4.at HG.out.1
      obtain rfl : X = X4 := by omega
      obtain rfl : Y = Y4 := by omega
      clear eX4 eY4
      obtain ⟨PG, hPG⟩ : ∃ PG, PG = S1.pg := ⟨_, rfl⟩
      have hpgb : PG ≤ 16777216 := by rw [hPG, HG.out.2.1]; have := HG.out.2.2.2.1; omega
      have hnPG : n ≤ PG := by rw [hPG, HG.out.2.1]; exact HG.out.2.2.2.2
      have d0 : w4.cell? ⟨b, 0, none⟩ = some (.int .i64 (PG : Int)) := by rw [hPG]; exact r4.cel (i := 0) rfl
      obtain ⟨NB, hNB⟩ : ∃ NB, NB = (A4 X).length := ⟨_, rfl⟩
      have hYb : (Y : Int) < (NB : Int) := by omega
      have HBK : Hid (Calls Tryd.prog 43 #[.int .i64 (PG : Int)] w4 fun e w' => Bk21 w4 w4.heap.size PG e w') := rblk21 PG hpgb w4
      have hseg4 : Seg w4 a L := HSG.out.1.kp k4 (fun b' o' e' hl => HSG.out.2 b' o' e' (by rw [← hn.out]; exact hl))
      obtain ⟨WR, hWR⟩ : ∃ WR, WR = d4.wr := ⟨_, rfl⟩
      have hwr4 : d4.wr = (sh21 S1 (X : Int) (Y : Int)).wr := (r4.hd X Y d4 hX4 hd4).2.2.2.2.1
      have HC5 : Hid (∀ w5 : World, Below w4.heap.size w4 w5 → (w5.cell? ⟨b, 3 + X, none⟩ = some (.slice (some ⟨g4 X, 0, none⟩) NB (c4 X)) ∧ w5.cell? ⟨g4 X, Y * 3 + 2, none⟩ = some (.int .i64 WR)) ∧ (∀ i, w5.frozen? ⟨g4 X, i, none⟩ = false) ∧ w5.cell? ⟨g4 X, Y * 3, none⟩ = some (.slice (some ⟨d4.k, d4.off, none⟩) d4.b.length d4.c) ∧ w5.cell? ⟨g4 X, Y * 3 + 1, none⟩ = some (.bool d4.er)) := fun w5 hb => by
        have q := r4.old hb
        refine ⟨⟨by rw [hNB]; exact q.car hX4, by rw [hWR]; exact (q.pgc hX4 hd4).2.2⟩, fun i => q.frg hX4 i, (q.pgc hX4 hd4).1, (q.pgc hX4 hd4).2.1⟩
      have HFIN : Hid (∀ w5 : World, Below w4.heap.size w4 w5 → w5.heap[w4.heap.size]? = some (.cells ((sp21 (List.replicate PG (255 : Int)) 0 L).map (Value.int .u8)).toArray 5 (0, 0)) → Rn21 w (((w5.setCell ⟨g4 X, Y * 3, none⟩ (.slice (some ⟨w4.heap.size, 0, none⟩) PG PG)).setCell ⟨g4 X, Y * 3 + 1, none⟩ (.bool false)).setCell ⟨g4 X, Y * 3 + 2, none⟩ (.int .i64 WR)) b G S2) := fun w5 hb hh => by
        have hll : (sp21 (List.replicate PG (255 : Int)) 0 L).length = PG := by rw [sp21_len _ _ _ (by simp; have := hn.out; omega)]; simp
        have hsp : sp21 (List.replicate PG (255 : Int)) 0 L = L ++ List.replicate (PG - L.length) 255 := by unfold sp21; simp
        have r5 := r4.new hb (fun k => k = w4.heap.size) (fun k e => by subst e; exact ⟨Nat.le_refl _, (Array.getElem?_eq_some_iff.1 hh).1⟩)
        obtain ⟨X1, hX1⟩ := r5.ha X hX4
        have hk7 : Kp (fun k => k = g4 X) w5 (((w5.setCell ⟨g4 X, Y * 3, none⟩ (.slice (some ⟨w4.heap.size, 0, none⟩) PG PG)).setCell ⟨g4 X, Y * 3 + 1, none⟩ (.bool false)).setCell ⟨g4 X, Y * 3 + 2, none⟩ (.int .i64 WR)) := ((Kp.set (S := fun k => k = g4 X) rfl _).trans (Kp.set (S := fun k => k = g4 X) rfl _) (fun _ _ e => e)).trans (Kp.set (S := fun k => k = g4 X) rfl _) (fun _ _ e => e)
        have hrow := pgrow21 (w := w5) (d' := ⟨w4.heap.size, 0, PG, sp21 (List.replicate PG 255) 0 L, false, WR⟩) hX1 hd4
        rw [show (⟨w4.heap.size, 0, PG, sp21 (List.replicate PG 255) 0 L, false, WR⟩ : Pd21).b.length = PG from hll] at hrow
        have hgl := r4.gl hX4
        have hsg : Seg w5 (some ⟨w4.heap.size, 0, none⟩) (sp21 (List.replicate PG 255) 0 L) := seg_row21 hh (fun y hy => by
          rw [hsp] at hy
          rcases List.mem_append.1 hy with e | e
          · exact hseg4.mem y e
          · rw [(List.mem_replicate.1 e).2]; decide)
        have r7 := r5.page hX4 hY4 ⟨w4.heap.size, 0, PG, sp21 (List.replicate PG 255) 0 L, false, WR⟩ ⟨L, false, (sh21 S1 (X : Int) (Y : Int)).wr⟩ hk7 ⟨X1, hrow⟩ (hsg.kp hk7 (fun b' o' e' _ => by cases e'; show ¬ w4.heap.size = g4 X; omega)) (.inr rfl) (by show sp21 _ 0 L = L ++ List.replicate (S1.pg - L.length) 255; rw [hsp, hPG]) rfl (by show WR = _; rw [hWR]; exact hwr4) (by show (sp21 _ 0 L).length ≤ PG; omega)
        refine Rn21.cons (G1 := G4) (w1 := w4) f4 k4 ?_
        rw [HS2.out]
        refine ⟨fun k => (G4 k ∨ w4.heap.size ≤ k) ∧ k < w5.heap.size, ⟨g4, c4, _, tn4, ta4, tc4, la4, lc4, _, r7, ⟨.inl q2, r5.bl⟩, fun x hx => ⟨.inl (q3 x hx), r5.gl hx⟩, fun k e => ⟨.inl (q4 k e), (r5.lo e).1⟩, fun k e => ⟨?_, r5.vs k e⟩, fun k e => ?_⟩, fun k e => e.1, ?_⟩
        · rcases e with e | e
          · exact .inl (q5 k e)
          · exact .inr (by rw [e]; exact Nat.le_refl _)
        · exact Nat.lt_of_lt_of_le e.2 hk7.size
        · exact (Kp.of_below hb).trans (hk7.mono (S' := G4) (fun i _ e => by subst e; exact q3 X hX4)) (fun _ _ e => e)
      have HKP : Hid (∀ w5 : World, Below w4.heap.size w4 w5 → (((w5.setCell ⟨g4 X, Y * 3, none⟩ (.slice (some ⟨w4.heap.size, 0, none⟩) PG PG)).setCell ⟨g4 X, Y * 3 + 1, none⟩ (.bool false)).setCell ⟨g4 X, Y * 3 + 2, none⟩ (.int .i64 WR)).cell? ⟨b, 3 + X, none⟩ = some (.slice (some ⟨g4 X, 0, none⟩) NB (c4 X)) ∧ (((w5.setCell ⟨g4 X, Y * 3, none⟩ (.slice (some ⟨w4.heap.size, 0, none⟩) PG PG)).setCell ⟨g4 X, Y * 3 + 1, none⟩ (.bool false)).setCell ⟨g4 X, Y * 3 + 2, none⟩ (.int .i64 WR)).cell? ⟨g4 X, Y * 3 + 2, none⟩ = some (.int .i64 WR)) := fun w5 hb => by
        have q := r4.old hb
        obtain ⟨X1, hX1⟩ := q.ha X hX4
        have hk7 : Kp (fun k => k = g4 X) w5 (((w5.setCell ⟨g4 X, Y * 3, none⟩ (.slice (some ⟨w4.heap.size, 0, none⟩) PG PG)).setCell ⟨g4 X, Y * 3 + 1, none⟩ (.bool false)).setCell ⟨g4 X, Y * 3 + 2, none⟩ (.int .i64 WR)) := ((Kp.set (S := fun k => k = g4 X) rfl _).trans (Kp.set (S := fun k => k = g4 X) rfl _) (fun _ _ e => e)).trans (Kp.set (S := fun k => k = g4 X) rfl _) (fun _ _ e => e)
        have hrow := pgrow21 (w := w5) (d' := ⟨w4.heap.size, 0, PG, List.replicate PG 255, false, WR⟩) hX1 hd4
        rw [show (⟨w4.heap.size, 0, PG, List.replicate PG 255, false, WR⟩ : Pd21).b.length = PG from List.length_replicate] at hrow
        constructor
        · rw [World.cell?_of_block (a := ⟨b, 3 + X, none⟩) (hk7.block b q.bl (q.bg hX4)), hNB]; exact q.car hX4
        · have hg := (pdl21_get ((A4 X).set Y ⟨w4.heap.size, 0, PG, List.replicate PG 255, false, WR⟩) Y ⟨w4.heap.size, 0, PG, List.replicate PG 255, false, WR⟩ (by simp [hY4])).2.2
          have hl := pdl21_len ((A4 X).set Y ⟨w4.heap.size, 0, PG, List.replicate PG 255, false, WR⟩)
          simp only [World.cell?, hrow, List.getElem?_toArray]
          rw [List.getElem?_append_left (by rw [hl]; simp; omega)]
          exact hg
      have HS4 : Hid (Seg w4 a L) := hseg4
      have hnM : n = Nat.min n PG := by show n = min n PG; omega
      have HNM : Hid (n = Nat.min n PG) := hnM
      have HFT : Hid (0 + n ≤ (List.replicate PG (255 : Int)).length) := by show _ ≤ _; simp; omega
      clear r4 q2 q3 q4 q5 q6 f4 k4 hPG hNB hX4 hY4 hd4 hseg4 hWR hwr4 hnM
      go_wp2_with fail
      refine HBK.out.mono ?_
      rintro e5 w5 ⟨rfl, hh5, hb5⟩
      have HH5 : Hid (w5.heap[w4.heap.size]? = some (.cells ((List.replicate PG (255 : Int)).map (Value.int .u8)).toArray 5 (0, 0))) := hh5
      have HB5 : Hid (Below w4.heap.size w4 w5) := hb5
      clear hh5 hb5
      go_upto_region 13 with (first
        | (refine wpList_copy21 rfl (.tmp 46) (.tmp 47) 22 22 rfl 5 Tryd.underlying22 size_y21 rfl rfl w4.heap.size 0 (List.replicate PG 255) 5 HH5.out L n hn.out HNM.out (fun _ => ⟨rfl, HS4.out.old HB5.out⟩) HFT.out ?_; intro w6 h6 k6))
      have hb6 : Below w4.heap.size w4 w6 := HB5.out.trans (k6.below (fun i e => by omega) HB5.out.size)
      obtain ⟨k5, fg5, y0, y1⟩ := HC5.out w6.drew hb6.drew
      have fy0 := fg5 (Y * 3)
      have fy1 := fg5 (Y * 3 + 1)
      have fy2 := fg5 (Y * 3 + 2)
      have HF5 := HFIN.out w6.drew hb6.drew h6.out
      have HF5' : Hid (Rn21 w (((w6.drew.setCell ⟨g4 X, Y * 3, none⟩ (.slice (some ⟨w4.heap.size, 0, none⟩) PG PG)).setCell ⟨g4 X, Y * 3 + 1, none⟩ (.bool false)).setCell ⟨g4 X, Y * 3 + 2, none⟩ (.int .i64 WR)) b G S2) := HF5
      obtain ⟨k5a, k5b⟩ := k5
      obtain ⟨⟨j5a, j5b⟩, jf, j0, j1⟩ := HC5.out w6 hb6
      have jf0 := jf (Y * 3)
      have jf1 := jf (Y * 3 + 1)
      have jf2 := jf (Y * 3 + 2)
      have kkp := HKP.out w6 hb6
      have HKK : Hid ((((w6.setCell ⟨g4 X, Y * 3, none⟩ (.slice (some ⟨w4.heap.size, 0, none⟩) PG PG)).setCell ⟨g4 X, Y * 3 + 1, none⟩ (.bool false)).setCell ⟨g4 X, Y * 3 + 2, none⟩ (.int .i64 WR)).cell? ⟨b, 3 + X, none⟩ = some (.slice (some ⟨g4 X, 0, none⟩) NB (c4 X)) ∧ (((w6.setCell ⟨g4 X, Y * 3, none⟩ (.slice (some ⟨w4.heap.size, 0, none⟩) PG PG)).setCell ⟨g4 X, Y * 3 + 1, none⟩ (.bool false)).setCell ⟨g4 X, Y * 3 + 2, none⟩ (.int .i64 WR)).cell? ⟨g4 X, Y * 3 + 2, none⟩ = some (.int .i64 WR)) := kkp
      clear HF5 hb6 fg5 k6 jf kkp
      go_wp2_with fail
      go_region_held3 (fun V => V.cell? ⟨b, 3 + X, none⟩ = some (.slice (some ⟨g4 X, 0, none⟩) NB (c4 X)) ∧ V.cell? ⟨g4 X, Y * 3 + 2, none⟩ = some (.int .i64 WR)) (first | exact ⟨k5a, k5b⟩ | exact HKK.out | go_keep) (fail)
      go_wp2_with fail
      go_ret
      exact ⟨rfl, HF5'.out⟩
end Go.Proofs.YtmjlpfmacblcpaaDoor

namespace Go.Proofs.YtmjlpfmacblcpaaDoor
open Go.RowKit Go.Shelf
set_option linter.unusedVariables false
set_option linter.unusedSimpArgs false
structure Rw22 (w : World) (u b : Nat) (ha : Option Addr) (hc : Nat) (P : Pw22) : Prop where
  hu : w.heap[u]? = some (.cells #[.pointer (some ⟨b, 0, none⟩), .int .i64 P.ar, .slice ha P.bf.length hc, .int .i64 (P.wn : Int), .int .i64 (P.pn : Int), .int .i64 (if P.cl = 221 then 0 else P.cl), .bool (decide (P.cl = 221))] 252 (0, 0))
  ow : w.ownsRow 0 5 1 (.slice ha P.bf.length hc) P.bf.length (P.bf.map (Value.int .u8))
  ne : ∀ k, (Value.slice ha P.bf.length hc).ownBlock = some k → k ≠ u
  bd : ∀ y ∈ P.bf, 0 ≤ y ∧ y ≤ 255
theorem Rw22.cel {w : World} {u b : Nat} {ha : Option Addr} {hc : Nat} {P : Pw22} (h : Rw22 w u b ha hc P) {i : Nat} {v : Value} (hi : (#[.pointer (some ⟨b, 0, none⟩), .int .i64 P.ar, .slice ha P.bf.length hc, .int .i64 (P.wn : Int), .int .i64 (P.pn : Int), .int .i64 (if P.cl = 221 then 0 else P.cl), .bool (decide (P.cl = 221))] : Array Value)[i]? = some v) : w.cell? ⟨u, i, none⟩ = some v := by
  simp only [World.cell?, h.hu]; exact hi
end Go.Proofs.YtmjlpfmacblcpaaDoor

namespace Go.Proofs.YtmjlpfmacblcpaaDoor
open Go.RowKit Go.Shelf
set_option linter.unusedVariables false
set_option linter.unusedSimpArgs false
structure Rh22 (w : World) (u b : Nat) (G H : Nat → Prop) (ha : Option Addr) (hc : Nat) (S : Fs21) (P : Pw22) : Prop where
  fl : Rl21d w b G S
  wr : Rw22 w u b ha hc P
  nu : ¬ G u
  nh : ∀ k, (Value.slice ha P.bf.length hc).ownBlock = some k → ¬ G k
  gH : ∀ k, G k → H k
  uH : H u
  hH : ∀ k, (Value.slice ha P.bf.length hc).ownBlock = some k → H k
  lt : ∀ k, H k → k < w.heap.size
def Re22 (w : World) (u b : Nat) (H : Nat → Prop) (S : Fs21) (P : Pw22) : Prop := ∃ G ha hc, Rh22 w u b G H ha hc S P
def Ren22 (w w' : World) (u b : Nat) (H : Nat → Prop) (S' : Fs21) (P' : Pw22) : Prop := ∃ H', Re22 w' u b H' S' P' ∧ (∀ k, H' k → H k ∨ w.heap.size ≤ k) ∧ Kp H w w'
section
variable {w w' : World} {u b : Nat} {G H : Nat → Prop} {ha : Option Addr} {hc : Nat} {S S' : Fs21} {P P' : Pw22}
theorem Rw22.kp (h : Rw22 w u b ha hc P) (h1 : w'.heap[u]? = w.heap[u]?) (h2 : ∀ k, (Value.slice ha P.bf.length hc).ownBlock = some k → w'.heap[k]? = w.heap[k]?) : Rw22 w' u b ha hc P := by
  refine ⟨h1.trans h.hu, ⟨h.ow.1, ?_⟩, h.ne, h.bd⟩
  rcases h.ow.2 with q | ⟨q, cap, cur, q1, q2, q3, q4⟩
  · exact .inl q
  · exact .inr ⟨q, cap, cur, q1, q2, (h2 q (by rw [q1]; rfl)).trans q3, q4⟩
theorem Rw22.seg (h : Rw22 w u b ha hc P) : Seg w ha P.bf := by
  obtain ⟨-, a, cap, e, hs, -⟩ := own_seg h.ow (M := 255) (by decide) h.bd
  cases e
  exact hs
/-- What a call of the document's flash leaves of a writer over it. -/
theorem Rh22.flash (h : Rh22 w u b G H ha hc S P) (hn : Rn21 w w' b G S') : ∃ G' H', Rh22 w' u b G' H' ha hc S' P ∧ (∀ k, H' k → H k ∨ w.heap.size ≤ k) ∧ Kp H w w' := by
  obtain ⟨G', g1, g2, g3⟩ := hn
  have hul := h.lt u h.uH
  refine ⟨G', fun k => G' k ∨ k = u ∨ (Value.slice ha P.bf.length hc).ownBlock = some k, ⟨g1, h.wr.kp (g3.block u hul h.nu) (fun k e => g3.block k (h.lt k (h.hH k e)) (h.nh k e)), ?_, fun k e q => ?_, fun k e => .inl e, .inr (.inl rfl), fun k e => .inr (.inr e), ?_⟩, ?_, g3.mono (fun i _ e => h.gH i e)⟩
  · intro q
    rcases g2 u q with q | q
    · exact h.nu q
    · omega
  · rcases g2 k q with q | q
    · exact h.nh k e q
    · have := h.lt k (h.hH k e); omega
  · rintro k (e | rfl | e)
    · exact g1.lts k e
    · exact Nat.lt_of_lt_of_le hul g3.size
    · exact Nat.lt_of_lt_of_le (h.lt k (h.hH k e)) g3.size
  · rintro k (e | rfl | e)
    · rcases g2 k e with q | q
      · exact .inl (h.gH k q)
      · exact .inr q
    · exact .inl h.uH
    · exact .inl (h.hH k e)
end
end Go.Proofs.YtmjlpfmacblcpaaDoor
