import Derived.Test.YtmjlpfmacblcpaaDoorPt
import Derived.Test.YtmjlpfmacblcpaaDoorPp
import Derived.Test.YtmjlpfmacblcpaaDoorPs
import Derived.Deep.CutRange
import Derived.Deep.CutBlock
namespace Go.Proofs.YtmjlpfmacblcpaaDoor
open Go.RowKit Go.Shelf
set_option linter.unusedVariables false
set_option linter.unusedSimpArgs false
theorem Fl21.lts25 {w : World} {b : Nat} {F : Nat → Prop} {S : Fs21} (h : Fl21 w b F S) : ∀ k, F k → k < w.heap.size := by
  obtain ⟨m, c, f, ta, tc, la, lc, W, _, _, _, _, _, h6⟩ := h
  exact h6
theorem rd_err25 (S : Fs21) : ((rd25 S).2.2 = 0 ∨ ((rd25 S).2.2 = 251 ∧ (rd25 S).2.1 = 0) ∨ (rd25 S).2.2 = 213) := by
  unfold rd25 nr25
  split
  · exact .inr (.inr rfl)
  · split
    · split
      · exact .inr (.inl ⟨rfl, rfl⟩)
      · exact .inl rfl
    · split
      · exact .inr (.inl ⟨rfl, rfl⟩)
      · exact .inl rfl
theorem fn_row25 {w w6 V : World} {f : Nat} {F F1 : Nat → Prop} {S : Fs21} {b : Nat} (hb6 : Below w.heap.size w w6) (h1 : Fl21 V f F1 S) (h2 : ∀ k, F1 k → F k ∨ w6.heap.size ≤ k) (h3 : Kp F w6 V) (hb : w.heap.size ≤ b) (hb' : b < w6.heap.size) (hF : ∀ k, F k → k < w.heap.size) (cs : Array Value) : Fn21 w (V.setRow b cs) f F S := by
  have hk := kp_row25 V b cs
  have h6 := hb6.size
  have hn : ¬ F1 b := fun e => by
    rcases h2 b e with q | q
    · have := hF b q; omega
    · omega
  refine ⟨F1, h1.kp (fun k e => hk.block k (Fl21.lts25 h1 k e) (fun q => hn (by have q' : k = b := q; rw [← q']; exact e))) hk.size, fun k e => ?_, ?_⟩
  · rcases h2 k e with q | q
    · exact .inl q
    · exact .inr (by omega)
  · exact ((Kp.of_below (S := F) hb6).trans h3 (fun k _ e => e)).trans hk (fun k hl e => by have e' : k = b := e; omega)
theorem by25_bd (r : Rc25) : ∀ z ∈ by25 r, 0 ≤ z ∧ z ≤ 255 := fun z hz => by
  unfold by25 at hz
  rcases List.mem_append.1 hz with h | h
  · exact be25_bd r 10 z h
  · exact sm21_bd _ z h
def tp25 (S : Fs21) : Nat := if (rd25 S).2.2 = 0 then 1 - (rd25 S).2.1 else 0
theorem tp25_le (S : Fs21) : tp25 S ≤ 1 := by unfold tp25; split <;> omega
section
variable {w : World} {f : Nat} {F : Nat → Prop} {S : Fs21}
set_option maxRecDepth 100000 in
set_option maxHeartbeats 16000000 in
theorem pwrite25 (hF : Fl21 w f F S) (hO : Ok21 S) (ht : Tab w) (hpg : S.pg = 64) (hps : S.ps = 1) (r : Rc25) (hw : r.wd) (hlg : S.lg.length ≤ 5500000000000) : Calls Tryd.prog 23 #[.pointer (some ⟨f, 0, none⟩), .agg r.cs] w fun e w' => e = .returned (.tuple #[.agg (wr25 S r).1.cs, .int .i64 (wr25 S r).2.1]) ∧ Fn21 w w' f F (wr25 S r).2.2 := by
  obtain ⟨w2, hw2⟩ : ∃ x, x = (w.alloc (.cells r.cs 63)).alloc (.cells #[.int .i64 0, .int .i64 0, .int .i64 0, .int .i64 0, .int .u32 0, .int .i64 0, .int .i64 0, .int .i64 0, .int .u32 0, .int .i64 0] 63) := ⟨_, rfl⟩
  have HW2 : Hid ((w.alloc (.cells r.cs 63)).alloc (.cells #[.int .i64 0, .int .i64 0, .int .i64 0, .int .i64 0, .int .u32 0, .int .i64 0, .int .i64 0, .int .i64 0, .int .u32 0, .int .i64 0] 63) = w2) := hw2.symm
  have b2 : Below w.heap.size w w2 := by rw [hw2]; exact ((Below.refl _ _).alloc (Nat.le_refl _) _).alloc (by simp) _
  have q1 : w2.heap[w.heap.size]? = some (.cells r.cs 63 (0, 0)) := by rw [hw2, heap_alloc_old _ _ (by simp)]; exact heap_alloc_new _ _
  have q2 : w2.heap[w.heap.size + 1]? = some (.cells zr25.cs 63 (0, 0)) := by rw [hw2]; exact heap_alloc2_new _ _ _
  have H2 : Hid (Below w.heap.size w w2 ∧ w2.heap[w.heap.size]? = some (.cells r.cs 63 (0, 0)) ∧ w2.heap[w.heap.size + 1]? = some (.cells zr25.cs 63 (0, 0))) := ⟨b2, q1, q2⟩
  have HRD := pread25 (hF.old b2) hO (ht.old b2) hpg hps
  have HQ := rd_q25 S
  have HER := rd_err25 S
  obtain ⟨tp, htp⟩ : ∃ t, t = tp25 S := ⟨_, rfl⟩
  have HTP : Hid (tp = tp25 S ∧ tp ≤ 1) := ⟨htp, by rw [htp]; exact tp25_le S⟩
  obtain ⟨R', E', S', hR'⟩ : ∃ R E T, wr25 S r = (R, E, T) := ⟨_, _, _, rfl⟩
  rw [hR']
  have HWR : Hid (wr25 S r = (R', E', S')) := hR'
  obtain ⟨R, k, E, hR⟩ : ∃ R k E, rd25 S = (R, k, E) := ⟨_, _, _, rfl⟩
  rw [hR] at HRD HQ HER
  simp only at HRD HQ HER
  have htk : tp = if E = 0 then 1 - k else 0 := by rw [htp]; unfold tp25; rw [hR]
  have HR : Hid (rd25 S = (R, k, E)) := hR
  have HFF : Hid (Fl21 w f F S ∧ Ok21 S ∧ Tab w ∧ S.pg = 64 ∧ S.ps = 1 ∧ r.wd ∧ S.lg.length ≤ 5500000000000) := ⟨hF, hO, ht, hpg, hps, hw, hlg⟩
  have HLT : Hid (∀ k, F k → k < w.heap.size) := Fl21.lts25 hF
  have HQ' : Hid (0 ≤ R.q ∧ R.q ≤ 1152921504606846976 ∧ k ≤ 1) := HQ
  have HU : Hid (wr25 S r = if E ≠ 0 ∧ E ≠ 251 then (zr25, E, S) else if ¬ (⟨R.q + 1, r.g, r.n, r.t⟩ : Rc25).may then (zr25, 250, S) else if erE21 S 2 (tp : Int) ≠ 0 then (zr25, erE21 S 2 (tp : Int), erS21 S 2 (tp : Int)) else if pgE21 (erS21 S 2 (tp : Int)) 2 (tp : Int) 43 ≠ 0 then (zr25, pgE21 (erS21 S 2 (tp : Int)) 2 (tp : Int) 43, pgS21 (erS21 S 2 (tp : Int)) 2 (tp : Int) (by25 ⟨R.q + 1, r.g, r.n, r.t⟩)) else (⟨R.q + 1, r.g, r.n, r.t⟩, 0, pgS21 (erS21 S 2 (tp : Int)) 2 (tp : Int) (by25 ⟨R.q + 1, r.g, r.n, r.t⟩))) := by
    show _ = _
    unfold wr25
    rw [hR]
    simp only
    rw [← htk]
  clear hw2 b2 q1 q2 hF hO ht hpg hps hw hlg HQ hR hR' htp
  go_enter Tryd.func23, Tryd.ntmps23
  go_wp2_with fail
  rw [HW2.out]
  refine HRD.mono ?_
  rintro e w3 ⟨rfl, b3⟩
  have H3 : Hid (Below w.heap.size w w3 ∧ w3.heap[w.heap.size]? = some (.cells r.cs 63 (0, 0)) ∧ w3.heap[w.heap.size + 1]? = some (.cells zr25.cs 63 (0, 0))) := ⟨H2.out.1.trans (b3.mono H2.out.1.size), (b3.block _ (Array.getElem?_eq_some_iff.1 H2.out.2.1).1).trans H2.out.2.1, (b3.block _ (Array.getElem?_eq_some_iff.1 H2.out.2.2).1).trans H2.out.2.2⟩
  obtain ⟨w4, hw4⟩ : ∃ x, x = (w3.alloc (.cells #[.int .i64 0, .int .i64 0, .int .i64 0, .int .i64 0, .int .u32 0, .int .i64 0, .int .i64 0, .int .i64 0, .int .u32 0, .int .i64 0] 63)).setRow w3.heap.size R.cs := ⟨_, rfl⟩
  obtain ⟨g6, hg6⟩ : ∃ x, x = w3.heap.size := ⟨_, rfl⟩
  have HW4 : Hid ((w3.alloc (.cells #[.int .i64 0, .int .i64 0, .int .i64 0, .int .i64 0, .int .u32 0, .int .i64 0, .int .i64 0, .int .i64 0, .int .u32 0, .int .i64 0] 63)).setRow w3.heap.size R.cs = w4 ∧ w3.heap.size = g6) := ⟨hw4.symm, hg6.symm⟩
  have b4 : Below w3.heap.size w3 w4 := by rw [hw4]; exact below_row25 ((Below.refl _ _).alloc (Nat.le_refl _) _) (Nat.le_refl _) _
  have q4 : w4.heap[g6]? = some (.cells R.cs 63 (0, 0)) := by rw [hw4, hg6]; exact set_row25 (heap_alloc_new _ _)
  have H4 : Hid (Below w.heap.size w w4 ∧ w4.heap[w.heap.size]? = some (.cells r.cs 63 (0, 0)) ∧ w4.heap[w.heap.size + 1]? = some (.cells zr25.cs 63 (0, 0)) ∧ w4.heap[g6]? = some (.cells R.cs 63 (0, 0)) ∧ w.heap.size + 1 < g6) := ⟨H3.out.1.trans (b4.mono H3.out.1.size), (b4.block _ (Array.getElem?_eq_some_iff.1 H3.out.2.1).1).trans H3.out.2.1, (b4.block _ (Array.getElem?_eq_some_iff.1 H3.out.2.2).1).trans H3.out.2.2, q4, by rw [hg6]; exact (Array.getElem?_eq_some_iff.1 H3.out.2.2).1⟩
  clear HRD b3 hw4 hg6 b4 q4
  go_upto_region 2 with (refine wpList_store_row rfl 63 (.tmp 6) (.tmp 15) rfl w3.heap.size R.cs rfl rfl _ _ (heap_alloc_new w3 _) info_rc25 rfl (row_rc25 R) ?_)
  rw [HW4.out.1, HW4.out.2]
  by_cases hoff : E = 213
  · have e0 := HU.out
    rw [HWR.out, if_pos ⟨by omega, by omega⟩] at e0
    injection e0 with e1 e2
    injection e2 with e2 e3
    subst e1 e2 e3 hoff
    clear HER htk
    go_wp2_with (refine wpList_store_row rfl 63 (.tmp 4) (.tmp 19) rfl (w.heap.size + 1) zr25.cs rfl rfl _ _ H4.out.2.2.1 info_rc25 rfl (row_rc25 zr25) ?_)
    refine bodyPost_ret (v := .tuple #[.agg zr25.cs, .int .i64 213]) (results_ct25 (fn := Tryd.f23) (p := 4) (u := 5) (ty := 63) rfl _ _ (w.heap.size + 1) _ zr25.cs _ _ rfl (set_row25 H4.out.2.2.1) Tryd.underlying63 rfl info_rc25) rfl ?_
    exact ⟨rfl, HFF.out.1.stay (below_row25 H4.out.1 (by omega) _)⟩
  have HEE : Hid (E = 0 ∨ E = 251) := by
    rcases HER with h | h | h
    · exact .inl h
    · exact .inr h.1
    · exact absurd h hoff
  have HKK : Hid ((E = 0 → IntKind.i64.wrap (1 - (k : Int)) = (tp : Int)) ∧ (E = 251 → (k : Int) = (tp : Int))) := by
    have hk := HQ'.out.2.2
    refine ⟨fun h => ?_, fun h => ?_⟩
    · rw [htk, if_pos h, IntWalk.i64_in _ (by omega)]
      omega
    · rw [htk, if_neg (by omega)]
      rcases HER with h1 | h1 | h1
      · omega
      · rw [h1.2]
      · omega
  clear HER htk hoff
  go_upto_block 0 with fail
  go_cut [7] from 18 to 26 (fun s7 wc => wc = w4 ∧ s7 = .int .i64 (tp : Int))
  case first =>
    rcases HEE.out with h | h
    · subst h
      have hk0 := HKK.out.1 rfl
      go_wp2_with fail
      go_meet
      case rel => exact ⟨rfl, rfl⟩
    · subst h
      go_wp2_with fail
      go_meet
      case rel => exact ⟨rfl, by rw [HKK.out.2 (by trivial)]⟩
  case rest =>
    obtain ⟨rfl, rfl⟩ := hcut
    have hE : ¬ (E ≠ 0 ∧ E ≠ 251) := by have := HEE.out; omega
    have hU := HU.out
    rw [if_neg hE] at hU
    have HU2 : Hid (wr25 S r = if ¬ (⟨R.q + 1, r.g, r.n, r.t⟩ : Rc25).may then (zr25, 250, S) else if erE21 S 2 (tp : Int) ≠ 0 then (zr25, erE21 S 2 (tp : Int), erS21 S 2 (tp : Int)) else if pgE21 (erS21 S 2 (tp : Int)) 2 (tp : Int) 43 ≠ 0 then (zr25, pgE21 (erS21 S 2 (tp : Int)) 2 (tp : Int) 43, pgS21 (erS21 S 2 (tp : Int)) 2 (tp : Int) (by25 ⟨R.q + 1, r.g, r.n, r.t⟩)) else (⟨R.q + 1, r.g, r.n, r.t⟩, 0, pgS21 (erS21 S 2 (tp : Int)) 2 (tp : Int) (by25 ⟨R.q + 1, r.g, r.n, r.t⟩))) := hU
    obtain ⟨q1, hq1⟩ : ∃ q, q = R.q + 1 := ⟨_, rfl⟩
    have hqw : IntKind.i64.wrap (R.q + 1) = q1 := by rw [hq1]; have := HQ'.out; exact IntWalk.i64_in _ ⟨by omega, by omega⟩
    have hqw' : wrap64 (R.q + 1) = q1 := by rw [hq1]; have := HQ'.out; exact IntWalk.wrap64_in _ ⟨by omega, by omega⟩
    rw [← hq1] at HU2
    obtain ⟨r', hr'⟩ : ∃ x : Rc25, x = ⟨q1, r.g, r.n, r.t⟩ := ⟨_, rfl⟩
    rw [← hr'] at HU2
    have hwd : r'.wd := by rw [hr']; exact HFF.out.2.2.2.2.2.1
    have c6 : wc.cell? ⟨g6, 0, none⟩ = some (.int .i64 R.q) := cell25 H4.out.2.2.2.1 rfl
    obtain ⟨w5, hw5⟩ : ∃ x, x = wc.setRow w.heap.size r'.cs := ⟨_, rfl⟩
    have HW5 : Hid (wc.setRow w.heap.size r'.cs = w5) := hw5.symm
    have H5 : Hid (Below w.heap.size w w5 ∧ w5.heap[w.heap.size]? = some (.cells r'.cs 63 (0, 0)) ∧ w5.heap[w.heap.size + 1]? = some (.cells zr25.cs 63 (0, 0))) := ⟨by rw [hw5]; exact below_row25 H4.out.1 (Nat.le_refl _) _, by rw [hw5]; exact set_row25 H4.out.2.1, by rw [hw5, old_row25 _ (by omega)]; exact H4.out.2.2.1⟩
    have HEN := pencode25 r' hwd w5 (HFF.out.2.2.1.old H5.out.1)
    have hset : (r.cs.toList.set 0 (.int .i64 q1)).toArray = r'.cs := by rw [hr']; rfl
    clear hE hU hq1 hr' hwd hw5 HEE HKK HU
    go_upto_region 8 with (refine wpList_cell25 rfl 3 (.tmp 30) (.tmp 29) rfl w.heap.size 0 .i64 q1 rfl rfl (cs := r.cs.toList) H4.out.2.1 info_int25 (by show 0 < 10; omega) r'.cs hset ?_)
    rw [HW5.out]
    clear c6 hset hqw hqw'
    go_wp2_with (refine wpList_load_row rfl 63 (.tmp 3) rfl w.heap.size rfl _ r'.cs _ _ H5.out.2.1 Tryd.underlying63 rfl info_rc25 ?_)
    refine HEN.mono ?_
    rintro e w6 ⟨p, c, rfl, hown, b6⟩
    have H6 : Hid (Below w.heap.size w w6 ∧ w6.heap[w.heap.size]? = some (.cells r'.cs 63 (0, 0)) ∧ w6.heap[w.heap.size + 1]? = some (.cells zr25.cs 63 (0, 0))) := ⟨H5.out.1.trans (b6.mono H5.out.1.size), (b6.block _ (Array.getElem?_eq_some_iff.1 H5.out.2.1).1).trans H5.out.2.1, (b6.block _ (Array.getElem?_eq_some_iff.1 H5.out.2.2).1).trans H5.out.2.2⟩
    have h5s := H5.out.1.size
    by_cases hm : r'.may
    rotate_left
    · have hck : ck25 r' = 250 := if_neg hm
      have e0 := HU2.out
      rw [HWR.out, if_pos hm] at e0
      injection e0 with e1 e2
      injection e2 with e2 e3
      subst e1 e2 e3
      rw [hck]
      clear hm hck hown b6 HEN h5s
      go_wp2_with (refine wpList_store_row rfl 63 (.tmp 4) (.tmp 38) rfl (w.heap.size + 1) zr25.cs rfl rfl _ _ H6.out.2.2 info_rc25 rfl (row_rc25 zr25) ?_)
      refine bodyPost_ret (v := .tuple #[.agg zr25.cs, .int .i64 250]) (results_ct25 (fn := Tryd.f23) (p := 4) (u := 5) (ty := 63) rfl _ _ (w.heap.size + 1) _ zr25.cs _ _ rfl (set_row25 H6.out.2.2) Tryd.underlying63 rfl info_rc25) rfl ?_
      exact ⟨rfl, HFF.out.1.stay (below_row25 H6.out.1 (by omega) _)⟩
    have hck : ck25 r' = 0 := if_pos hm
    have hen : en25 r' = by25 r' := if_pos hm
    have hU := HU2.out
    rw [if_neg (fun h => h hm)] at hU
    have HU3 : Hid (wr25 S r = if erE21 S 2 (tp : Int) ≠ 0 then (zr25, erE21 S 2 (tp : Int), erS21 S 2 (tp : Int)) else if pgE21 (erS21 S 2 (tp : Int)) 2 (tp : Int) 43 ≠ 0 then (zr25, pgE21 (erS21 S 2 (tp : Int)) 2 (tp : Int) 43, pgS21 (erS21 S 2 (tp : Int)) 2 (tp : Int) (by25 r')) else (r', 0, pgS21 (erS21 S 2 (tp : Int)) 2 (tp : Int) (by25 r'))) := hU
    rw [hck, hen, by25_len]
    rw [hen, by25_len] at hown
    obtain ⟨-, a6, c6, hv6, sg6, hx6, hc6, -⟩ := own_seg (M := 255) hown (by decide) (by25_bd r')
    injection hv6 with y1 y2 y3
    subst y1
    subst y3
    have HP : Hid (Seg w6 p (by25 r') ∧ (p = none → c = 0) ∧ (∀ k off, p = some ⟨k, off, none⟩ → ¬ F k)) := ⟨sg6, fun h => (by
      obtain ⟨b', o', e', -⟩ := sg6.at_ 0 (by rw [by25_len]; omega)
      rw [h] at e'
      cases e'), fun k off e q => by
      have h1 := (hx6 _ e).2.2.1
      have h2 := HLT.out k q
      simp only at h1
      omega⟩
    have HES := perase21 (HFF.out.1.old H6.out.1) HFF.out.2.1 2 (tp : Int) (by unfold In21; omega) (by unfold In21; have := HTP.out.2; omega) (by have := HFF.out.2.2.2.2.2.2; omega)
    obtain ⟨E1, hE1⟩ : ∃ e, e = erE21 S 2 (tp : Int) := ⟨_, rfl⟩
    obtain ⟨S1, hS1⟩ : ∃ s, s = erS21 S 2 (tp : Int) := ⟨_, rfl⟩
    rw [← hE1, ← hS1] at HES HU3
    have HS1 : Hid (Ok21 S1 ∧ S1.lg.length ≤ 5500000000001) := ⟨by rw [hS1]; exact ok21_er HFF.out.2.1 _ _, by
      rw [hS1]
      unfold erS21
      have h := HFF.out.2.2.2.2.2.2
      split
      · omega
      · split
        · omega
        · have := (lgl21_rn S 1 2 (tp : Int) ⟨[], true, (sh21 S 2 (tp : Int)).wr + 1⟩).1
          omega⟩
    clear hm hck hen hU hown b6 HEN h5s y2 sg6 hx6 hc6 hE1 hS1 HU2
    go_wp2_with fail
    refine HES.mono ?_
    rintro e w7 ⟨rfl, F7, h71, h72, h73⟩
    have HF7 : Hid (Fl21 w7 f F7 S1 ∧ (∀ k, F7 k → F k ∨ w6.heap.size ≤ k) ∧ Kp F w6 w7) := ⟨h71, h72, h73⟩
    have h6l1 := (Array.getElem?_eq_some_iff.1 H6.out.2.1).1
    have h6l2 := (Array.getElem?_eq_some_iff.1 H6.out.2.2).1
    have hnF : ∀ j, w.heap.size ≤ j → ¬ F j := fun j hj q => by have := HLT.out j q; omega
    have H7 : Hid (w7.heap[w.heap.size]? = some (.cells r'.cs 63 (0, 0)) ∧ w7.heap[w.heap.size + 1]? = some (.cells zr25.cs 63 (0, 0)) ∧ Seg w7 p (by25 r') ∧ ¬ F7 (w.heap.size + 1) ∧ ¬ F7 w.heap.size) := ⟨(h73.block _ h6l1 (hnF _ (Nat.le_refl _))).trans H6.out.2.1, (h73.block _ h6l2 (hnF _ (by omega))).trans H6.out.2.2, HP.out.1.of_cells (fun b' off i v hi ha hc => by
      rw [World.cell?_of_block (a := ⟨b', off + i, none⟩) (h73.block b' (World.block_lt_of_cell? _ _ hc) (HP.out.2.2 b' off ha))]
      exact hc), fun e => by rcases h72 _ e with q | q; (exact hnF _ (by omega) q); omega, fun e => by rcases h72 _ e with q | q; (exact hnF _ (Nat.le_refl _) q); omega⟩
    have HLE : Hid (w.heap.size + 1 < w6.heap.size) := h6l2
    clear HES h71 h72 h73 h6l1 h6l2 hnF
    by_cases he1 : E1 = 0
    rotate_left
    · have e0 := HU3.out
      rw [HWR.out, if_pos he1] at e0
      injection e0 with e1 e2
      injection e2 with e2 e3
      subst e1 e2 e3
      go_wp2_with (refine wpList_store_row rfl 63 (.tmp 4) (.tmp 45) rfl (w.heap.size + 1) zr25.cs rfl rfl _ _ H7.out.2.1 info_rc25 rfl (row_rc25 zr25) ?_)
      refine bodyPost_ret (v := .tuple #[.agg zr25.cs, .int .i64 E']) (results_ct25 (fn := Tryd.f23) (p := 4) (u := 5) (ty := 63) rfl _ _ (w.heap.size + 1) _ zr25.cs _ _ rfl (set_row25 H7.out.2.1) Tryd.underlying63 rfl info_rc25) rfl ?_
      exact ⟨rfl, fn_row25 H6.out.1 HF7.out.1 HF7.out.2.1 HF7.out.2.2 (by omega) HLE.out HLT.out _⟩
    subst he1
    have hU := HU3.out
    rw [if_neg (fun h => h rfl)] at hU
    have HPG := pprog21 HF7.out.1 HS1.out.1 2 (tp : Int) (by unfold In21; omega) (by unfold In21; have := HTP.out.2; omega) (by have := HS1.out.2; omega) p (by25 r') 43 c H7.out.2.2.1 (by25_len r') HP.out.2.1
    obtain ⟨E2, hE2⟩ : ∃ e, e = pgE21 S1 2 (tp : Int) 43 := ⟨_, rfl⟩
    obtain ⟨S2, hS2⟩ : ∃ s, s = pgS21 S1 2 (tp : Int) (by25 r') := ⟨_, rfl⟩
    rw [← hE2, ← hS2] at HPG hU
    have HU4 : Hid (wr25 S r = if E2 ≠ 0 then (zr25, E2, S2) else (r', 0, S2)) := hU
    clear hU hE2 hS2 HU3
    go_wp2_with fail
    refine HPG.mono ?_
    rintro e w8 ⟨rfl, hfn⟩
    obtain ⟨F8, k1, k2, k3⟩ := hfn
    have l1 := (Array.getElem?_eq_some_iff.1 H7.out.1).1
    have l2 := (Array.getElem?_eq_some_iff.1 H7.out.2.1).1
    have H8 : Hid (w8.heap[w.heap.size]? = some (.cells r'.cs 63 (0, 0)) ∧ w8.heap[w.heap.size + 1]? = some (.cells zr25.cs 63 (0, 0))) := ⟨(k3.block _ l1 H7.out.2.2.2.2).trans H7.out.1, (k3.block _ l2 H7.out.2.2.2.1).trans H7.out.2.1⟩
    have HF8 : Hid (Fl21 w8 f F8 S2 ∧ (∀ k, F8 k → F k ∨ w6.heap.size ≤ k) ∧ Kp F w6 w8) := ⟨k1, fun k e => by
      rcases k2 k e with q | q
      · exact HF7.out.2.1 k q
      · exact .inr (by have := HF7.out.2.2.size; omega), HF7.out.2.2.trans k3 (fun k hk e => by
      rcases HF7.out.2.1 k e with q | q
      · exact q
      · omega)⟩
    clear HPG k1 k2 k3 l1 l2
    by_cases he2 : E2 = 0
    rotate_left
    · have e0 := HU4.out
      rw [HWR.out, if_pos he2] at e0
      injection e0 with e1 e2
      injection e2 with e2 e3
      subst e1 e2 e3
      go_wp2_with (refine wpList_store_row rfl 63 (.tmp 4) (.tmp 53) rfl (w.heap.size + 1) zr25.cs rfl rfl _ _ H8.out.2 info_rc25 rfl (row_rc25 zr25) ?_)
      refine bodyPost_ret (v := .tuple #[.agg zr25.cs, .int .i64 E']) (results_ct25 (fn := Tryd.f23) (p := 4) (u := 5) (ty := 63) rfl _ _ (w.heap.size + 1) _ zr25.cs _ _ rfl (set_row25 H8.out.2) Tryd.underlying63 rfl info_rc25) rfl ?_
      exact ⟨rfl, fn_row25 H6.out.1 HF8.out.1 HF8.out.2.1 HF8.out.2.2 (by omega) HLE.out HLT.out _⟩
    subst he2
    have e0 := HU4.out
    rw [HWR.out, if_neg (fun h => h rfl)] at e0
    injection e0 with e1 e2
    injection e2 with e2 e3
    subst e1 e2 e3
    go_wp2_with (first | refine wpList_load_row rfl 63 (.tmp 3) rfl w.heap.size rfl _ R'.cs _ _ H8.out.1 Tryd.underlying63 rfl info_rc25 ?_ | refine wpList_store_row rfl 63 (.tmp 4) (.tmp 55) rfl (w.heap.size + 1) R'.cs rfl rfl _ _ H8.out.2 info_rc25 rfl (row_rc25 R') ?_)
    refine bodyPost_ret (v := .tuple #[.agg R'.cs, .int .i64 0]) (results_ct25 (fn := Tryd.f23) (p := 4) (u := 5) (ty := 63) rfl _ _ (w.heap.size + 1) _ R'.cs _ _ rfl (set_row25 H8.out.2) Tryd.underlying63 rfl info_rc25) rfl ?_
    exact ⟨rfl, fn_row25 H6.out.1 HF8.out.1 HF8.out.2.1 HF8.out.2.2 (by omega) HLE.out HLT.out _⟩
end
end Go.Proofs.YtmjlpfmacblcpaaDoor
