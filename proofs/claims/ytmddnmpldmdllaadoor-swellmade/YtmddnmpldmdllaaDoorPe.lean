import Derived.Test.YtmddnmpldmdllaaDoorPd
namespace Go.Proofs.YtmddnmpldmdllaaDoor
open Go.RowKit
set_option linter.unusedVariables false

/-- What a decoder's block holds. -/
def tbl (zs S : List Int) : List Int := cnts zs ++ S ++ [(tot zs : Int)]
def dl (most : Int) (zs S : List Int) : List Int := most :: tbl zs S
def Z288 : List Int := List.replicate 288 0
theorem Z288_len : Z288.length = 288 := List.length_replicate ..
theorem built_dec (n : Int) : (Tryd.prog.built 70 [(0, Value.int .i64 n)]).getD #[] = arr (dl n [] Z288) := by kernel_rfl
theorem tbl_len {zs S : List Int} (h : S.length = 288) : (tbl zs S).length = 305 := by simp [tbl, cnts_len, h]
theorem tbl_cnt {zs S : List Int} {l : Nat} (h : l < 16) : (tbl zs S).getD l 0 = (cC zs l : Int) := by
  have e := cnts_get zs h
  have hl := cnts_len zs
  unfold tbl
  rw [List.append_assoc]
  simpa [List.getD, List.getElem?_append_left (show l < (cnts zs).length by omega)] using e
theorem tbl_sym {zs S : List Int} (hS : S.length = 288) {i : Nat} (h : i < 288) : (tbl zs S).getD (16 + i) 0 = S.getD i 0 := by
  have hl := cnts_len zs
  unfold tbl
  rw [List.append_assoc]
  simp [List.getD, List.getElem?_append_right (show (cnts zs).length ≤ 16 + i by omega), hl, List.getElem?_append_left (show i < S.length by omega)]
theorem tbl_tot {zs S : List Int} (hS : S.length = 288) : (tbl zs S).getD 304 0 = (tot zs : Int) := by
  have hl := cnts_len zs
  unfold tbl
  simp [List.getD, hl, hS]
theorem dl_get (m : Int) (zs S : List Int) (i : Nat) : (dl m zs S).getD (1 + i) 0 = (tbl zs S).getD i 0 := by
  rw [Nat.add_comm]
  simp [dl, List.getD]

set_option maxRecDepth 100000 in
set_option maxHeartbeats 1000000 in
theorem newDec_any (n : Nat) (h1 : 1 ≤ n) (h2 : n ≤ 288) (w : World) :
    Calls Tryd.prog 29 #[.int .i64 (n : Int)] w fun e w' => e = .returned (.tuple #[.pointer (some ⟨w.heap.size, 0, none⟩), .int .i64 0]) ∧ w' = w.alloc (.cells (arr (dl n [] Z288)) 70) := by
  have h1i : ¬ (n : Int) < 1 := by omega
  have h2i : ¬ (288 : Int) < (n : Int) := by omega
  go_enter Tryd.func29, Tryd.ntmps29
  go_wp2_with (refine wpList_build rfl _ _ rfl (by kernel_rfl) ?_)
  go_ret2
  exact ⟨rfl, by rw [built_dec]⟩
set_option maxRecDepth 100000 in
set_option maxHeartbeats 1000000 in
theorem newDec_no (n : Int) (h : n < 1 ∨ 288 < n) (w : World) :
    Calls Tryd.prog 29 #[.int .i64 n] w fun e w' => e = .returned (.tuple #[.pointer none, .int .i64 1]) ∧ w' = w := by
  by_cases h1 : n < 1
  · go_enter Tryd.func29, Tryd.ntmps29
    go_wp2_with fail
    go_ret2
    exact ⟨rfl, rfl⟩
  · have h2 : 288 < n := by omega
    go_enter Tryd.func29, Tryd.ntmps29
    go_wp2_with fail
    go_ret2
    exact ⟨rfl, rfl⟩
/-- Where each symbol with a code stands. -/
def SymOk (zs S : List Int) (j : Nat) : Prop := ∀ s, s < j → zs.getD s 0 ≠ 0 → S.getD (cS zs (ln zs s) + rk zs s) 0 = (s : Int)
/-- A decoder with room for so many symbols, a code loaded. -/
structure De (w : World) (b most : Nat) (zs : List Int) : Prop where
  ok : errC zs = 0
  mo : 1 ≤ most ∧ most ≤ 288
  row : ∃ S, S.length = 288 ∧ SymOk zs S zs.length ∧ w.heap[b]? = some (.cells (arr (dl most zs S)) 70 (0, 0))
theorem errC_nil : errC [] = 0 := by decide
theorem De.new {w : World} {b n : Nat} (h1 : 1 ≤ n) (h2 : n ≤ 288) (h : w.heap[b]? = some (.cells (arr (dl n [] Z288)) 70 (0, 0))) : De w b n [] :=
  ⟨errC_nil, ⟨h1, h2⟩, Z288, Z288_len, fun s hs => by simp at hs, h⟩
theorem De.lt {w : World} {b n : Nat} {zs : List Int} (h : De w b n zs) : b < w.heap.size := by
  obtain ⟨S, _, _, h⟩ := h.row
  exact (Array.getElem?_eq_some_iff.1 h).1
theorem De.keep {w w' : World} {b n : Nat} {zs : List Int} (h : De w b n zs) (hb : w'.heap[b]? = w.heap[b]?) : De w' b n zs := by
  obtain ⟨S, h1, h2, h3⟩ := h.row
  exact ⟨h.ok, h.mo, S, h1, h2, hb.trans h3⟩

set_option maxRecDepth 100000 in
set_option maxHeartbeats 1000000 in
theorem room_any (b n : Nat) (zs : List Int) (w : World) (h : De w b n zs) :
    Calls Tryd.prog 22 #[.pointer (some ⟨b, 0, none⟩)] w fun e w' => e = .returned (.int .i64 (8 * (n : Int) + 256)) ∧ w' = w := by
  obtain ⟨S, h1, h2, h3⟩ := h.row
  have c0 := arr_cell h3 (i := 0) (by simp [dl])
  have e0 : (dl n zs S).getD 0 0 = (n : Int) := rfl
  rw [e0] at c0
  have hm := h.mo
  have hn0 : ¬ (n : Int) = 0 := by omega
  clear e0
  go_enter Tryd.func22, Tryd.ntmps22
  go_wp2_with fail
  go_ret
  exact ⟨rfl, rfl⟩
end Go.Proofs.YtmddnmpldmdllaaDoor

namespace Go.Proofs.YtmddnmpldmdllaaDoor
open Go.RowKit
set_option linter.unusedVariables false

def Z305 : Array Value := arr (List.replicate 305 0)
theorem info111 : (Tryd.prog.info? 68).map (fun i => (i.zero, i.size)) = some (some (.agg Z305), 305) := by kernel_rfl

theorem len16 {A : List Int} (h : A.length = 16) : ∃ v0 v1 v2 v3 v4 v5 v6 v7 v8 v9 v10 v11 v12 v13 v14 v15, A = [v0, v1, v2, v3, v4, v5, v6, v7, v8, v9, v10, v11, v12, v13, v14, v15] := by
  match A, h with
  | [v0, v1, v2, v3, v4, v5, v6, v7, v8, v9, v10, v11, v12, v13, v14, v15], _ => exact ⟨v0, v1, v2, v3, v4, v5, v6, v7, v8, v9, v10, v11, v12, v13, v14, v15, rfl⟩
theorem built_tbl {A : List Int} (h : A.length = 16) (t : Int) : (Tryd.prog.built 68 [(0, Value.agg (arr A)), (2, Value.int .i64 t)]) = some (arr (A ++ Z288 ++ [t])) := by
  obtain ⟨v0, v1, v2, v3, v4, v5, v6, v7, v8, v9, v10, v11, v12, v13, v14, v15, rfl⟩ := len16 h
  kernel_rfl

theorem exec_build {P : Program} {o : Oper} {ρ : Operand → Value} {t : TypeId} {parts : Array (Nat × Operand)} (ho : o.op = .build t parts) (w : World) {cells : Array Value} {l : List (Nat × Value)} (hc : P.built t l = some cells) (hl : (parts.map fun (i, x) => (i, ρ x)).toList = l) : (execOp ρ o).run P w = .ok (.value (.agg cells)) w := by
  subst hl
  unfold execOp
  simp only [ho, Sem.run_bind, run_build w t _ cells hc, Result.andThen_ok]
  rfl
theorem info305 {A : List Int} (h : A.length = 305) : (Tryd.prog.info? 68).map (·.size) = some (arr A).size := by
  rw [arr_size, h]
  kernel_rfl
theorem Z305_size : Z305.size = 305 := by unfold Z305; rw [arr_size]; exact List.length_replicate ..

def sktk (zs : List Int) (j : Nat) : List Int := (List.range 16).map fun l => if l ≤ j then (cS zs l : Int) else 0
theorem sktk_len (zs : List Int) (j : Nat) : (sktk zs j).length = 16 := by simp [sktk]
theorem sktk_get (zs : List Int) {j l : Nat} (h : l < 16) : (sktk zs j).getD l 0 = if l ≤ j then (cS zs l : Int) else 0 := by simp [sktk, List.getD, h]
theorem sktk_set (zs : List Int) {j : Nat} (h : j + 1 < 16) : (sktk zs j).set (j + 1) (cS zs (j + 1) : Int) = sktk zs (j + 1) := by
  apply List.ext_getElem (by simp [sktk])
  intro i h1 h2
  simp only [List.getElem_set, sktk, List.getElem_map, List.getElem_range]
  by_cases e : j + 1 = i
  · subst e; simp
  · rw [if_neg e]
    by_cases c : i ≤ j
    · rw [if_pos c, if_pos (by omega)]
    · rw [if_neg c, if_neg (by omega)]
theorem sktk_zero (zs : List Int) : sktk zs 0 = List.replicate 16 0 := by
  simp [sktk, List.range, List.range.loop, cS]
def nx2 (zs : List Int) (j : Nat) : List Int := (List.range 16).map fun l => (cS zs l : Int) + (cC (zs.take j) l : Int)
theorem nx2_len (zs : List Int) (j : Nat) : (nx2 zs j).length = 16 := by simp [nx2]
theorem nx2_get (zs : List Int) (j : Nat) {l : Nat} (h : l < 16) : (nx2 zs j).getD l 0 = (cS zs l : Int) + (cC (zs.take j) l : Int) := by simp [nx2, List.getD, h]
theorem nx2_zero (zs : List Int) : sktk zs 15 = nx2 zs 0 := by
  unfold nx2 sktk
  apply List.map_congr_left
  intro l hl
  rw [List.mem_range] at hl
  have : cC (zs.take 0) l = 0 := by rw [List.take_zero]; unfold cC; split <;> simp
  rw [this, if_pos (by omega)]
  simp
theorem nx2_skip {zs : List Int} {j : Nat} (h : zs.take (j + 1) = zs.take j ++ [0]) : nx2 zs (j + 1) = nx2 zs j := by
  unfold nx2
  apply List.map_congr_left
  intro l _
  rw [h, cC_snoc, if_neg (by omega)]
  simp
theorem nx2_put {zs : List Int} {j z : Nat} (h : zs.take (j + 1) = zs.take j ++ [(z : Int)]) (h0 : 0 < z) : nx2 zs (j + 1) = (nx2 zs j).set z ((cS zs z : Int) + (cC (zs.take j) z : Int) + 1) := by
  apply List.ext_getElem (by simp [nx2])
  intro i h1 h2
  simp only [List.getElem_set, nx2, List.getElem_map, List.getElem_range]
  rw [h, cC_snoc]
  by_cases e : z = i
  · subst e
    rw [if_pos ⟨by omega, rfl⟩, if_pos rfl]
    omega
  · rw [if_neg (by omega), if_neg e]
    simp
/-- Where a symbol stands in the order of the codes. -/
def pos (zs : List Int) (s : Nat) : Nat := cS zs (ln zs s) + rk zs s
theorem pos_lt {zs : List Int} (h : LOk zs) {s : Nat} (hs : s < zs.length) (h0 : zs.getD s 0 ≠ 0) : pos zs s < cS zs (ln zs s + 1) := by
  unfold pos
  rw [cS_succ]
  have := rk_lt_c h hs h0
  omega
theorem pos_tot {zs : List Int} (h : LOk zs) {s : Nat} (hs : s < zs.length) (h0 : zs.getD s 0 ≠ 0) : pos zs s < tot zs :=
  Nat.lt_of_lt_of_le (pos_lt h hs h0) (cS_mono zs (by have := (h.ln s).2; omega))
theorem pos_inj {zs : List Int} (h : LOk zs) {s t : Nat} (hs : s < zs.length) (ht : t < zs.length) (h0 : zs.getD s 0 ≠ 0) (t0 : zs.getD t 0 ≠ 0) (he : pos zs s = pos zs t) : s = t := by
  have a1 := pos_lt h hs h0
  have a2 := pos_lt h ht t0
  have b1 : cS zs (ln zs s) ≤ pos zs s := by unfold pos; omega
  have b2 : cS zs (ln zs t) ≤ pos zs t := by unfold pos; omega
  rcases Nat.lt_trichotomy (ln zs s) (ln zs t) with c | c | c
  · have := cS_mono zs (a := ln zs s + 1) (b := ln zs t) c; omega
  · refine rk_inj hs ht ?_ ?_
    · rw [(h.ln s).1, (h.ln t).1, c]
    · unfold pos at he
      rw [c] at he
      omega
  · have := cS_mono zs (a := ln zs t + 1) (b := ln zs s) c; omega
theorem SymOk.put {zs S : List Int} {j : Nat} (h : LOk zs) (hS : S.length = 288) (hk : SymOk zs S j) (hj : j < zs.length) (h0 : zs.getD j 0 ≠ 0) (ht : tot zs ≤ 288) : SymOk zs (S.set (pos zs j) (j : Int)) (j + 1) := by
  intro s hs hs0
  have hp : pos zs j < S.length := by have := pos_tot h hj h0; omega
  show (S.set (pos zs j) (j : Int)).getD (pos zs s) 0 = (s : Int)
  by_cases e : s = j
  · subst e
    simp [List.getD, hp]
  · have := hk s (by omega) hs0
    have hne : pos zs j ≠ pos zs s := fun he => e (pos_inj h (by omega) hj hs0 h0 he.symm)
    have h2 : S.getD (pos zs s) 0 = (s : Int) := this
    rw [← h2]
    simp [List.getD, hne]
theorem SymOk.skip {zs S : List Int} {j : Nat} (hk : SymOk zs S j) (h0 : zs.getD j 0 = 0) : SymOk zs S (j + 1) := by
  intro s hs hs0
  by_cases e : s = j
  · subst e; exact absurd h0 hs0
  · exact hk s (by omega) hs0
theorem tbl_set {zs S : List Int} (hS : S.length = 288) {p : Nat} (hp : p < 288) (v : Int) : (tbl zs S).set (16 + p) v = tbl zs (S.set p v) := by
  unfold tbl
  rw [List.append_assoc, List.append_assoc, List.set_append_right _ _ (by rw [cnts_len]; omega), cnts_len, Nat.add_sub_cancel_left, List.set_append_left _ _ (by omega)]
theorem pos_nx2 {zs : List Int} {j z : Nat} (h : zs.getD j 0 = (z : Int)) (h0 : 0 < z) : (pos zs j : Int) = (cS zs z : Int) + (cC (zs.take j) z : Int) := by
  unfold pos ln rk
  rw [h, cC_pos _ h0, Int.toNat_natCast]
  omega

set_option maxRecDepth 100000 in
set_option maxHeartbeats 2000000 in
theorem laid_any (a : Option Addr) (zs : List Int) (n cap : Nat) (hn : Hid (zs.length = n)) (w : World) (hs : SegZ w a zs) (hok : Hid (errC zs = 0)) :
    Calls Tryd.prog 75 #[.slice a n cap, .agg (arr (cnts zs))] w fun e w' => ∃ S : List Int, S.length = 288 ∧ SymOk zs S zs.length ∧ e = .returned (.agg (arr (tbl zs S))) ∧ Below w.heap.size w w' := by
  obtain ⟨hz111, hs111⟩ := zero_of_info info111
  have hb := cC_288 (errC_zero hok.out).1
  have h0 : (w.alloc (.cells (arr (cnts zs)) 65)).heap[w.heap.size]? = some (.cells (arr (cnts zs)) 65 (0, 0)) := heap_alloc_new w _
  have B0 : Below w.heap.size w (w.alloc (.cells (arr (cnts zs)) 65)) := (Below.refl _ _).alloc (Nat.le_refl _) _
  have z0 : (w.alloc (.cells (arr (cnts zs)) 65)).heap.size = w.heap.size + 1 := by simp
  have hu99 := Tryd.underlying65
  have hi99 : (Tryd.prog.info? 65).map (·.size) = some ((cnts zs).map (Value.int .i64)).length := by rw [List.length_map, cnts_len]; exact info16
  have HZ0 : Hid _ := z0
  clear z0
  go_enter Tryd.func75, Tryd.ntmps75
  go_wp2_with fail
  have z0 := HZ0.out
  clear HZ0
  generalize w.alloc (.cells (arr (cnts zs)) 65) = W0 at *
  have h1 : (W0.alloc (.cells Z305 68)).heap[W0.heap.size]? = some (.cells Z305 68 (0, 0)) := heap_alloc_new W0 _
  have B1 : Below W0.heap.size W0 (W0.alloc (.cells Z305 68)) := (Below.refl _ _).alloc (Nat.le_refl _) _
  have z1 : (W0.alloc (.cells Z305 68)).heap.size = W0.heap.size + 1 := by simp
  generalize W0.alloc (.cells Z305 68) = wr at *
  obtain ⟨A, eA⟩ : ∃ A, A = w.heap.size := ⟨_, rfl⟩
  obtain ⟨R, eR⟩ : ∃ R, R = A + 1 := ⟨_, rfl⟩
  have hA := (B1.block w.heap.size (by omega)).trans h0
  have Bw : Below w.heap.size w wr := B0.trans (B1.mono B0.size)
  have eR2 : W0.heap.size = R := by omega
  rw [eR2] at h1
  rw [← eA] at hA
  rw [← eA, ← eR]
  have HN : Hid (A = w.heap.size ∧ R = A + 1 ∧ wr.heap.size = R + 1) := ⟨eA, eR, by omega⟩
  clear eA eR eR2 h0 B0 z0 B1 z1
  have hAl : A < wr.heap.size := by have := HN.out; omega
  have hRl : R < wr.heap.size := by have := HN.out; omega
  have r0 := arr_range hA
  have HK : Hid (∀ w', Below wr.heap.size wr w' → w'.rangeAt A 0 ((cnts zs).map (Value.int .i64))) := fun w' hb => range_old r0 hb hAl
  have HT : Hid (∀ W, Calls Tryd.prog 85 #[.agg (arr (cnts zs))] W fun e w' => e = .returned (.int .i64 (tot zs : Int)) ∧ Below W.heap.size W w') := fun W => total_any zs hb W
  have Brr : Below wr.heap.size wr wr := Below.refl _ _
  have hbt := built_tbl (cnts_len zs) (tot zs : Int)
  have etb : cnts zs ++ Z288 ++ [(tot zs : Int)] = tbl zs Z288 := rfl
  rw [etb] at hbt
  clear etb r0
  refine wp_region_held_drew (S := fun w' => w'.rangeAt A 0 ((cnts zs).map (Value.int .i64))) (by kernel_rfl) (HK.out _ (Below.drew Brr)) (fun hHeld => ?_)
  refine wpAnyH_take (i := 0) (v := .agg (arr (cnts zs))) rfl (by kernel_rfl) (by kernel_rfl) (by kernel_rfl) (fun _ _ _ h => h) (yieldsIf_load_mid (by rfl) _ _ rfl _ _ rfl _ _ (fun w h => h) hu99 rfl hi99) hHeld ?_
  simp only [Act.put, List.setIfInBounds_toArray]
  refine wpAnyH_take (i := 1) (v := .agg (arr (cnts zs))) rfl (by kernel_rfl) (by kernel_rfl) (by kernel_rfl) (fun _ _ _ h => h) (yieldsIf_load_mid (by rfl) _ _ rfl _ _ rfl _ _ (fun w h => h) hu99 rfl hi99) hHeld ?_
  simp only [Act.put]
  refine wpAnyH_ready (rs := [2, 4]) (by kernel_rfl) (by simp) ?_
  refine AllReadyH.cons rfl (fun K hK => ?brA) (AllReadyH.cons rfl (fun K hK => ?brB) AllReadyH.nil)
  case' brA =>
    go_simp
    refine (HT.out _).mono ?_
    rintro e w3 ⟨rfl, b3⟩
    have b3w : Below wr.heap.size wr w3 := ⟨b3.os, b3.tape, b3.output, b3.size, b3.block⟩
    refine hK.out _ _ (HK.out _ b3w) (fun hHeld2 => ?_)
    clear hK K
    refine wpAnyH_take (i := 3) (v := .agg (arr (tbl zs Z288))) rfl (by kernel_rfl) (by kernel_rfl) (by kernel_rfl) (fun _ _ _ h => h) (Or.inl ⟨by rfl, fun W _ => exec_build rfl W hbt (by go_simp)⟩) hHeld2 ?_
    simp only [Act.put]
    refine wpAnyH_ready (rs := [4]) (by kernel_rfl) (by simp) ?_
    refine AllReadyH.cons rfl (fun K hK => ?_) AllReadyH.nil
    go_simp
    refine hK.out _ _ (HK.out _ (b3w.alloc b3w.size _)) (fun hHeld3 => ?_)
    clear hK K
    refine wpAnyH_ready (rs := [5]) (by kernel_rfl) (by simp) ?_
    refine AllReadyH.cons rfl (fun K hK => ?_) AllReadyH.nil
    rw [if_pos (by rfl)]
    refine wp_store_row 68 _ _ rfl w3.heap.size (arr (tbl zs Z288)) rfl rfl _ Z305 (heap_alloc_new w3 _) (info305 (tbl_len Z288_len)) (by rw [arr_size, tbl_len Z288_len, Z305_size]) (arr_one _) ?_
    rw [World.setRow_alloc_new]
    refine hK.out _ _ (HK.out _ (b3w.alloc b3w.size _)) (fun hHeld3 => ?_)
    clear hK K
    refine wpAnyH_done (by kernel_rfl) ?_ _
    have hT : (w3.alloc (.cells (arr (tbl zs Z288)) 68)).heap[w3.heap.size]? = some (.cells (arr (tbl zs Z288)) 68 (0, 0)) := heap_alloc_new w3 _
    have BT : Below wr.heap.size wr (w3.alloc (.cells (arr (tbl zs Z288)) 68)) := b3w.alloc b3w.size _
    have HTl : Hid (wr.heap.size ≤ w3.heap.size) := b3w.size
    generalize w3.alloc (.cells (arr (tbl zs Z288)) 68) = WT at *
    generalize w3.heap.size = T at *
    simp only [Act.put, List.getElem_toArray, List.getElem_cons_succ, List.getElem_cons_zero]
    clear hHeld hHeld2 hHeld3 b3 b3w
  case' brB =>
    go_simp
    have b3w : Below wr.heap.size wr (wr.alloc (.cells Z305 68)).drew := (Brr.alloc (Nat.le_refl _) _).drew
    refine hK.out _ _ (HK.out _ b3w) (fun hHeld2 => ?_)
    clear hK K
    have hZ : (wr.alloc (.cells Z305 68)).drew.heap[wr.heap.size]? = some (.cells Z305 68 (0, 0)) := heap_alloc_new _ _
    have hZl : wr.heap.size < (wr.alloc (.cells Z305 68)).drew.heap.size := by simp
    generalize (wr.alloc (.cells Z305 68)).drew = w2 at *
    refine wpAnyH_ready (rs := [2]) (by kernel_rfl) (by simp) ?_
    refine AllReadyH.cons rfl (fun K hK => ?_) AllReadyH.nil
    go_simp
    refine (HT.out _).mono ?_
    rintro e w3 ⟨rfl, b3⟩
    have b3w2 : Below wr.heap.size wr w3 := b3w.trans (b3.mono b3w.size)
    refine hK.out _ _ (HK.out _ b3w2) (fun hHeld3 => ?_)
    clear hK K
    refine wpAnyH_take (i := 3) (v := .agg (arr (tbl zs Z288))) rfl (by kernel_rfl) (by kernel_rfl) (by kernel_rfl) (fun _ _ _ h => h) (Or.inl ⟨by rfl, fun W _ => exec_build rfl W hbt (by go_simp)⟩) hHeld3 ?_
    simp only [Act.put]
    refine wpAnyH_ready (rs := [5]) (by kernel_rfl) (by simp) ?_
    refine AllReadyH.cons rfl (fun K hK => ?_) AllReadyH.nil
    rw [if_pos (by rfl)]
    have hZ3 := (b3.block _ hZl).trans hZ
    refine wp_store_row 68 _ _ rfl wr.heap.size (arr (tbl zs Z288)) rfl rfl _ Z305 hZ3 (info305 (tbl_len Z288_len)) (by rw [arr_size, tbl_len Z288_len, Z305_size]) (arr_one _) ?_
    have hT : (w3.setRow wr.heap.size (arr (tbl zs Z288))).heap[wr.heap.size]? = some (.cells (arr (tbl zs Z288)) 68 (0, 0)) := setRow_heap _ _ _ _ _ _ hZ3
    have BT : Below wr.heap.size wr (w3.setRow wr.heap.size (arr (tbl zs Z288))) := b3w2.grown (grown_setRow _ _ _) b3w2.size (fun k hk => by cases hk; exact Nat.le_refl _)
    refine hK.out _ _ (HK.out _ BT) (fun hHeld3 => ?_)
    clear hK K
    refine wpAnyH_done (by kernel_rfl) ?_ _
    have HTl : Hid (wr.heap.size ≤ wr.heap.size) := Nat.le_refl _
    generalize w3.setRow wr.heap.size (arr (tbl zs Z288)) = WT at *
    obtain ⟨T, eT⟩ : ∃ T, T = wr.heap.size := ⟨_, rfl⟩
    have HTl : Hid (wr.heap.size ≤ T) := Nat.le_of_eq eT.symm
    rw [← eT] at hT ⊢
    simp only [Act.put, List.getElem_toArray, List.getElem_cons_succ, List.getElem_cons_zero]
    clear hHeld hHeld2 hHeld3 b3 b3w b3w2 eT
  all_goals
    have hA2 := (BT.block A hAl).trans hA
    have hR2 := (BT.block R hRl).trans h1
    have BwT : Below w.heap.size w WT := Bw.trans (BT.mono Bw.size)
    have hTs : T < WT.heap.size := (Array.getElem?_eq_some_iff.1 hT).1
    clear hA h1 HK HT hbt hz111
    go_wp2_with fail
    have hN0 : (WT.alloc (.cells zero16 65)).heap[WT.heap.size]? = some (.cells (arr (sktk zs 0)) 65 (0, 0)) := by rw [sktk_zero]; exact heap_alloc_new WT _
    have BN : Below WT.heap.size WT (WT.alloc (.cells zero16 65)) := (Below.refl _ _).alloc (Nat.le_refl _) _
    change Code.wp _ _ _ _ (WT.alloc (.cells zero16 65))
    generalize WT.alloc (.cells zero16 65) = W5 at *
    obtain ⟨N, eN⟩ : ∃ N, N = WT.heap.size := ⟨_, rfl⟩
    rw [← eN] at hN0 hTs
    rw [← eN]
    have HNN : Hid (A < R ∧ R < T ∧ T < N ∧ w.heap.size = A) := by
      have h1 := HN.out
      have h2 := HTl.out
      exact ⟨by omega, by omega, hTs, h1.1.symm⟩
    have hA5 := (BN.block A (by have := HNN.out; omega)).trans hA2
    have hR5 := (BN.block R (by have := HNN.out; omega)).trans hR2
    have hT5 := (BN.block T (by have := HNN.out; omega)).trans hT
    have B5 : Below w.heap.size w W5 := BwT.trans (BN.mono BwT.size)
    clear hA2 hR2 hT BN eN
    go_loopw [14] (fun tj wq => ∃ j : Nat, j ≤ 15 ∧ tj = .int .i64 (j : Int) ∧ wq.heap[N]? = some (.cells (arr (sktk zs j)) 65 (0, 0)) ∧ W5.grownBy wq (some N)) (fun tj _ => 15 - (intOf tj).toNat)
    case atStart => exact ⟨0, by omega, rfl, hN0, World.grownBy.refl _ _⟩
    case round =>
      obtain ⟨j, hj, rfl, ho, hg⟩ := hrel
      have hA6 := (hg.block A (Array.getElem?_eq_some_iff.1 hA5).1 (by have := HNN.out; simp; omega)).trans hA5
      by_cases hj6 : j < 15
      · have hji : (j : Int) < 15 := by omega
        have c0 := arr_cell hA6 (i := j) (by rw [cnts_len]; omega)
        rw [cnts_get zs (by omega)] at c0
        have d0 := arr_cell ho (i := j) (by rw [sktk_len]; omega)
        rw [sktk_get zs (by omega), if_pos (Nat.le_refl _)] at d0
        have d1 := arr_cell ho (i := j + 1) (by rw [sktk_len]; omega)
        have f1 := arr_free ho (j + 1)
        have HSET : Hid _ := arr_set ho (j + 1) (cS zs (j + 1) : Int)
        have HF : Hid (cS zs (j + 1) = cS zs j + cC zs j) := cS_succ zs j
        have hsb : cS zs j ≤ 100000 := by
          have h1 := cS_le zs hb j
          have h2 : j * 288 ≤ 15 * 288 := Nat.mul_le_mul_right _ hj
          omega
        have hcb := hb j
        generalize (sktk zs j).getD (j + 1) 0 = old at *
        generalize cC zs j = c at *
        have HX : Hid (∃ x, x = cS zs (j + 1)) := ⟨_, rfl⟩
        obtain ⟨x, hx⟩ := HX.out
        rw [← hx] at HSET HF
        have HXX : Hid (x = cS zs (j + 1)) := hx
        clear hx HX
        generalize cS zs j = f at *
        have r1 : (f : Int) + (c : Int) = (x : Int) := by have := HF.out; omega
        have hxb : x ≤ 200000 := by have := HF.out; omega
        have hx64 : IntKind.i64.wrap (x : Int) = (x : Int) := IntWalk.i64_in _ (by omega)
        have hji1 : (j : Int) + 1 < 16 := by omega
        have hj16 : (j : Int) < 16 := by omega
        have hz1 : (0 : Int) ≤ (j : Int) + 1 := by omega
        have hwj : IntKind.i64.wrap ((j : Int) + 1) = (j : Int) + 1 := IntWalk.i64_in _ (by omega)
        have k1 : ∀ v, (wr.setCell ⟨N, j + 1, none⟩ v).drew.cell? ⟨A, j, none⟩ = some (.int .i64 (c : Int)) := fun v => (World.cell?_setCell_other _ _ _ _ (by intro e; simp only [Addr.mk.injEq] at e; have := HNN.out; omega)).trans c0
        have k2 : ∀ v, (wr.setCell ⟨N, j + 1, none⟩ v).drew.cell? ⟨N, j, none⟩ = some (.int .i64 (f : Int)) := fun v => (World.cell?_setCell_other _ _ _ _ (by intro e; simp only [Addr.mk.injEq] at e; omega)).trans d0
        go_wp2_with fail
        go_region_held3 (fun w' => w'.cell? ⟨A, j, none⟩ = some (.int .i64 (c : Int)) ∧ w'.cell? ⟨N, j, none⟩ = some (.int .i64 (f : Int))) (first | go_keep | (exact ⟨k1 _, k2 _⟩) | (exact k1 _) | (exact k2 _)) (fail)
        all_goals
          go_wp2
          go_roundw
          case rel =>
            refine ⟨j + 1, by omega, by go_num, ?_, ?_⟩
            · rw [← sktk_set zs (by omega), ← HXX.out]
              exact HSET.out
            · exact grown_drew (grownBy_trans hg (set_grown _ _ _ _))
          case measure => simp [intOf]; omega
      · obtain rfl : j = 15 := by omega
        rw [nx2_zero] at ho
        go_wp2_with fail
        have hTv := (hg.block T (Array.getElem?_eq_some_iff.1 hT5).1 (by have := HNN.out; simp; omega)).trans hT5
        have hRv := (hg.block R (Array.getElem?_eq_some_iff.1 hR5).1 (by have := HNN.out; simp; omega)).trans hR5
        have BV := B5.grown hg B5.size (fun k hk => by cases hk; have := HNN.out; omega)
        have HL := errS_zero (errC_zero hok.out).1
        have HLK : Hid (LOk zs) := HL.2
        have hn288 : n ≤ 288 := by have := hn.out; have := HL.1; omega
        have HTT : Hid (tot zs ≤ 288) := Nat.le_trans (tot_le zs HL.2) HL.1
        clear HL hg hA6 hb
        go_loopw [30] (fun tj wq => ∃ (j : Nat) (S : List Int), j ≤ n ∧ tj = .int .i64 (j : Int) ∧ Hid (S.length = 288 ∧ SymOk zs S j) ∧ wq.heap[N]? = some (.cells (arr (nx2 zs j)) 65 (0, 0)) ∧ wq.heap[T]? = some (.cells (arr (tbl zs S)) 68 (0, 0)) ∧ wq.heap[R]? = some (.cells Z305 68 (0, 0)) ∧ Below w.heap.size w wq) (fun tj _ => n - (intOf tj).toNat)
        case atStart => exact ⟨0, Z288, by omega, rfl, (⟨Z288_len, fun s hs => by omega⟩ : _ ∧ _), ho, hTv, hRv, BV⟩
        case round =>
          obtain ⟨j, S, hj, rfl, HS, hn2, ht2, hr2, Bq⟩ := hrel
          clear ho hTv hRv BV
          by_cases hjn : j < n
          · have hji : (j : Int) < (n : Int) := by omega
            obtain ⟨b, off, rfl, c0⟩ := (hs.old Bq).at_ j (by have := hn.out; omega)
            have HTK : Hid (zs.take (j + 1) = zs.take j ++ [zs.getD j 0]) := take_snocZ (by have := hn.out; omega)
            have HZB : Hid (0 ≤ zs.getD j 0 ∧ zs.getD j 0 ≤ 15) := HLK.out.get j
            have HZ : Hid (∃ z, z = zs.getD j 0) := ⟨_, rfl⟩
            obtain ⟨z, hz⟩ := HZ.out
            have HZJ : Hid (z = zs.getD j 0) := hz
            rw [← hz] at HTK c0 HZB
            clear HZ hz
            by_cases hz00 : z = 0
            · subst hz00
              go_wp2_with fail
              go_roundw
              case rel =>
                refine ⟨j + 1, S, by omega, by go_num, (⟨HS.out.1, HS.out.2.skip HZJ.out.symm⟩ : _ ∧ _), ?_, ht2, hr2, Bq⟩
                rw [nx2_skip HTK.out]; exact hn2
              case measure => simp [intOf]; omega
            · obtain ⟨k, rfl⟩ : ∃ k : Nat, z = (k : Int) := ⟨z.toNat, by have := HZB.out; omega⟩
              have hk16 : (k : Int) < 16 := by have := HZB.out; omega
              have hk0 : (0 : Int) < (k : Int) := by have := HZB.out; omega
              have HK16 : Hid (k < 16 ∧ 0 < k) := ⟨by omega, by omega⟩
              have d0 := arr_cell hn2 (i := k) (by rw [nx2_len]; omega)
              rw [nx2_get _ _ (by omega)] at d0
              have HCD : Hid ((pos zs j : Int) = (cS zs k : Int) + (cC (zs.take j) k : Int)) := pos_nx2 HZJ.out.symm HK16.out.2
              rw [← HCD.out] at d0
              have HZN : Hid (zs.getD j 0 ≠ 0) := by rw [← HZJ.out]; exact hz00
              have hpb : pos zs j < 288 := Nat.lt_of_lt_of_le (pos_tot HLK.out (by have := hn.out; omega) HZN.out) HTT.out
              have HSP : Hid (SymOk zs (S.set (pos zs j) (j : Int)) (j + 1)) := SymOk.put HLK.out HS.out.1 HS.out.2 (by have := hn.out; omega) HZN.out HTT.out
              have HC2 : Hid (∃ p, p = pos zs j) := ⟨_, rfl⟩
              obtain ⟨p, hp⟩ := HC2.out
              have HPJ : Hid (p = pos zs j) := hp
              rw [← hp] at d0 hpb HSP
              clear hp HC2
              have hpi : (p : Int) < 288 := by omega
              have t0 := arr_cell ht2 (i := 16 + p) (by rw [tbl_len HS.out.1]; omega)
              have tf := arr_free ht2 (16 + p)
              have HTS := arr_set ht2 (16 + p) (j : Int)
              rw [tbl_set HS.out.1 (by omega)] at HTS
              have hn6 : (wr.setCell ⟨T, 16 + p, none⟩ (.int .i64 (j : Int))).heap[N]? = some (.cells (arr (nx2 zs j)) 65 (0, 0)) := ((set_grown wr T (16 + p) (.int .i64 (j : Int))).block N (Array.getElem?_eq_some_iff.1 hn2).1 (by have := HNN.out; simp; omega)).trans hn2
              have hr6 : (wr.setCell ⟨T, 16 + p, none⟩ (.int .i64 (j : Int))).heap[R]? = some (.cells Z305 68 (0, 0)) := ((set_grown wr T (16 + p) (.int .i64 (j : Int))).block R (Array.getElem?_eq_some_iff.1 hr2).1 (by have := HNN.out; simp; omega)).trans hr2
              have B6 : Below w.heap.size w (wr.setCell ⟨T, 16 + p, none⟩ (.int .i64 (j : Int))) := Bq.grown (set_grown _ _ _ _) Bq.size (fun k hk => by cases hk; have := HNN.out; omega)
              have d6 := arr_cell hn6 (i := k) (by rw [nx2_len]; exact HK16.out.1)
              rw [nx2_get _ _ HK16.out.1, ← HCD.out, ← HPJ.out] at d6
              have f6 := arr_free hn6 k
              have HS6 : Hid _ := arr_set hn6 k ((p : Int) + 1)
              have HT7 : Hid (((wr.setCell ⟨T, 16 + p, none⟩ (.int .i64 (j : Int))).setCell ⟨N, k, none⟩ (.int .i64 ((p : Int) + 1))).heap[T]? = some (.cells (arr (tbl zs (S.set p (j : Int)))) 68 (0, 0))) := ((set_grown _ N k (.int .i64 ((p : Int) + 1))).block T (Array.getElem?_eq_some_iff.1 HTS).1 (by have := HNN.out; simp; omega)).trans HTS
              have HR7 : Hid (((wr.setCell ⟨T, 16 + p, none⟩ (.int .i64 (j : Int))).setCell ⟨N, k, none⟩ (.int .i64 ((p : Int) + 1))).heap[R]? = some (.cells Z305 68 (0, 0))) := ((set_grown _ N k (.int .i64 ((p : Int) + 1))).block R (Array.getElem?_eq_some_iff.1 hr6).1 (by have := HNN.out; simp; omega)).trans hr6
              have B7 : Hid (Below w.heap.size w ((wr.setCell ⟨T, 16 + p, none⟩ (.int .i64 (j : Int))).setCell ⟨N, k, none⟩ (.int .i64 ((p : Int) + 1)))) := B6.grown (set_grown _ _ _ _) B6.size (fun k hk => by cases hk; have := HNN.out; omega)
              have HSL : Hid ((S.set p (j : Int)).length = 288) := by show _ = _; rw [List.length_set]; exact HS.out.1
              generalize (tbl zs S).getD (16 + p) 0 = old at *
              clear HTS hr6 B6 hn6
              go_wp2_with fail
              go_roundw
              case rel =>
                refine ⟨j + 1, S.set p (j : Int), by omega, by go_num, (⟨HSL.out, HSP.out⟩ : _ ∧ _), ?_, HT7.out, HR7.out, B7.out⟩
                rw [nx2_put HTK.out HK16.out.2, ← HCD.out, ← HPJ.out]
                exact HS6.out
              case measure => simp [intOf]; omega
          · obtain rfl : j = n := by omega
            go_wp2_with (first
              | (refine wpList_load_row rfl 68 _ rfl T rfl _ _ _ _ ht2 Tryd.underlying68 rfl (info305 (tbl_len HS.out.1)) ?_)
              | (refine wpList_store_row rfl 68 _ _ rfl R (arr (tbl zs S)) rfl rfl _ _ hr2 (info305 (tbl_len HS.out.1)) (by rw [arr_size, tbl_len HS.out.1, Z305_size]) (arr_one _) ?_))
            have hRR : (wr.setRow R (arr (tbl zs S))).heap[R]? = some (.cells (arr (tbl zs S)) 68 (0, 0)) := setRow_heap wr R _ _ _ _ hr2
            refine bodyPost_ret (v := .agg (arr (tbl zs S))) (results_cell_row rfl _ _ R _ _ _ _ rfl hRR Tryd.underlying68 rfl (info305 (tbl_len HS.out.1))) rfl ⟨S, HS.out.1, ?_, rfl, ?_⟩
            · rw [hn.out]; exact HS.out.2
            · exact Bq.grown (grown_setRow wr R _) Bq.size (fun k hk => by cases hk; have := HNN.out; omega)
end Go.Proofs.YtmddnmpldmdllaaDoor
