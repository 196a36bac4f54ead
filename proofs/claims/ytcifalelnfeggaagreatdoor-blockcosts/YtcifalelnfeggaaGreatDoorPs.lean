import Derived.Test.YtcifalelnfeggaaGreatDoorPr
import Derived.Test.YtcifalelnfeggaaGreatDoorPc
namespace Go.Proofs.YtcifalelnfeggaaGreatDoor
open Go.RowKit
set_option linter.unusedVariables false

structure TwoL (wr W : World) (gx gc N sm : Nat) : Prop where
  bw : Below wr.heap.size wr W
  ne : gx ≠ gc
  x : R3At N W gx 0 ⟨(sm : Int), true, gc⟩
  own : W.ownsRow wr.heap.size 3 1 (.slice (some ⟨gc, 0, none⟩) N N) N ((List.replicate N (0 : Int)).map (Value.int .i64))
  lo : wr.heap.size ≤ gx
  three : ∃ y0 y1 y2, W.heap[gx]? = some (.cells #[y0, y1, y2] 138 (0, 0))
theorem twoL_a (wr : World) (N sm : Nat) (hN : N ≤ 100000) : TwoL wr ((wr.alloc (.cells (Array.replicate N (.int .i64 0)) 3)).alloc (.cells #[.int .i64 (sm : Int), .bool true, .slice (some ⟨wr.heap.size, 0, none⟩) N N] 138)).drew (wr.heap.size + 1) wr.heap.size N sm := by
  have hsz : (wr.alloc (.cells (Array.replicate N (.int .i64 0)) 3)).heap.size = wr.heap.size + 1 := by simp
  have O2 := own_zeros wr N hN
  obtain ⟨c0, c1, c2⟩ := cell_new (wr.alloc (.cells (Array.replicate N (.int .i64 0)) 3)) (.int .i64 (sm : Int)) (.bool true) (.slice (some ⟨wr.heap.size, 0, none⟩) N N) 138
  rw [hsz] at c0 c1 c2
  exact ⟨((((Below.refl _ _).alloc (Nat.le_refl _) _).alloc (by simp) _).drew), by omega, ⟨c0, c1, c2⟩, own_below O2 ((((Below.refl _ _).alloc (Nat.le_refl _) _).drew)), by omega, _, _, _, by rw [← hsz]; exact heap_alloc_new _ _⟩
theorem twoL_b (wr : World) (N sm : Nat) (hN : N ≤ 100000) : TwoL wr ((wr.alloc (.cells #[.int .i64 (sm : Int), .bool true, .slice (some ⟨wr.heap.size + 1, 0, none⟩) N N] 138)).alloc (.cells (Array.replicate N (.int .i64 0)) 3)).drew wr.heap.size (wr.heap.size + 1) N sm := by
  have hsz : (wr.alloc (.cells #[.int .i64 (sm : Int), .bool true, .slice (some ⟨wr.heap.size + 1, 0, none⟩) N N] 138)).heap.size = wr.heap.size + 1 := by simp
  obtain ⟨c0, c1, c2⟩ := cell_new wr (.int .i64 (sm : Int)) (.bool true) (.slice (some ⟨wr.heap.size + 1, 0, none⟩) N N) 138
  have O2 := own_zeros (wr.alloc (.cells #[.int .i64 (sm : Int), .bool true, .slice (some ⟨wr.heap.size + 1, 0, none⟩) N N] 138)) N hN
  rw [hsz] at O2
  have H3 := heap_alloc_new wr (.cells #[.int .i64 (sm : Int), .bool true, .slice (some ⟨wr.heap.size + 1, 0, none⟩) N N] 138)
  have R : R3At N (wr.alloc (.cells #[.int .i64 (sm : Int), .bool true, .slice (some ⟨wr.heap.size + 1, 0, none⟩) N N] 138)) wr.heap.size 0 ⟨(sm : Int), true, wr.heap.size + 1⟩ := ⟨c0, c1, c2⟩
  have B1 : Below wr.heap.size wr (wr.alloc (.cells #[.int .i64 (sm : Int), .bool true, .slice (some ⟨wr.heap.size + 1, 0, none⟩) N N] 138)) := (Below.refl _ _).alloc (Nat.le_refl _) _
  generalize wr.alloc (.cells #[.int .i64 (sm : Int), .bool true, .slice (some ⟨wr.heap.size + 1, 0, none⟩) N N] 138) = V at *
  have B2 : Below V.heap.size V (V.alloc (.cells (Array.replicate N (.int .i64 0)) 3)).drew := ((Below.refl _ _).alloc (Nat.le_refl _) _).drew
  exact ⟨B1.trans (B2.mono (by omega)), by omega, R.of_block (B2.block _ (by omega)), own_base O2.drew (by omega), by omega, _, _, _, (B2.block _ (by omega)).trans H3⟩

theorem below_drewN {B : Nat} {w w' : World} (h : Below B w w') (n : Nat) : Below B w (w'.drewN n) := ⟨h.os, h.tape, h.output, h.size, h.block⟩
theorem own_grown3 {w w' : World} {base n g2 : Nat} {e : TypeId} {v : Value} {xs : List Value} (h : w.ownsRow base e 3 v n xs) (hg : w.grownBy w' (some g2)) (hne : some g2 ≠ v.ownBlock) : w'.ownsRow base e 3 v n xs := by
  rcases h with ⟨hl, h | ⟨g, cap, cur, rfl, hb, hh, rest⟩⟩
  · exact ⟨hl, .inl h⟩
  · exact ⟨hl, .inr ⟨g, cap, cur, rfl, hb, by rw [hg.block g (Array.getElem?_eq_some_iff.1 hh).1 (fun e => hne (by rw [← e]; rfl))]; exact hh, rest⟩⟩

set_option maxRecDepth 100000 in
set_option maxHeartbeats 16000000 in
theorem rleaves_any (a : Option Addr) (zs : List Int) (N cap : Nat) (hN : Hid (zs.length = N)) (w : World) (hs : SegZ w a zs) (h288 : N ≤ 288) (hnn : Hid (∀ i, 0 ≤ zs.getD i 0)) :
    Calls Tryz.prog 71 #[.slice a N cap] w fun e w' => ∃ b c L, e = .returned (.slice b L.length c) ∧ L.length = (LFz zs).length ∧ L.length ≤ c ∧ RR N w' b L ∧ M3 N w' L (itF (LFz zs)) ∧ Below w.heap.size w w' := by
  obtain ⟨i0, hi, hz0, hz1, hz2⟩ := info_parts info_item3
  go_enter Tryz.func71, Tryz.ntmps71
  go_wp2_with fail
  go_loopw [3, 4] (fun tl ti wr => ∃ (i k c : Nat) (b : Option Addr) (L : List Rm), i ≤ N ∧ k ≤ i ∧ ti = .int .i64 (i : Int) ∧ tl = .slice b k c ∧ Hid (L.length = k) ∧ wr.ownsRow w.heap.size 138 3 (.slice b k c) k (flatR N L) ∧ Below w.heap.size w wr ∧ Hid (M3 N wr L (itF (LFk zs i)) ∧ ∀ x ∈ L, IntB wr x.gc)) (fun _ ti _ => N - (intOf ti).toNat)
  case atStart => exact ⟨0, 0, 0, none, [], by omega, by omega, rfl, rfl, (rfl : _ = _), World.ownsRow_nil _ _ _ _, Below.refl _ _, (⟨M3.nil N w, fun x h => by simp at h⟩ : _ ∧ _)⟩
  case round =>
    obtain ⟨i, k, c, b, L, hiN, hki, rfl, rfl, HLk, OR, BR, HML⟩ := hrel
    by_cases h1 : i < N
    · have h1i : (i : Int) < (N : Int) := by omega
      obtain ⟨g, off, rfl, c0⟩ := (hs.old BR).at_ i (by have := hN.out; omega)
      have HV : Hid (∃ v : Nat, zs.getD i 0 = (v : Int)) := ⟨(zs.getD i 0).toNat, by have := hnn.out i; omega⟩
      obtain ⟨v, hv⟩ := HV.out
      have HVJ : Hid (zs.getD i 0 = (v : Int)) := hv
      have hbv := hs.bd i
      rw [hv] at c0 hbv
      clear hv HV
      by_cases hv0 : v = 0
      · subst hv0
        go_wp2_with fail
        go_roundw
        case rel => exact ⟨i + 1, k, c, b, L, by omega, by omega, by go_num, rfl, HLk, OR, BR, (⟨by rw [LFk_skip HVJ.out]; exact HML.out.1, HML.out.2⟩ : _ ∧ _)⟩
        case measure => simp [intOf]; omega
      · have hv0i : ¬ (v : Int) = 0 := by omega
        have hvb : ((v : Int) == 0) = false := by simp; omega
        have hmk := run_make_ints N (by omega)
        have hgw : g < wr.heap.size := World.block_lt_of_cell? wr _ c0
        have c1 : ∀ ob, (wr.alloc ob).drew.cell? ⟨g, off + i, none⟩ = some (.int .i64 (v : Int)) := fun ob => (((Below.refl wr.heap.size wr).alloc (Nat.le_refl _) ob).cell (p := ⟨g, off + i, none⟩) hgw).trans c0
        go_wp2_with fail
        have hok : N ≤ 100000 := by omega
        obtain ⟨hw0, hhw0⟩ : ∃ hw0, hw0 = wr.heap.size := ⟨_, rfl⟩
        go_region
        all_goals first
          | (have T := twoL_a wr N v hok
             obtain ⟨W, hW⟩ : ∃ W, W = ((wr.alloc (.cells (Array.replicate N (.int .i64 0)) 3)).alloc (.cells #[.int .i64 (v : Int), .bool true, .slice (some ⟨wr.heap.size, 0, none⟩) N N] 138)).drew := ⟨_, rfl⟩
             rw [← hW] at T ⊢
             clear hW
             generalize wr.heap.size + 1 = gx at T ⊢
             generalize wr.heap.size = gc at T ⊢)
          | (have T := twoL_b wr N v hok
             obtain ⟨W, hW⟩ : ∃ W, W = ((wr.alloc (.cells #[.int .i64 (v : Int), .bool true, .slice (some ⟨wr.heap.size + 1, 0, none⟩) N N] 138)).alloc (.cells (Array.replicate N (.int .i64 0)) 3)).drew := ⟨_, rfl⟩
             rw [← hW] at T ⊢
             clear hW
             generalize wr.heap.size + 1 = gc at T ⊢
             generalize wr.heap.size = gx at T ⊢)
        all_goals
          have B0 : Below w.heap.size w W := BR.trans (T.bw.mono BR.size)
          have ORW := own_below3 OR T.bw
          have HMW : Hid (M3 N W L (itF (LFk zs i)) ∧ ∀ x ∈ L, IntB W x.gc) := ⟨HML.out.1.old T.bw, fun x hx => (HML.out.2 x hx).keep (T.bw.block _ (HML.out.2 x hx).lt)⟩
          obtain ⟨x0, x1, x2⟩ := T.x
          simp only [Nat.zero_add] at x0 x1 x2
          have o0 := T.own
          have hgcl : wr.heap.size ≤ gc ∧ gc < W.heap.size := o0.lt gc rfl
          have hgxl : wr.heap.size ≤ gx ∧ gx < W.heap.size := ⟨T.lo, T.x.lt⟩
          have hne := T.ne
          have IG0 := own_intB o0
          obtain ⟨a0, fz⟩ := own_cell1 o0 (i := i) (by simp; omega)
          have f0 := fz i
          have HST := o0.stored i (.int .i64 1)
          rw [← List.map_set, unit_cnt h1] at HST
          have HSS : Hid _ := HST
          have HT : Hid (TwoL wr W gx gc N v) := T
          have hlr : Hid (w.heap.size ≤ wr.heap.size) := BR.size
          have hrb0 : ∀ q, (Value.slice b k c).ownBlock = some q → q < gx := fun q hq => Nat.lt_of_lt_of_le (OR.lt q hq).2 T.lo
          clear HST fz T OR c0 c1 hhw0 hmk
          generalize (List.replicate N (0 : Int)).getD i 0 = zz at *
          have hrb : Hid (∀ q, (Value.slice b k c).ownBlock = some q → q < gx) := hrb0
          clear hrb0
          go_wp2_with fail
          obtain ⟨o1, g1⟩ := HSS.out
          have X1 : R3At N (W.setCell ⟨gc, i, none⟩ (.int .i64 1)) gx 0 ⟨(v : Int), true, gc⟩ := HT.out.x.of_block (g1.block gx hgxl.2 (by simpa using hne))
          have Y1 : Hid (∃ y0 y1 y2, (W.setCell ⟨gc, i, none⟩ (.int .i64 1)).heap[gx]? = some (.cells #[y0, y1, y2] 138 (0, 0))) := by
            obtain ⟨y0, y1, y2, hy⟩ := HT.out.three
            exact ⟨y0, y1, y2, (g1.block gx hgxl.2 (by simpa using hne)).trans hy⟩
          have OR1 : (W.setCell ⟨gc, i, none⟩ (.int .i64 1)).ownsRow w.heap.size 138 3 (.slice b k c) k (flatR N L) := own_grown3 ORW g1 (apart3 ORW IG0)
          have IG1 : IntB (W.setCell ⟨gc, i, none⟩ (.int .i64 1)) gc := own_intB o1
          have kp1 : ∀ x ∈ L, (W.setCell ⟨gc, i, none⟩ (.int .i64 1)).heap[x.gc]? = W.heap[x.gc]? := fun x hx => g1.block x.gc (HMW.out.2 x hx).lt (by have h5 := (HML.out.2 x hx).lt; simp; omega)
          have HM1 : Hid (M3 N (W.setCell ⟨gc, i, none⟩ (.int .i64 1)) L (itF (LFk zs i)) ∧ ∀ x ∈ L, IntB (W.setCell ⟨gc, i, none⟩ (.int .i64 1)) x.gc) := ⟨HMW.out.1.keep kp1, fun x hx => (HMW.out.2 x hx).keep (kp1 x hx)⟩
          have B1 : Below w.heap.size w (W.setCell ⟨gc, i, none⟩ (.int .i64 1)) := B0.grown g1 B0.size (fun q hq => by cases hq; have := hlr.out; omega)
          have SG1 : SegZ (W.setCell ⟨gc, i, none⟩ (.int .i64 1)) (some ⟨gc, 0, none⟩) (cntR N [i]) := own_segZ o1 (fun z hz => by
            unfold cntR at hz
            obtain ⟨q, _, rfl⟩ := List.mem_map.1 hz
            have h5 : ([i] : List Nat).count q ≤ ([i] : List Nat).length := List.count_le_length
            simp at h5
            omega)
          have HSG : Hid _ := SG1
          have hgx1 : gx < (W.setCell ⟨gc, i, none⟩ (.int .i64 1)).heap.size := X1.lt
          clear SG1 kp1 o1 g1 HSS ORW HMW x0 x1 x2 o0 a0 f0 IG0 HT B0 hgcl
          generalize W.setCell ⟨gc, i, none⟩ (.int .i64 1) = W1 at *
          go_loopw [6] (fun tp wr => ∃ p : Nat, p ≤ k ∧ tp = .int .i64 (p : Int) ∧ Below W1.heap.size W1 wr ∧ Hid (∀ j, j < p → (L.getD j rm0).wt ≤ (v : Int))) (fun tp _ => k - (intOf tp).toNat)
          case atStart => exact ⟨0, by omega, rfl, Below.refl _ _, fun j hj => by omega⟩
          case round =>
            obtain ⟨p, hp, rfl, BQ, HP⟩ := hrel
            have ORq := own_below3 OR1 BQ
            have Xq := X1.of_block (BQ.block gx hgx1)
            have Yq : Hid (∃ y0 y1 y2, wr.heap[gx]? = some (.cells #[y0, y1, y2] 138 (0, 0))) := by
              obtain ⟨y0, y1, y2, hy⟩ := Y1.out
              exact ⟨y0, y1, y2, (BQ.block gx hgx1).trans hy⟩
            have xa := Xq.c0
            have xb := Xq.c1
            have xc := Xq.c2
            simp only [Nat.zero_add] at xb xc
            by_cases hpk : p < k
            · have hpi : (p : Int) < (k : Int) := by omega
              obtain ⟨gb, cb', hv, hkc0, _, _⟩ := own_shape3 ORq (by omega)
              simp only [Value.slice.injEq] at hv
              obtain ⟨rfl, _, rfl⟩ := hv
              obtain ⟨gb', ob, e, it⟩ := (own_RR ORq HLk.out).at_ p (by have := HLk.out; omega)
              cases e
              have i0c := it.c0
              simp only [Nat.zero_add] at i0c
              have HW : Hid (∃ t : Nat, (L.getD p rm0).wt = (t : Int) ∧ t = ((LFk zs i).getD p (0, 0)).1) := by
                have h1 := HM1.out.1.wt p (by have := HLk.out; omega)
                have h2 := HM1.out.1.len
                rw [itF_len] at h2
                have h3 : ((itF (LFk zs i)).getD p it0).1 = ((LFk zs i).getD p (0, 0)).1 := by
                  have h4 : p < (LFk zs i).length := by have := HLk.out; omega
                  simp [itF, List.getD, h4]
                exact ⟨_, h1, h3⟩
              obtain ⟨t, ht, ht2⟩ := HW.out
              have HTT : Hid ((L.getD p rm0).wt = (t : Int) ∧ t = ((LFk zs i).getD p (0, 0)).1) := ⟨ht, ht2⟩
              rw [ht] at i0c
              clear ht ht2 HW it
              by_cases hw : t ≤ v
              · have hwi : (t : Int) ≤ (v : Int) := by omega
                go_wp2_with fail
                go_quiet (fail)
                go_wp2
                go_roundw
                case rel =>
                  refine ⟨p + 1, by omega, by go_num, below_drewN BQ nq, fun j hj => ?_⟩
                  by_cases e : j = p
                  · subst e; rw [HTT.out.1]; exact hwi
                  · exact HP.out j (by omega)
                case measure => simp [intOf]; omega
              · have hwi : ¬ (t : Int) ≤ (v : Int) := by omega
                have HEX : Hid (p = (LFk zs i).length ∨ v < ((LFk zs i).getD p (0, 0)).1) := .inr (by rw [← HTT.out.2]; omega)
                go_wp2_with fail
                go_quiet (fail)
                have ORd : (wr.drewN nq).ownsRow w.heap.size 138 3 (.slice (some ⟨gb, 0, none⟩) k c) k (flatR N L) := ORq
                have Xd : R3At N (wr.drewN nq) gx 0 ⟨(v : Int), true, gc⟩ := Xq.of_block rfl
                have BQd : Below W1.heap.size W1 (wr.drewN nq) := below_drewN BQ nq
                have Y3d : Hid (∃ y0 y1 y2, (wr.drewN nq).heap[gx]? = some (.cells #[y0, y1, y2] 138 (0, 0))) := Yq
                clear ORq Xq BQ Yq xa xb xc
                generalize wr.drewN nq = w2 at *
                have hs2 : W1.heap.size ≤ w2.heap.size := BQd.size
                have hw1 : w.heap.size ≤ W1.heap.size := B1.size
                have hgx2 : gx < w2.heap.size := by omega
                go_wp2_with (at_builtin; refine wpList_app3 rfl (.tmp 46) (.tmp 48) 135 rfl w.heap.size 138 i0 _ 40 Tryz.underlying135 hi hz0 hz1 hz2 rfl (ORd.alloc _) (r := [.int .i64 0, .bool false, .slice none 0 0]) rfl (by simp [Value.oneCell']) (new_cells3 w2 _ _ _ _) rfl rfl (by omega) (by omega) (by simp; omega) ?_; intro b2 c2 w3 OR2 hg2 B2)
                obtain ⟨g2, c2', hv, hkc, hg2b, hg2l⟩ := own_shape3 OR2 (by omega)
                simp only [Value.slice.injEq] at hv
                obtain ⟨rfl, _, rfl⟩ := hv
                have hblk : ∀ q, q < w2.heap.size → some q ≠ (Value.slice (some ⟨gb, 0, none⟩) k c).ownBlock → w3.heap[q]? = w2.heap[q]? := fun q hq hne => (hg2.block q (by simp; omega) hne).trans (((Below.refl _ w2).alloc (Nat.le_refl _) _).block q hq)
                have hgxr : some gx ≠ (Value.slice (some ⟨gb, 0, none⟩) k c).ownBlock := fun e => by have := hrb.out gx e.symm; omega
                have X3 := Xd.of_block (hblk gx hgx2 hgxr)
                have hne2 : gx ≠ g2 := fun e => by
                  subst e
                  obtain ⟨y0, y1, y2, hy⟩ := Y3d.out
                  rw [← hblk gx hgx2 hgxr] at hy
                  have hc1 := OR2.cellAt (k * 3 + 1) (by omega)
                  rw [List.getElem?_append_right (by rw [flatR_len, HLk.out]; omega), flatR_len, HLk.out, Nat.add_sub_cancel_left, cell_of_row w3 gx (k * 3 + 1) _ _ (0, 0) hy] at hc1
                  rcases Nat.eq_zero_or_pos k with h0 | h0
                  · subst h0
                    have h2 := X3.c1
                    rw [cell_of_row w3 gx (0 + 1) _ _ (0, 0) hy] at h2
                    simp at hc1 h2
                    rw [hc1] at h2
                    simp at h2
                  · obtain ⟨t, rfl⟩ : ∃ t, k = t + 1 := ⟨k - 1, by omega⟩
                    have : (#[y0, y1, y2] : Array Value)[(t + 1) * 3 + 1]? = none := by simp; omega
                    rw [this] at hc1
                    simp at hc1
                have KP3 : ∀ q, IntB w2 q → w3.heap[q]? = w2.heap[q]? ∧ q ≠ g2 := fun q h => by
                  have h1 := hblk q h.lt (apart3 ORd h)
                  refine ⟨h1, fun e => ?_⟩
                  have h2 := apart3 OR2 (h.keep h1)
                  rw [e] at h2
                  exact h2 rfl
                have HK3 : Hid _ := KP3
                have HX3 : Hid _ := X3
                have BB3 : Below w.heap.size w w3 := (B1.trans (BQd.mono hw1)).trans (((Below.refl _ w2).alloc (by omega) _).trans B2)
                have hpk1 : (p : Int) + 1 ≤ (k : Int) + 1 := by omega
                have hpk2 : (p : Int) ≤ (k : Int) + 1 := by omega
                have hpz : (0 : Int) ≤ (p : Int) + 1 := by omega
                have hkc2 : (k : Int) + 1 ≤ (c2 : Int) := by omega
                have hpc1 : (p : Int) + 1 ≤ (c2 : Int) := by omega
                have hpc2 : (p : Int) ≤ (c2 : Int) := by omega
                have hwp : IntKind.i64.wrap ((p : Int) + 1) = (p : Int) + 1 := IntWalk.i64_in _ (by omega)
                have HO2 : Hid _ := OR2
                clear hg2 B2 OR2 KP3 X3 hblk
                have hone : ∀ u ∈ flatR N L ++ [Value.int .i64 0, .bool false, .slice none 0 0], u.oneCell' = true := fun u hu => by
                  rcases List.mem_append.1 hu with h | h
                  · exact flatR_one N L u h
                  · simp at h
                    rcases h with rfl | rfl | rfl <;> rfl
                have hsz3 : (Tryz.prog.info? 138).map (·.size) = some 3 := by rw [hi]; simp [hz1]
                have hcp1 : ¬ (c2 : Int) = (p : Int) + 1 := by omega
                have hcp2 : ¬ (c2 : Int) = (p : Int) := by omega
                have hcp3 : ¬ c2 = p + 1 := by omega
                have hcp4 : ¬ c2 = p := by omega
                go_wp2_with fail
                go_region_held3 (fun _ => True) (trivial)
                  (first | (refine step_copy3 rfl (.tmp 53) (.tmp 56) 135 135 rfl 138 Tryz.underlying135 hsz3 _ _ _ _ _ _ rfl rfl g2 p (k + 1) c2 w.heap.size (k - p) _ (World.ownsRow.drew HO2.out) (by first | omega | (simp [Nat.min_def]; omega)) (by omega) (by intro _; exact ⟨rfl, rfl⟩) hone ?_; intro w4 HO4 hg4))
                have HX4 : R3At N w4 gx 0 ⟨(v : Int), true, gc⟩ := (show R3At N w3 gx 0 ⟨(v : Int), true, gc⟩ from HX3.out).of_block (hg4.block gx (by have := hg2l; have := (show R3At N w3 gx 0 ⟨(v : Int), true, gc⟩ from HX3.out).lt; exact this) (by simpa using hne2))
                have x0c := HX4.c0
                have x1c := HX4.c1
                have x2c := HX4.c2
                simp only [Nat.zero_add] at x1c x2c
                obtain ⟨y0, y1, y2, d0, d1, d2⟩ := ins_there (p := p) (N := N) hp HO4.out
                have f0 := World.ownsRow.frozenAt HO4.out (p * 3)
                have f1 := World.ownsRow.frozenAt HO4.out (p * 3 + 1)
                have f2 := World.ownsRow.frozenAt HO4.out (p * 3 + 2)
                have HST5 := ins_stored HLk.out hp rfl ⟨(v : Int), true, gc⟩ HO4.out
                have H5 : Hid _ := HST5
                clear HST5 HX4 hone hsz3 HO2 HO4
                go_wp2_with fail
                obtain ⟨O6, g6⟩ := H5.out
                have keep5 : ∀ q, IntB W1 q → _ = _ := fun q h => leaves_keep BQd HK3.out hg4 g6 h
                have M5 := leaves_mean (zs := zs) (i := i) (v := v) (p := p) (gc := gc) HVJ.out hv0 hp HLk.out HM1.out.1 (fun x hx => keep5 _ (HM1.out.2 x hx)) HSG.out (keep5 gc IG1) HP.out HEX.out
                have I5 : ∀ x ∈ L.take p ++ (⟨(v : Int), true, gc⟩ : Rm) :: L.drop p, IntB _ x.gc := fun x hx => by
                  rcases List.mem_append.1 hx with h | h
                  · exact (HM1.out.2 x (List.mem_of_mem_take h)).keep (keep5 _ (HM1.out.2 x (List.mem_of_mem_take h)))
                  · rcases List.mem_cons.1 h with h | h
                    · subst h; exact IG1.keep (keep5 gc IG1)
                    · exact (HM1.out.2 x (List.mem_of_mem_drop h)).keep (keep5 _ (HM1.out.2 x (List.mem_of_mem_drop h)))
                go_roundw
                case rel =>
                  refine ⟨i + 1, k + 1, c2, some ⟨g2, 0, none⟩, L.take p ++ (⟨(v : Int), true, gc⟩ : Rm) :: L.drop p, by omega, by omega, by go_num, rfl, ?_, O6, ?_, (⟨M5, I5⟩ : _ ∧ _)⟩
                  · show _ = _
                    have := HLk.out
                    simp only [List.length_append, List.length_take, List.length_cons, List.length_drop]
                    omega
                  · exact (BB3.drew.trans (below_of_grown hg4 hg2b (by have := BB3.size; simpa using this))).trans (below_of_grown g6 hg2b (by have h7 := hg4.size; have := BB3.size; simp at h7; omega))
                case measure => simp [intOf]; omega
            · have hpi : ¬ (p : Int) < (k : Int) := by omega
              have HPE : Hid (p = k) := by show _ = _; omega
              have HEX : Hid (p = (LFk zs i).length ∨ v < ((LFk zs i).getD p (0, 0)).1) := .inl (by have h1 := HM1.out.1.len; rw [itF_len] at h1; have := HLk.out; omega)
              go_wp2_with fail
              go_quiet (fail)
              have ORd : (wr.drewN nq).ownsRow w.heap.size 138 3 (.slice b k c) k (flatR N L) := ORq
              have Xd : R3At N (wr.drewN nq) gx 0 ⟨(v : Int), true, gc⟩ := Xq.of_block rfl
              have BQd : Below W1.heap.size W1 (wr.drewN nq) := below_drewN BQ nq
              have Y3d : Hid (∃ y0 y1 y2, (wr.drewN nq).heap[gx]? = some (.cells #[y0, y1, y2] 138 (0, 0))) := Yq
              clear ORq Xq BQ Yq xa xb xc
              generalize wr.drewN nq = w2 at *
              have hs2 : W1.heap.size ≤ w2.heap.size := BQd.size
              have hw1 : w.heap.size ≤ W1.heap.size := B1.size
              have hgx2 : gx < w2.heap.size := by omega
              go_wp2_with (at_builtin; refine wpList_app3 rfl (.tmp 46) (.tmp 48) 135 rfl w.heap.size 138 i0 _ 40 Tryz.underlying135 hi hz0 hz1 hz2 rfl (ORd.alloc _) (r := [.int .i64 0, .bool false, .slice none 0 0]) rfl (by simp [Value.oneCell']) (new_cells3 w2 _ _ _ _) rfl rfl (by omega) (by omega) (by simp; omega) ?_; intro b2 c2 w3 OR2 hg2 B2)
              obtain ⟨g2, c2', hv, hkc, hg2b, hg2l⟩ := own_shape3 OR2 (by omega)
              simp only [Value.slice.injEq] at hv
              obtain ⟨rfl, _, rfl⟩ := hv
              have hblk : ∀ q, q < w2.heap.size → some q ≠ (Value.slice b k c).ownBlock → w3.heap[q]? = w2.heap[q]? := fun q hq hne => (hg2.block q (by simp; omega) hne).trans (((Below.refl _ w2).alloc (Nat.le_refl _) _).block q hq)
              have hgxr : some gx ≠ (Value.slice b k c).ownBlock := fun e => by have := hrb.out gx e.symm; omega
              have X3 := Xd.of_block (hblk gx hgx2 hgxr)
              have hne2 : gx ≠ g2 := fun e => by
                subst e
                obtain ⟨y0, y1, y2, hy⟩ := Y3d.out
                rw [← hblk gx hgx2 hgxr] at hy
                have hc1 := OR2.cellAt (k * 3 + 1) (by omega)
                rw [List.getElem?_append_right (by rw [flatR_len, HLk.out]; omega), flatR_len, HLk.out, Nat.add_sub_cancel_left, cell_of_row w3 gx (k * 3 + 1) _ _ (0, 0) hy] at hc1
                rcases Nat.eq_zero_or_pos k with h0 | h0
                · subst h0
                  have h2 := X3.c1
                  rw [cell_of_row w3 gx (0 + 1) _ _ (0, 0) hy] at h2
                  simp at hc1 h2
                  rw [hc1] at h2
                  simp at h2
                · obtain ⟨t, rfl⟩ : ∃ t, k = t + 1 := ⟨k - 1, by omega⟩
                  have : (#[y0, y1, y2] : Array Value)[(t + 1) * 3 + 1]? = none := by simp; omega
                  rw [this] at hc1
                  simp at hc1
              have KP3 : ∀ q, IntB w2 q → w3.heap[q]? = w2.heap[q]? ∧ q ≠ g2 := fun q h => by
                have h1 := hblk q h.lt (apart3 ORd h)
                refine ⟨h1, fun e => ?_⟩
                have h2 := apart3 OR2 (h.keep h1)
                rw [e] at h2
                exact h2 rfl
              have HK3 : Hid _ := KP3
              have HX3 : Hid _ := X3
              have BB3 : Below w.heap.size w w3 := (B1.trans (BQd.mono hw1)).trans (((Below.refl _ w2).alloc (by omega) _).trans B2)
              have hpk1 : (p : Int) + 1 ≤ (k : Int) + 1 := by omega
              have hpk2 : (p : Int) ≤ (k : Int) + 1 := by omega
              have hpz : (0 : Int) ≤ (p : Int) + 1 := by omega
              have hkc2 : (k : Int) + 1 ≤ (c2 : Int) := by omega
              have hpc1 : (p : Int) + 1 ≤ (c2 : Int) := by omega
              have hpc2 : (p : Int) ≤ (c2 : Int) := by omega
              have hwp : IntKind.i64.wrap ((p : Int) + 1) = (p : Int) + 1 := IntWalk.i64_in _ (by omega)
              have HO2 : Hid _ := OR2
              clear hg2 B2 OR2 KP3 X3 hblk
              have hone : ∀ u ∈ flatR N L ++ [Value.int .i64 0, .bool false, .slice none 0 0], u.oneCell' = true := fun u hu => by
                rcases List.mem_append.1 hu with h | h
                · exact flatR_one N L u h
                · simp at h
                  rcases h with rfl | rfl | rfl <;> rfl
              have hsz3 : (Tryz.prog.info? 138).map (·.size) = some 3 := by rw [hi]; simp [hz1]
              have hcp4 : ¬ c2 = p := by omega
              have hmz : Hid (k - p = 0) := by show _ = _; have := HPE.out; omega
              go_wp2_with fail
              go_region_held3 (fun _ => True) (trivial)
                (first | (refine step_copy3 rfl (.tmp 53) (.tmp 56) 135 135 rfl 138 Tryz.underlying135 hsz3 _ _ _ _ _ _ rfl rfl g2 p (k + 1) c2 w.heap.size (k - p) _ (World.ownsRow.drew HO2.out) (by first | omega | (simp [Nat.min_def]; omega)) (by omega) (by intro h0; have := hmz.out; omega) hone ?_; intro w4 HO4 hg4))
              have HX4 : R3At N w4 gx 0 ⟨(v : Int), true, gc⟩ := (show R3At N w3 gx 0 ⟨(v : Int), true, gc⟩ from HX3.out).of_block (hg4.block gx (by have := hg2l; have := (show R3At N w3 gx 0 ⟨(v : Int), true, gc⟩ from HX3.out).lt; exact this) (by simpa using hne2))
              have x0c := HX4.c0
              have x1c := HX4.c1
              have x2c := HX4.c2
              simp only [Nat.zero_add] at x1c x2c
              obtain ⟨y0, y1, y2, d0, d1, d2⟩ := ins_there (p := p) (N := N) hp HO4.out
              have f0 := World.ownsRow.frozenAt HO4.out (p * 3)
              have f1 := World.ownsRow.frozenAt HO4.out (p * 3 + 1)
              have f2 := World.ownsRow.frozenAt HO4.out (p * 3 + 2)
              have HST5 := ins_stored HLk.out hp rfl ⟨(v : Int), true, gc⟩ HO4.out
              have H5 : Hid _ := HST5
              clear HST5 HX4 hone hsz3 HO2 HO4
              go_wp2_with fail
              obtain ⟨O6, g6⟩ := H5.out
              have keep5 : ∀ q, IntB W1 q → _ = _ := fun q h => leaves_keep BQd HK3.out hg4 g6 h
              have M5 := leaves_mean (zs := zs) (i := i) (v := v) (p := p) (gc := gc) HVJ.out hv0 hp HLk.out HM1.out.1 (fun x hx => keep5 _ (HM1.out.2 x hx)) HSG.out (keep5 gc IG1) HP.out HEX.out
              have I5 : ∀ x ∈ L.take p ++ (⟨(v : Int), true, gc⟩ : Rm) :: L.drop p, IntB _ x.gc := fun x hx => by
                rcases List.mem_append.1 hx with h | h
                · exact (HM1.out.2 x (List.mem_of_mem_take h)).keep (keep5 _ (HM1.out.2 x (List.mem_of_mem_take h)))
                · rcases List.mem_cons.1 h with h | h
                  · subst h; exact IG1.keep (keep5 gc IG1)
                  · exact (HM1.out.2 x (List.mem_of_mem_drop h)).keep (keep5 _ (HM1.out.2 x (List.mem_of_mem_drop h)))
              go_roundw
              case rel =>
                refine ⟨i + 1, k + 1, c2, some ⟨g2, 0, none⟩, L.take p ++ (⟨(v : Int), true, gc⟩ : Rm) :: L.drop p, by omega, by omega, by go_num, rfl, ?_, O6, ?_, (⟨M5, I5⟩ : _ ∧ _)⟩
                · show _ = _
                  have := HLk.out
                  simp only [List.length_append, List.length_take, List.length_cons, List.length_drop]
                  omega
                · exact (BB3.drew.trans (below_of_grown hg4 hg2b (by have := BB3.size; simpa using this))).trans (below_of_grown g6 hg2b (by have h7 := hg4.size; have := BB3.size; simp at h7; omega))
              case measure => simp [intOf]; omega
    · obtain rfl : i = N := by omega
      go_wp2
      go_ret
      have hLk := HLk.out
      have hml := HML.out.1
      have e : LFk zs i = LFz zs := by unfold LFk LFz; rw [hN.out]
      rw [e] at hml
      exact ⟨b, c, L, by rw [hLk]; rfl, by rw [hml.len, itF_len], (by have := own_facts3 OR; rw [hLk]; exact this.1), own_RR OR hLk, hml, BR⟩
end Go.Proofs.YtcifalelnfeggaaGreatDoor

namespace Go.Proofs.YtcifalelnfeggaaGreatDoor
open Go.RowKit
set_option linter.unusedVariables false

theorem mg_left {s : It} {xs ys zs R : List It} (h : zs ++ List.merge (s :: xs) ys leI = R) (hc : ∀ u ys', ys = u :: ys' → s.1 ≤ u.1) : (zs ++ [s]) ++ List.merge xs ys leI = R := by
  rw [← h]
  match ys, hc with
  | [], _ => simp
  | u :: ys', hc => rw [List.cons_merge_cons, if_pos (show leI s u = true by have := hc u ys' rfl; simp [leI]; omega)]; simp
theorem mg_right {u : It} {xs ys zs R : List It} (h : zs ++ List.merge xs (u :: ys) leI = R) (hc : ∀ s xs', xs = s :: xs' → ¬ s.1 ≤ u.1) : (zs ++ [u]) ++ List.merge xs ys leI = R := by
  rw [← h]
  match xs, hc with
  | [], _ => simp
  | s :: xs', hc => rw [List.cons_merge_cons, if_neg (show ¬ leI s u = true by have := hc s xs' rfl; simp [leI]; omega)]; simp
theorem headR {L : List Rm} {ts : List It} {p : Nat} (h : L.length = p) (h0 : 0 < p) (hl : L.length = ts.length) : ∃ X L' s ts', L = X :: L' ∧ ts = s :: ts' := by
  match L, ts, h, hl with
  | [], _, h, _ => simp at h; omega
  | X :: L', [], _, hl => simp at hl
  | X :: L', s :: ts', _, _ => exact ⟨X, L', s, ts', rfl, rfl⟩

set_option maxRecDepth 100000 in
set_option maxHeartbeats 2000000 in
theorem rmerged_any (N : Nat) (a b : Option Addr) (n m ca cb : Nat) (L M : List Rm) (ts us : List It) (w : World) (hn : Hid (L.length = n)) (hm : Hid (M.length = m)) (hR : RR N w a L) (hS : RR N w b M) (hL : M3 N w L ts) (hM : M3 N w M us)
    (hl : n ≤ 100000) (hl2 : m ≤ 100000) (hca : n ≤ ca) (hcb : m ≤ cb) :
    Calls Tryz.prog 72 #[.slice a n ca, .slice b m cb] w fun e w' => ∃ b' c' R, e = .returned (.slice b' R.length c') ∧ R.length = n + m ∧ R.length ≤ c' ∧ RR N w' b' R ∧ M3 N w' R (List.merge ts us leI) ∧ Below w.heap.size w w' := by
  obtain ⟨i0, hi, hz0, hz1, hz2⟩ := info_parts info_item3
  go_enter Tryz.func72, Tryz.ntmps72
  go_wp2_with fail
  go_loopw [0, 1, 5] (fun tl tp to wr => ∃ (p q k ca cb co : Nat) (a b o : Option Addr) (L M R : List Rm) (xs ys zs : List It), tl = .slice a p ca ∧ tp = .slice b q cb ∧ to = .slice o k co ∧ Hid (L.length = p) ∧ Hid (M.length = q) ∧ Hid (R.length = k) ∧ p ≤ ca ∧ q ≤ cb ∧ p ≤ 100000 ∧ q ≤ 100000 ∧ k ≤ 200000 ∧ RR N w a L ∧ RR N w b M ∧ wr.ownsRow w.heap.size 138 3 (.slice o k co) k (flatR N R) ∧ Below w.heap.size w wr ∧ Hid (M3 N w L xs ∧ M3 N w M ys ∧ M3 N w R zs ∧ zs ++ List.merge xs ys leI = List.merge ts us leI ∧ k + p + q = n + m)) (fun tl tp _ _ => (match tl with | .slice _ p _ => p | _ => 0) + (match tp with | .slice _ q _ => q | _ => 0))
  case atStart => exact ⟨n, m, 0, ca, cb, 0, a, b, none, L, M, [], ts, us, [], rfl, rfl, rfl, hn, hm, (rfl : _ = _), hca, hcb, hl, hl2, by omega, hR, hS, World.ownsRow_nil _ _ _ _, Below.refl _ _, (⟨hL, hM, M3.nil _ _, rfl, by omega⟩ : _ ∧ _)⟩
  case round =>
    obtain ⟨p, q, k, ca, cb, co, a, b, o, L, M, R, xs, ys, zs, rfl, rfl, rfl, hp, hq, hk, hpa, hqb, hp5, hq5, hk5, rl, rm, OR, BR, HX⟩ := hrel
    have hbs := BR.size
    have hsum : k + p + q = n + m := HX.out.2.2.2.2
    have HSUM : Hid (k + p + q = n + m) := hsum
    have hk6 : k ≤ 200000 := by omega
    clear hsum
    by_cases hp0 : 0 < p
    · have hp0i : (0 : Int) < (p : Int) := by omega
      obtain ⟨X, L', s, xs', rfl, rfl⟩ := headR hp.out hp0 HX.out.1.len
      obtain ⟨g1, o1, rfl, x⟩ := rl.at_ 0 (by simp)
      have x2 := x.of_block (BR.block g1 x.lt)
      have gx : (X :: L').getD 0 rm0 = X := rfl
      rw [gx] at x x2
      obtain ⟨x0, x1, x2'⟩ := x2
      simp only [Nat.zero_mul, Nat.add_zero] at x0 x1 x2'
      obtain ⟨mx, tx⟩ := HX.out.1.tail
      have e1 : Hid (X.wt = (s.1 : Int)) := mx.wt 0 (by simp)
      by_cases hq0 : 0 < q
      · have hq0i : (0 : Int) < (q : Int) := by omega
        have hqb0 : ((q : Int) == 0) = false := by simp; omega
        obtain ⟨Y, M', u, ys', rfl, rfl⟩ := headR hq.out hq0 HX.out.2.1.len
        obtain ⟨g2, o2, rfl, y⟩ := rm.at_ 0 (by simp)
        have y2 := y.of_block (BR.block g2 y.lt)
        have gy : (Y :: M').getD 0 rm0 = Y := rfl
        rw [gy] at y y2
        obtain ⟨y0, y1, y2'⟩ := y2
        simp only [Nat.zero_mul, Nat.add_zero] at y0 y1 y2'
        obtain ⟨my, ty⟩ := HX.out.2.1.tail
        have e2 : Hid (Y.wt = (u.1 : Int)) := my.wt 0 (by simp)
        by_cases hc : X.wt ≤ Y.wt
        · have HMG : Hid ((zs ++ [s]) ++ List.merge xs' (u :: ys') leI = List.merge ts us leI) := mg_left HX.out.2.2.2.1 (fun u2 y2 e => by cases e; have := e1.out; have := e2.out; omega)
          go_wp2_with fail
          go_quiet (fail)
          have ORd : (wr.drewN nq).ownsRow w.heap.size 138 3 (.slice o k co) k (flatR N R) := OR
          have BRd : Below w.heap.size w (wr.drewN nq) := ⟨BR.os, BR.tape, BR.output, BR.size, BR.block⟩
          have c0d : (wr.drewN nq).cell? ⟨g1, o1, none⟩ = some (.int .i64 X.wt) := x0
          have c1d : (wr.drewN nq).cell? ⟨g1, o1 + 1, none⟩ = some (.bool X.lf) := x1
          have c2d : (wr.drewN nq).cell? ⟨g1, o1 + 2, none⟩ = some (.slice (some ⟨X.gc, 0, none⟩) N N) := x2'
          clear OR BR x0 x1 x2'
          generalize wr.drewN nq = w2 at *
          have hbs := BRd.size
          have hp1 : (1 : Int) ≤ (p : Int) := by omega
          have hp2 : (1 : Int) ≤ (ca : Int) := by omega
          have hpa2 : (p : Int) ≤ (ca : Int) := by omega
          go_wp2_with (at_builtin; refine wpList_app3 rfl (.tmp 33) (.tmp 37) 135 rfl w.heap.size 138 i0 _ 40 Tryz.underlying135 hi hz0 hz1 hz2 rfl (ORd.alloc _) (r := Rm.cells N X) rfl (by simp [Rm.cells, Value.oneCell']) (new_cells3 w2 _ _ _ _) rfl rfl (by omega) (by omega) (by simp; omega) ?_; intro b2 c2 w3 OR2 hg2 B2)
          have B3 : Below w.heap.size w w3 := BRd.trans (((Below.refl _ _).alloc hbs _).trans B2)
          have hlen := hp.out
          have hkl := hk.out
          have HTL : Hid (L'.length = p - 1) := by show _ = _; rw [← hlen]; simp
          have HRL : Hid (RR N w (if ca = 1 then some ⟨g1, o1, none⟩ else some ⟨g1, o1 + 3, none⟩) L') := by
            split
            · refine ⟨fun j hj => ?_⟩
              have := HTL.out
              omega
            · exact rl.tail
          have HRk : Hid ((R ++ [X]).length = k + 1) := by show _ = _; rw [List.length_append, hkl]; rfl
          have OR3 : w3.ownsRow w.heap.size 138 3 (.slice b2 (k + 1) c2) (k + 1) (flatR N (R ++ [X])) := by
            rw [flatR_app]
            simpa [flatR] using OR2
          clear hlen hkl hg2 B2 ORd OR2
          go_roundw
          case rel => exact ⟨p - 1, q, k + 1, ca - 1, cb, c2, _, _, b2, L', Y :: M', R ++ [X], xs', u :: ys', zs ++ [s], rfl, rfl, rfl, HTL, hq, HRk, by omega, by omega, by omega, by omega, by have := HSUM.out; omega, HRL.out, rm, OR3, B3, (⟨tx, HX.out.2.1, HX.out.2.2.1.app mx, HMG.out, by have := HSUM.out; omega⟩ : _ ∧ _)⟩
          case measure => simp only; omega
        · have HMG : Hid ((zs ++ [u]) ++ List.merge (s :: xs') ys' leI = List.merge ts us leI) := mg_right HX.out.2.2.2.1 (fun s2 x2 e => by cases e; have := e1.out; have := e2.out; omega)
          go_wp2_with fail
          go_quiet (fail)
          have ORd : (wr.drewN nq).ownsRow w.heap.size 138 3 (.slice o k co) k (flatR N R) := OR
          have BRd : Below w.heap.size w (wr.drewN nq) := ⟨BR.os, BR.tape, BR.output, BR.size, BR.block⟩
          have c0d : (wr.drewN nq).cell? ⟨g2, o2, none⟩ = some (.int .i64 Y.wt) := y0
          have c1d : (wr.drewN nq).cell? ⟨g2, o2 + 1, none⟩ = some (.bool Y.lf) := y1
          have c2d : (wr.drewN nq).cell? ⟨g2, o2 + 2, none⟩ = some (.slice (some ⟨Y.gc, 0, none⟩) N N) := y2'
          clear OR BR y0 y1 y2'
          generalize wr.drewN nq = w2 at *
          have hbs := BRd.size
          have hp1 : (1 : Int) ≤ (q : Int) := by omega
          have hp2 : (1 : Int) ≤ (cb : Int) := by omega
          have hpa2 : (q : Int) ≤ (cb : Int) := by omega
          go_wp2_with (at_builtin; refine wpList_app3 rfl (.tmp 41) (.tmp 45) 135 rfl w.heap.size 138 i0 _ 40 Tryz.underlying135 hi hz0 hz1 hz2 rfl (ORd.alloc _) (r := Rm.cells N Y) rfl (by simp [Rm.cells, Value.oneCell']) (new_cells3 w2 _ _ _ _) rfl rfl (by omega) (by omega) (by simp; omega) ?_; intro b2 c2 w3 OR2 hg2 B2)
          have B3 : Below w.heap.size w w3 := BRd.trans (((Below.refl _ _).alloc hbs _).trans B2)
          have hlen := hq.out
          have hkl := hk.out
          have HTL : Hid (M'.length = q - 1) := by show _ = _; rw [← hlen]; simp
          have HRL : Hid (RR N w (if cb = 1 then some ⟨g2, o2, none⟩ else some ⟨g2, o2 + 3, none⟩) M') := by
            split
            · refine ⟨fun j hj => ?_⟩
              have := HTL.out
              omega
            · exact rm.tail
          have HRk : Hid ((R ++ [Y]).length = k + 1) := by show _ = _; rw [List.length_append, hkl]; rfl
          have OR3 : w3.ownsRow w.heap.size 138 3 (.slice b2 (k + 1) c2) (k + 1) (flatR N (R ++ [Y])) := by
            rw [flatR_app]
            simpa [flatR] using OR2
          clear hlen hkl hg2 B2 ORd OR2
          go_roundw
          case rel => exact ⟨p, q - 1, k + 1, ca, cb - 1, c2, _, _, b2, X :: L', M', R ++ [Y], s :: xs', ys', zs ++ [u], rfl, rfl, rfl, hp, HTL, HRk, by omega, by omega, by omega, by omega, by have := HSUM.out; omega, rl, HRL.out, OR3, B3, (⟨HX.out.1, ty, HX.out.2.2.1.app my, HMG.out, by have := HSUM.out; omega⟩ : _ ∧ _)⟩
          case measure => simp only; omega
      · obtain rfl : q = 0 := by omega
        have HMG : Hid ((zs ++ [s]) ++ List.merge xs' ys leI = List.merge ts us leI) := mg_left HX.out.2.2.2.1 (fun u2 y2 e => by have h1 := HX.out.2.1.len; have h2 := hq.out; rw [e, h2] at h1; simp at h1)
        go_wp2_with fail
        go_quiet (fail)
        have ORd : (wr.drewN nq).ownsRow w.heap.size 138 3 (.slice o k co) k (flatR N R) := OR
        have BRd : Below w.heap.size w (wr.drewN nq) := ⟨BR.os, BR.tape, BR.output, BR.size, BR.block⟩
        have c0d : (wr.drewN nq).cell? ⟨g1, o1, none⟩ = some (.int .i64 X.wt) := x0
        have c1d : (wr.drewN nq).cell? ⟨g1, o1 + 1, none⟩ = some (.bool X.lf) := x1
        have c2d : (wr.drewN nq).cell? ⟨g1, o1 + 2, none⟩ = some (.slice (some ⟨X.gc, 0, none⟩) N N) := x2'
        clear OR BR x0 x1 x2'
        generalize wr.drewN nq = w2 at *
        have hbs := BRd.size
        have hp1 : (1 : Int) ≤ (p : Int) := by omega
        have hp2 : (1 : Int) ≤ (ca : Int) := by omega
        have hpa2 : (p : Int) ≤ (ca : Int) := by omega
        go_wp2_with (at_builtin; refine wpList_app3 rfl (.tmp 33) (.tmp 37) 135 rfl w.heap.size 138 i0 _ 40 Tryz.underlying135 hi hz0 hz1 hz2 rfl (ORd.alloc _) (r := Rm.cells N X) rfl (by simp [Rm.cells, Value.oneCell']) (new_cells3 w2 _ _ _ _) rfl rfl (by omega) (by omega) (by simp; omega) ?_; intro b2 c2 w3 OR2 hg2 B2)
        have B3 : Below w.heap.size w w3 := BRd.trans (((Below.refl _ _).alloc hbs _).trans B2)
        have hlen := hp.out
        have hkl := hk.out
        have HTL : Hid (L'.length = p - 1) := by show _ = _; rw [← hlen]; simp
        have HRL : Hid (RR N w (if ca = 1 then some ⟨g1, o1, none⟩ else some ⟨g1, o1 + 3, none⟩) L') := by
          split
          · refine ⟨fun j hj => ?_⟩
            have := HTL.out
            omega
          · exact rl.tail
        have HRk : Hid ((R ++ [X]).length = k + 1) := by show _ = _; rw [List.length_append, hkl]; rfl
        have OR3 : w3.ownsRow w.heap.size 138 3 (.slice b2 (k + 1) c2) (k + 1) (flatR N (R ++ [X])) := by
          rw [flatR_app]
          simpa [flatR] using OR2
        clear hlen hkl hg2 B2 ORd OR2
        go_roundw
        case rel => exact ⟨p - 1, 0, k + 1, ca - 1, cb, c2, _, _, b2, L', M, R ++ [X], xs', ys, zs ++ [s], rfl, rfl, rfl, HTL, hq, HRk, by omega, by omega, by omega, by omega, by have := HSUM.out; omega, HRL.out, rm, OR3, B3, (⟨tx, HX.out.2.1, HX.out.2.2.1.app mx, HMG.out, by have := HSUM.out; omega⟩ : _ ∧ _)⟩
        case measure => simp only; omega
    · obtain rfl : p = 0 := by omega
      by_cases hq0 : 0 < q
      · have hq0i : (0 : Int) < (q : Int) := by omega
        have hqb0 : ((q : Int) == 0) = false := by simp; omega
        obtain ⟨Y, M', u, ys', rfl, rfl⟩ := headR hq.out hq0 HX.out.2.1.len
        obtain ⟨g2, o2, rfl, y⟩ := rm.at_ 0 (by simp)
        have y2 := y.of_block (BR.block g2 y.lt)
        have gy : (Y :: M').getD 0 rm0 = Y := rfl
        rw [gy] at y y2
        obtain ⟨y0, y1, y2'⟩ := y2
        simp only [Nat.zero_mul, Nat.add_zero] at y0 y1 y2'
        obtain ⟨my, ty⟩ := HX.out.2.1.tail
        have e2 : Hid (Y.wt = (u.1 : Int)) := my.wt 0 (by simp)
        have HMG : Hid ((zs ++ [u]) ++ List.merge xs ys' leI = List.merge ts us leI) := mg_right HX.out.2.2.2.1 (fun s2 x2 e => by have h1 := HX.out.1.len; have h2 := hp.out; rw [e, h2] at h1; simp at h1)
        go_wp2_with fail
        go_quiet (fail)
        have ORd : (wr.drewN nq).ownsRow w.heap.size 138 3 (.slice o k co) k (flatR N R) := OR
        have BRd : Below w.heap.size w (wr.drewN nq) := ⟨BR.os, BR.tape, BR.output, BR.size, BR.block⟩
        have c0d : (wr.drewN nq).cell? ⟨g2, o2, none⟩ = some (.int .i64 Y.wt) := y0
        have c1d : (wr.drewN nq).cell? ⟨g2, o2 + 1, none⟩ = some (.bool Y.lf) := y1
        have c2d : (wr.drewN nq).cell? ⟨g2, o2 + 2, none⟩ = some (.slice (some ⟨Y.gc, 0, none⟩) N N) := y2'
        clear OR BR y0 y1 y2'
        generalize wr.drewN nq = w2 at *
        have hbs := BRd.size
        have hp1 : (1 : Int) ≤ (q : Int) := by omega
        have hp2 : (1 : Int) ≤ (cb : Int) := by omega
        have hpa2 : (q : Int) ≤ (cb : Int) := by omega
        go_wp2_with (at_builtin; refine wpList_app3 rfl (.tmp 41) (.tmp 45) 135 rfl w.heap.size 138 i0 _ 40 Tryz.underlying135 hi hz0 hz1 hz2 rfl (ORd.alloc _) (r := Rm.cells N Y) rfl (by simp [Rm.cells, Value.oneCell']) (new_cells3 w2 _ _ _ _) rfl rfl (by omega) (by omega) (by simp; omega) ?_; intro b2 c2 w3 OR2 hg2 B2)
        have B3 : Below w.heap.size w w3 := BRd.trans (((Below.refl _ _).alloc hbs _).trans B2)
        have hlen := hq.out
        have hkl := hk.out
        have HTL : Hid (M'.length = q - 1) := by show _ = _; rw [← hlen]; simp
        have HRL : Hid (RR N w (if cb = 1 then some ⟨g2, o2, none⟩ else some ⟨g2, o2 + 3, none⟩) M') := by
          split
          · refine ⟨fun j hj => ?_⟩
            have := HTL.out
            omega
          · exact rm.tail
        have HRk : Hid ((R ++ [Y]).length = k + 1) := by show _ = _; rw [List.length_append, hkl]; rfl
        have OR3 : w3.ownsRow w.heap.size 138 3 (.slice b2 (k + 1) c2) (k + 1) (flatR N (R ++ [Y])) := by
          rw [flatR_app]
          simpa [flatR] using OR2
        clear hlen hkl hg2 B2 ORd OR2
        go_roundw
        case rel => exact ⟨0, q - 1, k + 1, ca, cb - 1, c2, _, _, b2, L, M', R ++ [Y], xs, ys', zs ++ [u], rfl, rfl, rfl, hp, HTL, HRk, by omega, by omega, by omega, by omega, by have := HSUM.out; omega, rl, HRL.out, OR3, B3, (⟨HX.out.1, ty, HX.out.2.2.1.app my, HMG.out, by have := HSUM.out; omega⟩ : _ ∧ _)⟩
        case measure => simp only; omega
      · obtain rfl : q = 0 := by omega
        go_wp2
        go_ret
        obtain ⟨h1, h2, h3, h4, h5⟩ := HX.out
        have ex : xs = [] := List.eq_nil_of_length_eq_zero (by have := h1.len; have := hp.out; omega)
        have ey : ys = [] := List.eq_nil_of_length_eq_zero (by have := h2.len; have := hq.out; omega)
        subst ex ey
        have hml := h3.old (w' := wr) BR
        have h6 : zs = List.merge ts us leI := by rw [← h4]; simp
        rw [h6] at hml
        have hf := own_facts3 OR
        have hkl := hk.out
        exact ⟨o, co, R, by rw [hkl]; rfl, by omega, by omega, own_RR OR hkl, hml, BR⟩
end Go.Proofs.YtcifalelnfeggaaGreatDoor

namespace Go.Proofs.YtcifalelnfeggaaGreatDoor
open Go.RowKit
set_option linter.unusedVariables false

set_option maxRecDepth 100000 in
theorem wrong_any (a : Option Addr) (zs : List Int) (cap : Nat) (w : World) (hs : SegZ w a zs) (hl : zs.length ≤ 9223372036854775807) :
    Calls Tryz.prog 70 #[.slice a zs.length cap] w fun e w' => e = .returned (.int .i64 (errOf zs)) ∧ Below w.heap.size w w' := by
  by_cases hm : 288 < zs.length
  · have hmi : (288 : Int) < (zs.length : Int) := by omega
    have HE : Hid (errOf zs = 40) := errOf_many hm
    go_enter Tryz.func70, Tryz.ntmps70
    go_wp2
    go_ret
    exact ⟨by rw [HE.out] <;> rfl, Below.refl _ _⟩
  · have hmi : ¬ (288 : Int) < (zs.length : Int) := by omega
    go_enter Tryz.func70, Tryz.ntmps70
    go_wp2
    go_loopw [3] (fun ti wr => ∃ k : Nat, k ≤ zs.length ∧ ti = .int .i64 k ∧ Hid ((zs.take k).all okF = true) ∧ Below w.heap.size w wr) (fun ti _ => zs.length - (intOf ti).toNat)
    case atStart => exact ⟨0, Nat.zero_le _, rfl, (by simp : _ = _), Below.refl _ _⟩
    case round =>
      obtain ⟨k, hk, rfl, HA, hb⟩ := hrel
      have hs := hs.old hb
      by_cases h1 : k < zs.length
      · have h1i : (k : Int) < (zs.length : Int) := by omega
        obtain ⟨b1, o1, rfl, c1⟩ := hs.at_ k h1
        have b1 := hs.bd k
        have HB : Hid (¬ (0 ≤ zs.getD k 0 ∧ zs.getD k 0 ≤ 1099511627776) → errOf zs = 42) := errOf_bad hm h1
        have HC : Hid ((0 ≤ zs.getD k 0 ∧ zs.getD k 0 ≤ 1099511627776) → (zs.take (k + 1)).all okF = true) := all_snoc h1 HA.out
        generalize zs.getD k 0 = z at *
        by_cases h0 : z < 0
        · go_wp2
          go_ret
          exact ⟨by rw [HB.out (by omega)] <;> rfl, hb⟩
        · by_cases h4 : 1099511627776 < z
          · go_wp2
            go_ret
            exact ⟨by rw [HB.out (by omega)] <;> rfl, hb⟩
          · go_wp2
            go_roundw
            case rel => exact ⟨k + 1, by omega, by go_num, HC.out (by omega), hb⟩
            case measure => simp [intOf]; omega
      · obtain rfl : k = zs.length := by omega
        have HE : Hid (errOf zs = 0) := errOf_ok hm HA.out
        clear h1
        go_wp2
        go_ret
        exact ⟨by rw [HE.out] <;> rfl, hb⟩
end Go.Proofs.YtcifalelnfeggaaGreatDoor
