
import Derived.Test.YtfohapfdcdlpeaaLnSt3
namespace Go.Proofs.Ytfohapfdcdlpeaa
open Go.RowKit
set_option linter.unusedVariables false

structure TwoL (wr W : World) (gx gc N sm : Nat) : Prop where
  bw : Below wr.heap.size wr W
  ne : gx ≠ gc
  x : R3At N W gx 0 ⟨(sm : Int), true, gc⟩
  own : W.ownsRow wr.heap.size 3 1 (.slice (some ⟨gc, 0, none⟩) N N) N ((List.replicate N (0 : Int)).map (Value.int .i64))
  lo : wr.heap.size ≤ gx
  three : ∃ y0 y1 y2, W.heap[gx]? = some (.cells #[y0, y1, y2] 38 (0, 0))
theorem twoL_a (wr : World) (N sm : Nat) (hN : N ≤ 100000) : TwoL wr ((wr.alloc (.cells (Array.replicate N (.int .i64 0)) 3)).alloc (.cells #[.int .i64 (sm : Int), .bool true, .slice (some ⟨wr.heap.size, 0, none⟩) N N] 38)).drew (wr.heap.size + 1) wr.heap.size N sm := by
  have hsz : (wr.alloc (.cells (Array.replicate N (.int .i64 0)) 3)).heap.size = wr.heap.size + 1 := by simp
  have O2 := own_zeros wr N hN
  obtain ⟨c0, c1, c2⟩ := cell_new (wr.alloc (.cells (Array.replicate N (.int .i64 0)) 3)) (.int .i64 (sm : Int)) (.bool true) (.slice (some ⟨wr.heap.size, 0, none⟩) N N) 38
  rw [hsz] at c0 c1 c2
  exact ⟨((((Below.refl _ _).alloc (Nat.le_refl _) _).alloc (by simp) _).drew), by omega, ⟨c0, c1, c2⟩, own_below O2 ((((Below.refl _ _).alloc (Nat.le_refl _) _).drew)), by omega, _, _, _, by rw [← hsz]; exact heap_alloc_new _ _⟩
theorem twoL_b (wr : World) (N sm : Nat) (hN : N ≤ 100000) : TwoL wr ((wr.alloc (.cells #[.int .i64 (sm : Int), .bool true, .slice (some ⟨wr.heap.size + 1, 0, none⟩) N N] 38)).alloc (.cells (Array.replicate N (.int .i64 0)) 3)).drew wr.heap.size (wr.heap.size + 1) N sm := by
  have hsz : (wr.alloc (.cells #[.int .i64 (sm : Int), .bool true, .slice (some ⟨wr.heap.size + 1, 0, none⟩) N N] 38)).heap.size = wr.heap.size + 1 := by simp
  obtain ⟨c0, c1, c2⟩ := cell_new wr (.int .i64 (sm : Int)) (.bool true) (.slice (some ⟨wr.heap.size + 1, 0, none⟩) N N) 38
  have O2 := own_zeros (wr.alloc (.cells #[.int .i64 (sm : Int), .bool true, .slice (some ⟨wr.heap.size + 1, 0, none⟩) N N] 38)) N hN
  rw [hsz] at O2
  have H3 := heap_alloc_new wr (.cells #[.int .i64 (sm : Int), .bool true, .slice (some ⟨wr.heap.size + 1, 0, none⟩) N N] 38)
  have R : R3At N (wr.alloc (.cells #[.int .i64 (sm : Int), .bool true, .slice (some ⟨wr.heap.size + 1, 0, none⟩) N N] 38)) wr.heap.size 0 ⟨(sm : Int), true, wr.heap.size + 1⟩ := ⟨c0, c1, c2⟩
  have B1 : Below wr.heap.size wr (wr.alloc (.cells #[.int .i64 (sm : Int), .bool true, .slice (some ⟨wr.heap.size + 1, 0, none⟩) N N] 38)) := (Below.refl _ _).alloc (Nat.le_refl _) _
  generalize wr.alloc (.cells #[.int .i64 (sm : Int), .bool true, .slice (some ⟨wr.heap.size + 1, 0, none⟩) N N] 38) = V at *
  have B2 : Below V.heap.size V (V.alloc (.cells (Array.replicate N (.int .i64 0)) 3)).drew := ((Below.refl _ _).alloc (Nat.le_refl _) _).drew
  exact ⟨B1.trans (B2.mono (by omega)), by omega, R.of_block (B2.block _ (by omega)), own_base O2.drew (by omega), by omega, _, _, _, (B2.block _ (by omega)).trans H3⟩

theorem below_drewN {B : Nat} {w w' : World} (h : Below B w w') (n : Nat) : Below B w (w'.drewN n) := ⟨h.os, h.tape, h.output, h.size, h.block⟩
theorem own_grown3 {w w' : World} {base n g2 : Nat} {e : TypeId} {v : Value} {xs : List Value} (h : w.ownsRow base e 3 v n xs) (hg : w.grownBy w' (some g2)) (hne : some g2 ≠ v.ownBlock) : w'.ownsRow base e 3 v n xs := by
  rcases h with ⟨hl, h | ⟨g, cap, cur, rfl, hb, hh, rest⟩⟩
  · exact ⟨hl, .inl h⟩
  · exact ⟨hl, .inr ⟨g, cap, cur, rfl, hb, by rw [hg.block g (Array.getElem?_eq_some_iff.1 hh).1 (fun e => hne (by rw [← e]; rfl))]; exact hh, rest⟩⟩

set_option maxRecDepth 100000 in
set_option maxHeartbeats 16000000 in
theorem rleaves_any (a : Option Addr) (zs : List Int) (N cap : Nat) (hN : Hid (zs.length = N)) (w : World) (hs : SegZ w a zs) (h288 : N ≤ 288) (hnn : Hid (∀ i, 0 ≤ zs.getD i 0)) :
    Calls Try.prog 11 #[.slice a N cap] w fun e w' => ∃ b c L, e = .returned (.slice b L.length c) ∧ L.length = (LFz zs).length ∧ L.length ≤ c ∧ RR N w' b L ∧ M3 N w' L (itF (LFz zs)) ∧ Below w.heap.size w w' := by
  obtain ⟨i0, hi, hz0, hz1, hz2⟩ := info_parts info_item3
  go_enter Try.func11, Try.ntmps11
  go_wp2_with fail
  go_loopw [3, 4] (fun tl ti wr => ∃ (i k c : Nat) (b : Option Addr) (L : List Rm), i ≤ N ∧ k ≤ i ∧ ti = .int .i64 (i : Int) ∧ tl = .slice b k c ∧ Hid (L.length = k) ∧ wr.ownsRow w.heap.size 38 3 (.slice b k c) k (flatR N L) ∧ Below w.heap.size w wr ∧ Hid (M3 N wr L (itF (LFk zs i)) ∧ ∀ x ∈ L, IntB wr x.gc)) (fun _ ti _ => N - (intOf ti).toNat)
  case atStart => exact ⟨0, 0, 0, none, [], by omega, by omega, rfl, rfl, (rfl : _ = _), World.ownsRow_nil _ _ _ _, Below.refl _ _, (⟨M3.nil N w, fun x h => by simp at h⟩ : _ ∧ _)⟩
  case round =>
    obtain ⟨i, k, c, b, L, hiN, hki, rfl, rfl, HLk, OR, BR, HML⟩ := hrel
    by_cases h1 : i < N
    · have h1i : (i : Int) < (N : Int) := by omega
      obtain ⟨g, off, rfl, c0⟩ := (hs.old BR).at_ i (by have := hN.out; omega)
      have HV : Hid (∃ v : Nat, zs.getD i 0 = (v : Int)) := ⟨(zs.getD i 0).toNat, by have := hnn.out i; omega⟩
      obtain ⟨v, hv⟩ := HV.out
      have HVJ : Hid (zs.getD i 0 = (v : Int)) := hv
      have hbv := hs.bd i
      rw [hv] at c0 hbv
      clear hv HV
      by_cases hv0 : v = 0
      · subst hv0
        go_wp2_with fail
        go_roundw
        case rel => exact ⟨i + 1, k, c, b, L, by omega, by omega, by go_num, rfl, HLk, OR, BR, (⟨by rw [LFk_skip HVJ.out]; exact HML.out.1, HML.out.2⟩ : _ ∧ _)⟩
        case measure => simp [intOf]; omega
      · have hv0i : ¬ (v : Int) = 0 := by omega
        have hvb : ((v : Int) == 0) = false := by simp; omega
        have hmk := run_make_ints N (by omega)
        have hgw : g < wr.heap.size := World.block_lt_of_cell? wr _ c0
        have c1 : ∀ ob, (wr.alloc ob).drew.cell? ⟨g, off + i, none⟩ = some (.int .i64 (v : Int)) := fun ob => (((Below.refl wr.heap.size wr).alloc (Nat.le_refl _) ob).cell (p := ⟨g, off + i, none⟩) hgw).trans c0
        go_wp2_with fail
        have hok : N ≤ 100000 := by omega
        obtain ⟨hw0, hhw0⟩ : ∃ hw0, hw0 = wr.heap.size := ⟨_, rfl⟩
        go_region
        all_goals first
          | (have T := twoL_a wr N v hok
             obtain ⟨W, hW⟩ : ∃ W, W = ((wr.alloc (.cells (Array.replicate N (.int .i64 0)) 3)).alloc (.cells #[.int .i64 (v : Int), .bool true, .slice (some ⟨wr.heap.size, 0, none⟩) N N] 38)).drew := ⟨_, rfl⟩
             rw [← hW] at T ⊢
             clear hW
             generalize wr.heap.size + 1 = gx at T ⊢
             generalize wr.heap.size = gc at T ⊢)
          | (have T := twoL_b wr N v hok
             obtain ⟨W, hW⟩ : ∃ W, W = ((wr.alloc (.cells #[.int .i64 (v : Int), .bool true, .slice (some ⟨wr.heap.size + 1, 0, none⟩) N N] 38)).alloc (.cells (Array.replicate N (.int .i64 0)) 3)).drew := ⟨_, rfl⟩
             rw [← hW] at T ⊢
             clear hW
             generalize wr.heap.size + 1 = gc at T ⊢
             generalize wr.heap.size = gx at T ⊢)
        all_goals
          have B0 : Below w.heap.size w W := BR.trans (T.bw.mono BR.size)
          have ORW := own_below3 OR T.bw
          have HMW : Hid (M3 N W L (itF (LFk zs i)) ∧ ∀ x ∈ L, IntB W x.gc) := ⟨HML.out.1.old T.bw, fun x hx => (HML.out.2 x hx).keep (T.bw.block _ (HML.out.2 x hx).lt)⟩
          obtain ⟨x0, x1, x2⟩ := T.x
          simp only [Nat.zero_add] at x0 x1 x2
          have o0 := T.own
          have hgcl : wr.heap.size ≤ gc ∧ gc < W.heap.size := o0.lt gc rfl
          have hgxl : wr.heap.size ≤ gx ∧ gx < W.heap.size := ⟨T.lo, T.x.lt⟩
          have hne := T.ne
          have IG0 := own_intB o0
          obtain ⟨a0, fz⟩ := own_cell1 o0 (i := i) (by simp; omega)
          have f0 := fz i
          have HST := o0.stored i (.int .i64 1)
          rw [← List.map_set, unit_cnt h1] at HST
          have HSS : Hid _ := HST
          have HT : Hid (TwoL wr W gx gc N v) := T
          have hlr : Hid (w.heap.size ≤ wr.heap.size) := BR.size
          have hrb0 : ∀ q, (Value.slice b k c).ownBlock = some q → q < gx := fun q hq => Nat.lt_of_lt_of_le (OR.lt q hq).2 T.lo
          clear HST fz T OR c0 c1 hhw0 hmk
          generalize (List.replicate N (0 : Int)).getD i 0 = zz at *
          have hrb : Hid (∀ q, (Value.slice b k c).ownBlock = some q → q < gx) := hrb0
          clear hrb0
          go_wp2_with fail
          obtain ⟨o1, g1⟩ := HSS.out
          have X1 : R3At N (W.setCell ⟨gc, i, none⟩ (.int .i64 1)) gx 0 ⟨(v : Int), true, gc⟩ := HT.out.x.of_block (g1.block gx hgxl.2 (by simpa using hne))
          have Y1 : Hid (∃ y0 y1 y2, (W.setCell ⟨gc, i, none⟩ (.int .i64 1)).heap[gx]? = some (.cells #[y0, y1, y2] 38 (0, 0))) := by
            obtain ⟨y0, y1, y2, hy⟩ := HT.out.three
            exact ⟨y0, y1, y2, (g1.block gx hgxl.2 (by simpa using hne)).trans hy⟩
          have OR1 : (W.setCell ⟨gc, i, none⟩ (.int .i64 1)).ownsRow w.heap.size 38 3 (.slice b k c) k (flatR N L) := own_grown3 ORW g1 (apart3 ORW IG0)
          have IG1 : IntB (W.setCell ⟨gc, i, none⟩ (.int .i64 1)) gc := own_intB o1
          have kp1 : ∀ x ∈ L, (W.setCell ⟨gc, i, none⟩ (.int .i64 1)).heap[x.gc]? = W.heap[x.gc]? := fun x hx => g1.block x.gc (HMW.out.2 x hx).lt (by have h5 := (HML.out.2 x hx).lt; simp; omega)
          have HM1 : Hid (M3 N (W.setCell ⟨gc, i, none⟩ (.int .i64 1)) L (itF (LFk zs i)) ∧ ∀ x ∈ L, IntB (W.setCell ⟨gc, i, none⟩ (.int .i64 1)) x.gc) := ⟨HMW.out.1.keep kp1, fun x hx => (HMW.out.2 x hx).keep (kp1 x hx)⟩
          have B1 : Below w.heap.size w (W.setCell ⟨gc, i, none⟩ (.int .i64 1)) := B0.grown g1 B0.size (fun q hq => by cases hq; have := hlr.out; omega)
          have SG1 : SegZ (W.setCell ⟨gc, i, none⟩ (.int .i64 1)) (some ⟨gc, 0, none⟩) (cnt N [i]) := own_segZ o1 (fun z hz => by
            unfold cnt at hz
            obtain ⟨q, _, rfl⟩ := List.mem_map.1 hz
            have h5 : ([i] : List Nat).count q ≤ ([i] : List Nat).length := List.count_le_length
            simp at h5
            omega)
          have HSG : Hid _ := SG1
          have hgx1 : gx < (W.setCell ⟨gc, i, none⟩ (.int .i64 1)).heap.size := X1.lt
          clear SG1 kp1 o1 g1 HSS ORW HMW x0 x1 x2 o0 a0 f0 IG0 HT B0 hgcl
          generalize W.setCell ⟨gc, i, none⟩ (.int .i64 1) = W1 at *
          go_loopw [6] (fun tp wr => ∃ p : Nat, p ≤ k ∧ tp = .int .i64 (p : Int) ∧ Below W1.heap.size W1 wr ∧ Hid (∀ j, j < p → (L.getD j rm0).wt ≤ (v : Int))) (fun tp _ => k - (intOf tp).toNat)
          case atStart => exact ⟨0, by omega, rfl, Below.refl _ _, fun j hj => by omega⟩
          case round =>
            obtain ⟨p, hp, rfl, BQ, HP⟩ := hrel
            have ORq := own_below3 OR1 BQ
            have Xq := X1.of_block (BQ.block gx hgx1)
            have Yq : Hid (∃ y0 y1 y2, wr.heap[gx]? = some (.cells #[y0, y1, y2] 38 (0, 0))) := by
              obtain ⟨y0, y1, y2, hy⟩ := Y1.out
              exact ⟨y0, y1, y2, (BQ.block gx hgx1).trans hy⟩
            have xa := Xq.c0
            have xb := Xq.c1
            have xc := Xq.c2
            simp only [Nat.zero_add] at xb xc
            by_cases hpk : p < k
            · have hpi : (p : Int) < (k : Int) := by omega
              obtain ⟨gb, cb', hv, hkc0, _, _⟩ := own_shape3 ORq (by omega)
              simp only [Value.slice.injEq] at hv
              obtain ⟨rfl, _, rfl⟩ := hv
              obtain ⟨gb', ob, e, it⟩ := (own_RR ORq HLk.out).at_ p (by have := HLk.out; omega)
              cases e
              have i0c := it.c0
              simp only [Nat.zero_add] at i0c
              have HW : Hid (∃ t : Nat, (L.getD p rm0).wt = (t : Int) ∧ t = ((LFk zs i).getD p (0, 0)).1) := by
                have h1 := HM1.out.1.wt p (by have := HLk.out; omega)
                have h2 := HM1.out.1.len
                rw [itF_len] at h2
                have h3 : ((itF (LFk zs i)).getD p it0).1 = ((LFk zs i).getD p (0, 0)).1 := by
                  have h4 : p < (LFk zs i).length := by have := HLk.out; omega
                  simp [itF, List.getD, h4]
                exact ⟨_, h1, h3⟩
              obtain ⟨t, ht, ht2⟩ := HW.out
              have HTT : Hid ((L.getD p rm0).wt = (t : Int) ∧ t = ((LFk zs i).getD p (0, 0)).1) := ⟨ht, ht2⟩
              rw [ht] at i0c
              clear ht ht2 HW it
              by_cases hw : t ≤ v
              · have hwi : (t : Int) ≤ (v : Int) := by omega
                go_wp2_with fail
                go_quiet (fail)
                go_wp2
                go_roundw
                case rel =>
                  refine ⟨p + 1, by omega, by go_num, below_drewN BQ nq, fun j hj => ?_⟩
                  by_cases e : j = p
                  · subst e; rw [HTT.out.1]; exact hwi
                  · exact HP.out j (by omega)
                case measure => simp [intOf]; omega
              · have hwi : ¬ (t : Int) ≤ (v : Int) := by omega
                have HEX : Hid (p = (LFk zs i).length ∨ v < ((LFk zs i).getD p (0, 0)).1) := .inr (by rw [← HTT.out.2]; omega)
                go_wp2_with fail
                go_quiet (fail)
                have ORd : (wr.drewN nq).ownsRow w.heap.size 38 3 (.slice (some ⟨gb, 0, none⟩) k c) k (flatR N L) := ORq
                have Xd : R3At N (wr.drewN nq) gx 0 ⟨(v : Int), true, gc⟩ := Xq.of_block rfl
                have BQd : Below W1.heap.size W1 (wr.drewN nq) := below_drewN BQ nq
                have Y3d : Hid (∃ y0 y1 y2, (wr.drewN nq).heap[gx]? = some (.cells #[y0, y1, y2] 38 (0, 0))) := Yq
                clear ORq Xq BQ Yq xa xb xc
                generalize wr.drewN nq = w2 at *
                have hs2 : W1.heap.size ≤ w2.heap.size := BQd.size
                have hw1 : w.heap.size ≤ W1.heap.size := B1.size
                have hgx2 : gx < w2.heap.size := by omega
                go_wp2_with (at_builtin; refine wpList_app3 rfl (.tmp 46) (.tmp 48) 34 rfl w.heap.size 38 i0 _ 40 Try.underlying34 hi hz0 hz1 hz2 rfl (ORd.alloc _) (r := [.int .i64 0, .bool false, .slice none 0 0]) rfl (by simp [Value.oneCell']) (new_cells3 w2 _ _ _ _) rfl rfl (by omega) (by omega) (by simp; omega) ?_; intro b2 c2 w3 OR2 hg2 B2)
                obtain ⟨g2, c2', hv, hkc, hg2b, hg2l⟩ := own_shape3 OR2 (by omega)
                simp only [Value.slice.injEq] at hv
                obtain ⟨rfl, _, rfl⟩ := hv
                have hblk : ∀ q, q < w2.heap.size → some q ≠ (Value.slice (some ⟨gb, 0, none⟩) k c).ownBlock → w3.heap[q]? = w2.heap[q]? := fun q hq hne => (hg2.block q (by simp; omega) hne).trans (((Below.refl _ w2).alloc (Nat.le_refl _) _).block q hq)
                have hgxr : some gx ≠ (Value.slice (some ⟨gb, 0, none⟩) k c).ownBlock := fun e => by have := hrb.out gx e.symm; omega
                have X3 := Xd.of_block (hblk gx hgx2 hgxr)
                have hne2 : gx ≠ g2 := fun e => by
                  subst e
                  obtain ⟨y0, y1, y2, hy⟩ := Y3d.out
                  rw [← hblk gx hgx2 hgxr] at hy
                  have hc1 := OR2.cellAt (k * 3 + 1) (by omega)
                  rw [List.getElem?_append_right (by rw [flatR_len, HLk.out]; omega), flatR_len, HLk.out, Nat.add_sub_cancel_left, cell_of_row w3 gx (k * 3 + 1) _ _ (0, 0) hy] at hc1
                  rcases Nat.eq_zero_or_pos k with h0 | h0
                  · subst h0
                    have h2 := X3.c1
                    rw [cell_of_row w3 gx (0 + 1) _ _ (0, 0) hy] at h2
                    simp at hc1 h2
                    rw [hc1] at h2
                    simp at h2
                  · obtain ⟨t, rfl⟩ : ∃ t, k = t + 1 := ⟨k - 1, by omega⟩
                    have : (#[y0, y1, y2] : Array Value)[(t + 1) * 3 + 1]? = none := by simp; omega
                    rw [this] at hc1
                    simp at hc1
                have KP3 : ∀ q, IntB w2 q → w3.heap[q]? = w2.heap[q]? ∧ q ≠ g2 := fun q h => by
                  have h1 := hblk q h.lt (apart3 ORd h)
                  refine ⟨h1, fun e => ?_⟩
                  have h2 := apart3 OR2 (h.keep h1)
                  rw [e] at h2
                  exact h2 rfl
                have HK3 : Hid _ := KP3
                have HX3 : Hid _ := X3
                have BB3 : Below w.heap.size w w3 := (B1.trans (BQd.mono hw1)).trans (((Below.refl _ w2).alloc (by omega) _).trans B2)
                have hpk1 : (p : Int) + 1 ≤ (k : Int) + 1 := by omega
                have hpk2 : (p : Int) ≤ (k : Int) + 1 := by omega
                have hpz : (0 : Int) ≤ (p : Int) + 1 := by omega
                have hkc2 : (k : Int) + 1 ≤ (c2 : Int) := by omega
                have hpc1 : (p : Int) + 1 ≤ (c2 : Int) := by omega
                have hpc2 : (p : Int) ≤ (c2 : Int) := by omega
                have hwp : IntKind.i64.wrap ((p : Int) + 1) = (p : Int) + 1 := IntWalk.i64_in _ (by omega)
                have HO2 : Hid _ := OR2
                clear hg2 B2 OR2 KP3 X3 hblk
                have hone : ∀ u ∈ flatR N L ++ [Value.int .i64 0, .bool false, .slice none 0 0], u.oneCell' = true := fun u hu => by
                  rcases List.mem_append.1 hu with h | h
                  · exact flatR_one N L u h
                  · simp at h
                    rcases h with rfl | rfl | rfl <;> rfl
                have hsz3 : (Try.prog.info? 38).map (·.size) = some 3 := by rw [hi]; simp [hz1]
                have hcp1 : ¬ (c2 : Int) = (p : Int) + 1 := by omega
                have hcp2 : ¬ (c2 : Int) = (p : Int) := by omega
                have hcp3 : ¬ c2 = p + 1 := by omega
                have hcp4 : ¬ c2 = p := by omega
                go_wp2_with fail
                go_region_held3 (fun _ => True) (trivial)
                  (first | (refine step_copy3 rfl (.tmp 53) (.tmp 56) 34 34 rfl 38 Try.underlying34 hsz3 _ _ _ _ _ _ rfl rfl g2 p (k + 1) c2 w.heap.size (k - p) _ (World.ownsRow.drew HO2.out) (by first | omega | (simp [Nat.min_def]; omega)) (by omega) (by intro _; exact ⟨rfl, rfl⟩) hone ?_; intro w4 HO4 hg4))
                have HX4 : R3At N w4 gx 0 ⟨(v : Int), true, gc⟩ := (show R3At N w3 gx 0 ⟨(v : Int), true, gc⟩ from HX3.out).of_block (hg4.block gx (by have := hg2l; have := (show R3At N w3 gx 0 ⟨(v : Int), true, gc⟩ from HX3.out).lt; exact this) (by simpa using hne2))
                have x0c := HX4.c0
                have x1c := HX4.c1
                have x2c := HX4.c2
                simp only [Nat.zero_add] at x1c x2c
                obtain ⟨y0, y1, y2, d0, d1, d2⟩ := ins_there (p := p) (N := N) hp HO4.out
                have f0 := World.ownsRow.frozenAt HO4.out (p * 3)
                have f1 := World.ownsRow.frozenAt HO4.out (p * 3 + 1)
                have f2 := World.ownsRow.frozenAt HO4.out (p * 3 + 2)
                have HST5 := ins_stored HLk.out hp rfl ⟨(v : Int), true, gc⟩ HO4.out
                have H5 : Hid _ := HST5
                clear HST5 HX4 hone hsz3 HO2 HO4
                go_wp2_with fail
                obtain ⟨O6, g6⟩ := H5.out
                have keep5 : ∀ q, IntB W1 q → _ = _ := fun q h => leaves_keep BQd HK3.out hg4 g6 h
                have M5 := leaves_mean (zs := zs) (i := i) (v := v) (p := p) (gc := gc) HVJ.out hv0 hp HLk.out HM1.out.1 (fun x hx => keep5 _ (HM1.out.2 x hx)) HSG.out (keep5 gc IG1) HP.out HEX.out
                have I5 : ∀ x ∈ L.take p ++ (⟨(v : Int), true, gc⟩ : Rm) :: L.drop p, IntB _ x.gc := fun x hx => by
                  rcases List.mem_append.1 hx with h | h
                  · exact (HM1.out.2 x (List.mem_of_mem_take h)).keep (keep5 _ (HM1.out.2 x (List.mem_of_mem_take h)))
                  · rcases List.mem_cons.1 h with h | h
                    · subst h; exact IG1.keep (keep5 gc IG1)
                    · exact (HM1.out.2 x (List.mem_of_mem_drop h)).keep (keep5 _ (HM1.out.2 x (List.mem_of_mem_drop h)))
                go_roundw
                case rel =>
                  refine ⟨i + 1, k + 1, c2, some ⟨g2, 0, none⟩, L.take p ++ (⟨(v : Int), true, gc⟩ : Rm) :: L.drop p, by omega, by omega, by go_num, rfl, ?_, O6, ?_, (⟨M5, I5⟩ : _ ∧ _)⟩
                  · show _ = _
                    have := HLk.out
                    simp only [List.length_append, List.length_take, List.length_cons, List.length_drop]
                    omega
                  · exact (BB3.drew.trans (below_of_grown hg4 hg2b (by have := BB3.size; simpa using this))).trans (below_of_grown g6 hg2b (by have h7 := hg4.size; have := BB3.size; simp at h7; omega))
                case measure => simp [intOf]; omega
            · have hpi : ¬ (p : Int) < (k : Int) := by omega
              have HPE : Hid (p = k) := by show _ = _; omega
              have HEX : Hid (p = (LFk zs i).length ∨ v < ((LFk zs i).getD p (0, 0)).1) := .inl (by have h1 := HM1.out.1.len; rw [itF_len] at h1; have := HLk.out; omega)
              go_wp2_with fail
              go_quiet (fail)
              have ORd : (wr.drewN nq).ownsRow w.heap.size 38 3 (.slice b k c) k (flatR N L) := ORq
              have Xd : R3At N (wr.drewN nq) gx 0 ⟨(v : Int), true, gc⟩ := Xq.of_block rfl
              have BQd : Below W1.heap.size W1 (wr.drewN nq) := below_drewN BQ nq
              have Y3d : Hid (∃ y0 y1 y2, (wr.drewN nq).heap[gx]? = some (.cells #[y0, y1, y2] 38 (0, 0))) := Yq
              clear ORq Xq BQ Yq xa xb xc
              generalize wr.drewN nq = w2 at *
              have hs2 : W1.heap.size ≤ w2.heap.size := BQd.size
              have hw1 : w.heap.size ≤ W1.heap.size := B1.size
              have hgx2 : gx < w2.heap.size := by omega
              go_wp2_with (at_builtin; refine wpList_app3 rfl (.tmp 46) (.tmp 48) 34 rfl w.heap.size 38 i0 _ 40 Try.underlying34 hi hz0 hz1 hz2 rfl (ORd.alloc _) (r := [.int .i64 0, .bool false, .slice none 0 0]) rfl (by simp [Value.oneCell']) (new_cells3 w2 _ _ _ _) rfl rfl (by omega) (by omega) (by simp; omega) ?_; intro b2 c2 w3 OR2 hg2 B2)
              obtain ⟨g2, c2', hv, hkc, hg2b, hg2l⟩ := own_shape3 OR2 (by omega)
              simp only [Value.slice.injEq] at hv
              obtain ⟨rfl, _, rfl⟩ := hv
              have hblk : ∀ q, q < w2.heap.size → some q ≠ (Value.slice b k c).ownBlock → w3.heap[q]? = w2.heap[q]? := fun q hq hne => (hg2.block q (by simp; omega) hne).trans (((Below.refl _ w2).alloc (Nat.le_refl _) _).block q hq)
              have hgxr : some gx ≠ (Value.slice b k c).ownBlock := fun e => by have := hrb.out gx e.symm; omega
              have X3 := Xd.of_block (hblk gx hgx2 hgxr)
              have hne2 : gx ≠ g2 := fun e => by
                subst e
                obtain ⟨y0, y1, y2, hy⟩ := Y3d.out
                rw [← hblk gx hgx2 hgxr] at hy
                have hc1 := OR2.cellAt (k * 3 + 1) (by omega)
                rw [List.getElem?_append_right (by rw [flatR_len, HLk.out]; omega), flatR_len, HLk.out, Nat.add_sub_cancel_left, cell_of_row w3 gx (k * 3 + 1) _ _ (0, 0) hy] at hc1
                rcases Nat.eq_zero_or_pos k with h0 | h0
                · subst h0
                  have h2 := X3.c1
                  rw [cell_of_row w3 gx (0 + 1) _ _ (0, 0) hy] at h2
                  simp at hc1 h2
                  rw [hc1] at h2
                  simp at h2
                · obtain ⟨t, rfl⟩ : ∃ t, k = t + 1 := ⟨k - 1, by omega⟩
                  have : (#[y0, y1, y2] : Array Value)[(t + 1) * 3 + 1]? = none := by simp; omega
                  rw [this] at hc1
                  simp at hc1
              have KP3 : ∀ q, IntB w2 q → w3.heap[q]? = w2.heap[q]? ∧ q ≠ g2 := fun q h => by
                have h1 := hblk q h.lt (apart3 ORd h)
                refine ⟨h1, fun e => ?_⟩
                have h2 := apart3 OR2 (h.keep h1)
                rw [e] at h2
                exact h2 rfl
              have HK3 : Hid _ := KP3
              have HX3 : Hid _ := X3
              have BB3 : Below w.heap.size w w3 := (B1.trans (BQd.mono hw1)).trans (((Below.refl _ w2).alloc (by omega) _).trans B2)
              have hpk1 : (p : Int) + 1 ≤ (k : Int) + 1 := by omega
              have hpk2 : (p : Int) ≤ (k : Int) + 1 := by omega
              have hpz : (0 : Int) ≤ (p : Int) + 1 := by omega
              have hkc2 : (k : Int) + 1 ≤ (c2 : Int) := by omega
              have hpc1 : (p : Int) + 1 ≤ (c2 : Int) := by omega
              have hpc2 : (p : Int) ≤ (c2 : Int) := by omega
              have hwp : IntKind.i64.wrap ((p : Int) + 1) = (p : Int) + 1 := IntWalk.i64_in _ (by omega)
              have HO2 : Hid _ := OR2
              clear hg2 B2 OR2 KP3 X3 hblk
              have hone : ∀ u ∈ flatR N L ++ [Value.int .i64 0, .bool false, .slice none 0 0], u.oneCell' = true := fun u hu => by
                rcases List.mem_append.1 hu with h | h
                · exact flatR_one N L u h
                · simp at h
                  rcases h with rfl | rfl | rfl <;> rfl
              have hsz3 : (Try.prog.info? 38).map (·.size) = some 3 := by rw [hi]; simp [hz1]
              have hcp4 : ¬ c2 = p := by omega
              have hmz : Hid (k - p = 0) := by show _ = _; have := HPE.out; omega
              go_wp2_with fail
              go_region_held3 (fun _ => True) (trivial)
                (first | (refine step_copy3 rfl (.tmp 53) (.tmp 56) 34 34 rfl 38 Try.underlying34 hsz3 _ _ _ _ _ _ rfl rfl g2 p (k + 1) c2 w.heap.size (k - p) _ (World.ownsRow.drew HO2.out) (by first | omega | (simp [Nat.min_def]; omega)) (by omega) (by intro h0; have := hmz.out; omega) hone ?_; intro w4 HO4 hg4))
              have HX4 : R3At N w4 gx 0 ⟨(v : Int), true, gc⟩ := (show R3At N w3 gx 0 ⟨(v : Int), true, gc⟩ from HX3.out).of_block (hg4.block gx (by have := hg2l; have := (show R3At N w3 gx 0 ⟨(v : Int), true, gc⟩ from HX3.out).lt; exact this) (by simpa using hne2))
              have x0c := HX4.c0
              have x1c := HX4.c1
              have x2c := HX4.c2
              simp only [Nat.zero_add] at x1c x2c
              obtain ⟨y0, y1, y2, d0, d1, d2⟩ := ins_there (p := p) (N := N) hp HO4.out
              have f0 := World.ownsRow.frozenAt HO4.out (p * 3)
              have f1 := World.ownsRow.frozenAt HO4.out (p * 3 + 1)
              have f2 := World.ownsRow.frozenAt HO4.out (p * 3 + 2)
              have HST5 := ins_stored HLk.out hp rfl ⟨(v : Int), true, gc⟩ HO4.out
              have H5 : Hid _ := HST5
              clear HST5 HX4 hone hsz3 HO2 HO4
              go_wp2_with fail
              obtain ⟨O6, g6⟩ := H5.out
              have keep5 : ∀ q, IntB W1 q → _ = _ := fun q h => leaves_keep BQd HK3.out hg4 g6 h
              have M5 := leaves_mean (zs := zs) (i := i) (v := v) (p := p) (gc := gc) HVJ.out hv0 hp HLk.out HM1.out.1 (fun x hx => keep5 _ (HM1.out.2 x hx)) HSG.out (keep5 gc IG1) HP.out HEX.out
              have I5 : ∀ x ∈ L.take p ++ (⟨(v : Int), true, gc⟩ : Rm) :: L.drop p, IntB _ x.gc := fun x hx => by
                rcases List.mem_append.1 hx with h | h
                · exact (HM1.out.2 x (List.mem_of_mem_take h)).keep (keep5 _ (HM1.out.2 x (List.mem_of_mem_take h)))
                · rcases List.mem_cons.1 h with h | h
                  · subst h; exact IG1.keep (keep5 gc IG1)
                  · exact (HM1.out.2 x (List.mem_of_mem_drop h)).keep (keep5 _ (HM1.out.2 x (List.mem_of_mem_drop h)))
              go_roundw
              case rel =>
                refine ⟨i + 1, k + 1, c2, some ⟨g2, 0, none⟩, L.take p ++ (⟨(v : Int), true, gc⟩ : Rm) :: L.drop p, by omega, by omega, by go_num, rfl, ?_, O6, ?_, (⟨M5, I5⟩ : _ ∧ _)⟩
                · show _ = _
                  have := HLk.out
                  simp only [List.length_append, List.length_take, List.length_cons, List.length_drop]
                  omega
                · exact (BB3.drew.trans (below_of_grown hg4 hg2b (by have := BB3.size; simpa using this))).trans (below_of_grown g6 hg2b (by have h7 := hg4.size; have := BB3.size; simp at h7; omega))
              case measure => simp [intOf]; omega
    · obtain rfl : i = N := by omega
      go_wp2
      go_ret
      have hLk := HLk.out
      have hml := HML.out.1
      have e : LFk zs i = LFz zs := by unfold LFk LFz; rw [hN.out]
      rw [e] at hml
      exact ⟨b, c, L, by rw [hLk]; rfl, by rw [hml.len, itF_len], (by have := own_facts3 OR; rw [hLk]; exact this.1), own_RR OR hLk, hml, BR⟩
end Go.Proofs.Ytfohapfdcdlpeaa
