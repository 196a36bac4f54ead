
import Derived.Test.YtfohapfdcdlpeaaLnR3
import Derived.Test.YtfohapfdcdlpeaaLnLen2
namespace Go.Proofs.Ytfohapfdcdlpeaa
open Go.RowKit
set_option linter.unusedVariables false

theorem own_below3 {w w' : World} {base n : Nat} {e : TypeId} {v : Value} {xs : List Value} (h : w.ownsRow base e 3 v n xs) (hb : Below w.heap.size w w') : w'.ownsRow base e 3 v n xs := by
  rcases h with ⟨hl, h | ⟨g, cap, cur, hv, hg, hh, rest⟩⟩
  · exact ⟨hl, .inl h⟩
  · exact ⟨hl, .inr ⟨g, cap, cur, hv, hg, by rw [hb.block g (Array.getElem?_eq_some_iff.1 hh).1]; exact hh, rest⟩⟩

def IntB (w : World) (g : Nat) : Prop := ∃ cs fr, w.heap[g]? = some (.cells cs 3 fr)
theorem IntB.keep {w w' : World} {g : Nat} (h : IntB w g) (hb : w'.heap[g]? = w.heap[g]?) : IntB w' g := by
  obtain ⟨cs, fr, h⟩ := h
  exact ⟨cs, fr, hb.trans h⟩
theorem IntB.lt {w : World} {g : Nat} (h : IntB w g) : g < w.heap.size := by
  obtain ⟨cs, fr, h⟩ := h
  exact (Array.getElem?_eq_some_iff.1 h).1
theorem own_intB {w : World} {base n g cap : Nat} {xs : List Value} (h : w.ownsRow base 3 1 (.slice (some ⟨g, 0, none⟩) n cap) n xs) : IntB w g := by
  rcases h.2 with ⟨h1, _⟩ | ⟨g', cap', cur, hv, _, hh, _⟩
  · cases h1
  · simp only [Value.slice.injEq, Option.some.injEq, Addr.mk.injEq] at hv
    obtain ⟨⟨rfl, _⟩, _⟩ := hv
    exact ⟨_, _, hh⟩
theorem apart3 {w : World} {base n g : Nat} {v : Value} {xs : List Value} (h : w.ownsRow base 38 3 v n xs) (k : IntB w g) : some g ≠ v.ownBlock := by
  intro e
  rcases h.2 with ⟨rfl, _⟩ | ⟨g', cap', cur, rfl, _, hh, _⟩
  · simp [Value.ownBlock] at e
  · simp [Value.ownBlock] at e
    subst e
    obtain ⟨cs, fr, hk⟩ := k
    rw [hh] at hk
    simp at hk
theorem M3.keep {N : Nat} {w w' : World} {L : List Rm} {ts : List It} (h : M3 N w L ts) (hk : ∀ x ∈ L, w'.heap[x.gc]? = w.heap[x.gc]?) : M3 N w' L ts :=
  ⟨h.len, h.wt, fun k hl => (h.seg k hl).of_cells fun b off i v hi ha hcl => by
    cases ha
    have hm : L.getD k rm0 ∈ L := by simp [List.getD, hl]
    rw [World.cell?_of_block (hk _ hm)]
    exact hcl⟩
theorem cnt_eq {N : Nat} {A : List Int} {l : List Nat} (h1 : A.length = N) (h2 : ∀ i, i < N → A.getD i 0 = (l.count i : Int)) : A = cnt N l := by
  apply List.ext_getElem (by rw [h1, cnt_len])
  intro i hi hi2
  have h3 := h2 i (by omega)
  have h4 := cnt_get l (show i < N by omega)
  simp only [List.getD, List.getElem?_eq_getElem hi, Option.getD_some] at h3
  simp only [List.getD, List.getElem?_eq_getElem hi2, Option.getD_some] at h4
  rw [h3, h4]
/-- Two blocks made by one statement, in one order or the other. -/
structure TwoNew (wr W : World) (gx gc N sm : Nat) : Prop where
  bw : Below wr.heap.size wr W
  ne : gx ≠ gc
  x : R3At N W gx 0 ⟨(sm : Int), false, gc⟩
  own : W.ownsRow wr.heap.size 3 1 (.slice (some ⟨gc, 0, none⟩) N N) N ((List.replicate N (0 : Int)).map (Value.int .i64))
  lo : wr.heap.size ≤ gx
theorem cell_new (w : World) (x y z : Value) (t : TypeId) : (w.alloc (.cells #[x, y, z] t)).cell? ⟨w.heap.size, 0, none⟩ = some x ∧ (w.alloc (.cells #[x, y, z] t)).cell? ⟨w.heap.size, 0 + 1, none⟩ = some y ∧ (w.alloc (.cells #[x, y, z] t)).cell? ⟨w.heap.size, 0 + 2, none⟩ = some z := by
  have hh := heap_alloc_new w (.cells #[x, y, z] t)
  refine ⟨?_, ?_, ?_⟩ <;> (simp only [World.cell?, hh]; simp)
theorem two_a (wr : World) (N sm : Nat) (hN : N ≤ 100000) : TwoNew wr ((wr.alloc (.cells (Array.replicate N (.int .i64 0)) 3)).alloc (.cells #[.int .i64 (sm : Int), .bool false, .slice (some ⟨wr.heap.size, 0, none⟩) N N] 38)).drew (wr.heap.size + 1) wr.heap.size N sm := by
  have hsz : (wr.alloc (.cells (Array.replicate N (.int .i64 0)) 3)).heap.size = wr.heap.size + 1 := by simp
  have O2 := own_zeros wr N hN
  obtain ⟨c0, c1, c2⟩ := cell_new (wr.alloc (.cells (Array.replicate N (.int .i64 0)) 3)) (.int .i64 (sm : Int)) (.bool false) (.slice (some ⟨wr.heap.size, 0, none⟩) N N) 38
  rw [hsz] at c0 c1 c2
  exact ⟨((((Below.refl _ _).alloc (Nat.le_refl _) _).alloc (by simp) _).drew), by omega, ⟨c0, c1, c2⟩, own_below O2 ((((Below.refl _ _).alloc (Nat.le_refl _) _).drew)), by omega⟩
theorem two_b (wr : World) (N sm : Nat) (hN : N ≤ 100000) : TwoNew wr ((wr.alloc (.cells #[.int .i64 (sm : Int), .bool false, .slice (some ⟨wr.heap.size + 1, 0, none⟩) N N] 38)).alloc (.cells (Array.replicate N (.int .i64 0)) 3)).drew wr.heap.size (wr.heap.size + 1) N sm := by
  have hsz : (wr.alloc (.cells #[.int .i64 (sm : Int), .bool false, .slice (some ⟨wr.heap.size + 1, 0, none⟩) N N] 38)).heap.size = wr.heap.size + 1 := by simp
  obtain ⟨c0, c1, c2⟩ := cell_new wr (.int .i64 (sm : Int)) (.bool false) (.slice (some ⟨wr.heap.size + 1, 0, none⟩) N N) 38
  have O2 := own_zeros (wr.alloc (.cells #[.int .i64 (sm : Int), .bool false, .slice (some ⟨wr.heap.size + 1, 0, none⟩) N N] 38)) N hN
  rw [hsz] at O2
  have R : R3At N (wr.alloc (.cells #[.int .i64 (sm : Int), .bool false, .slice (some ⟨wr.heap.size + 1, 0, none⟩) N N] 38)) wr.heap.size 0 ⟨(sm : Int), false, wr.heap.size + 1⟩ := ⟨c0, c1, c2⟩
  have B1 : Below wr.heap.size wr (wr.alloc (.cells #[.int .i64 (sm : Int), .bool false, .slice (some ⟨wr.heap.size + 1, 0, none⟩) N N] 38)) := (Below.refl _ _).alloc (Nat.le_refl _) _
  generalize wr.alloc (.cells #[.int .i64 (sm : Int), .bool false, .slice (some ⟨wr.heap.size + 1, 0, none⟩) N N] 38) = V at *
  have B2 : Below V.heap.size V (V.alloc (.cells (Array.replicate N (.int .i64 0)) 3)).drew := ((Below.refl _ _).alloc (Nat.le_refl _) _).drew
  exact ⟨B1.trans (B2.mono (by omega)), by omega, R.of_block (B2.block _ (by omega)), own_base O2.drew (by omega), by omega⟩

set_option maxRecDepth 100000 in
set_option maxHeartbeats 2000000 in
theorem rpacked_any (N : Nat) (hN : N ≤ 288) (a : Option Addr) (n cap : Nat) (L : List Rm) (ts : List It) (w : World) (hn : Hid (L.length = n)) (hR : RR N w a L) (hM : M3 N w L ts) (hb : ∀ t ∈ ts, t.1 ≤ 1152921504606846976 ∧ t.2.length ≤ 1152921504606846976) (hl : n ≤ 100000) :
    Calls Try.prog 13 #[.slice a n cap] w fun e w' => ∃ b c' L', e = .returned (.slice b L'.length c') ∧ L'.length = n / 2 ∧ L'.length ≤ c' ∧ RR N w' b L' ∧ M3 N w' L' (pk ts) ∧ Below w.heap.size w w' := by
  obtain ⟨i0, hi, hz0, hz1, hz2⟩ := info_parts info_item3
  go_enter Try.func13, Try.ntmps13
  go_wp2_with fail
  go_loopw [3, 4] (fun to ti wr => ∃ (k c : Nat) (b : Option Addr) (P : List Rm), 2 * k ≤ n ∧ ti = .int .i64 (2 * (k : Int)) ∧ to = .slice b k c ∧ Hid (P.length = k) ∧ wr.ownsRow w.heap.size 38 3 (.slice b k c) k (flatR N P) ∧ Below w.heap.size w wr ∧ Hid (M3 N wr P (pk (ts.take (2 * k))) ∧ ∀ x ∈ P, IntB wr x.gc)) (fun _ ti _ => n + 2 - (intOf ti).toNat)
  case atStart => exact ⟨0, 0, none, [], by omega, by simp, rfl, (rfl : _ = _), World.ownsRow_nil _ _ _ _, Below.refl _ _, (⟨by simpa [pk] using M3.nil N w, fun x h => by simp at h⟩ : _ ∧ _)⟩
  case round =>
    obtain ⟨k, c, b, P, hk, rfl, rfl, HPk, OR, BR, HML⟩ := hrel
    by_cases h1 : 2 * k + 1 < n
    · have h1i : 2 * (k : Int) + 1 < (n : Int) := by omega
      obtain ⟨p, hp⟩ : ∃ p, p = 2 * k := ⟨_, rfl⟩
      obtain ⟨q, hq⟩ : ∃ q, q = 2 * k + 1 := ⟨_, rfl⟩
      obtain ⟨g, off, rfl, x⟩ := hR.at_ p (by have := hn.out; omega)
      obtain ⟨g', off', e, y⟩ := hR.at_ q (by have := hn.out; omega)
      cases e
      have x2 := x.of_block (BR.block g x.lt)
      have y2 := y.of_block (BR.block g x.lt)
      have s1 := (hM.seg p (by have := hn.out; omega)).old BR
      have s2 := (hM.seg q (by have := hn.out; omega)).old BR
      have e1 := hM.wt p (by have := hn.out; omega)
      have e2 := hM.wt q (by have := hn.out; omega)
      have hlt := hM.len
      have hb1 := hb (ts.getD p it0) (by have := hn.out; simp [List.getD, show p < ts.length by omega])
      have hb2 := hb (ts.getD q it0) (by have := hn.out; simp [List.getD, show q < ts.length by omega])
      have HPK : Hid (pk (ts.take (2 * (k + 1))) = pk (ts.take (2 * k)) ++ [((ts.getD p it0).1 + (ts.getD q it0).1, (ts.getD p it0).2 ++ (ts.getD q it0).2)]) := by
        rw [hp, hq]; exact pk_snoc ts k (by have := hn.out; omega)
      generalize ts.getD p it0 = s at *
      generalize ts.getD q it0 = u at *
      generalize L.getD p rm0 = X at *
      generalize L.getD q rm0 = Y at *
      obtain ⟨X0, X1, X2⟩ := X
      obtain ⟨Y0, Y1, Y2⟩ := Y
      simp only at e1 e2
      subst e1 e2
      obtain ⟨xa, xb, xc⟩ := x2
      obtain ⟨ya, yb, yc⟩ := y2
      simp only at xa xb xc ya yb yc s1 s2
      have r0 : 2 * (k : Int) = (p : Int) := by omega
      have r1 : (p : Int) + 1 = (q : Int) := by omega
      obtain ⟨sm, hsm⟩ : ∃ sm, sm = s.1 + u.1 := ⟨_, rfl⟩
      have r3 : (s.1 : Int) + (u.1 : Int) = (sm : Int) := by omega
      have HSM : Hid (sm = s.1 + u.1) := hsm
      have HQ : Hid (q = 2 * k + 1 ∧ p = 2 * k) := ⟨hq, hp⟩
      have z1 : (p : Int) < (n : Int) := by omega
      have z2 : (q : Int) < (n : Int) := by omega
      have zs : sm ≤ 2305843009213693952 := by omega
      have hmk := run_make_ints N (by omega)
      rw [r0]
      have hgw : g < wr.heap.size := World.block_lt_of_cell? wr _ xa
      have up : ∀ (ob : Obj) (j : Nat) (v : Value), wr.cell? ⟨g, j, none⟩ = some v → (wr.alloc ob).drew.cell? ⟨g, j, none⟩ = some v := fun ob j v h => (((Below.refl wr.heap.size wr).alloc (Nat.le_refl _) ob).cell (p := ⟨g, j, none⟩) hgw).trans h
      have xa1 : ∀ ob, (wr.alloc ob).drew.cell? ⟨g, off + p * 3, none⟩ = some (.int .i64 (s.1 : Int)) := fun ob => up ob _ _ xa
      have xc1 : ∀ ob, (wr.alloc ob).drew.cell? ⟨g, off + p * 3 + 2, none⟩ = some (.slice (some ⟨X2, 0, none⟩) N N) := fun ob => up ob _ _ xc
      have ya1 : ∀ ob, (wr.alloc ob).drew.cell? ⟨g, off + q * 3, none⟩ = some (.int .i64 (u.1 : Int)) := fun ob => up ob _ _ ya
      clear hsm hq hp x y h1i up
      go_wp2_with fail
      have hok : N ≤ 100000 := by omega
      obtain ⟨hw0, hhw0⟩ : ∃ hw0, hw0 = wr.heap.size := ⟨_, rfl⟩
      go_region
      all_goals first
        | (have T := two_a wr N sm hok
           obtain ⟨W, hW⟩ : ∃ W, W = ((wr.alloc (.cells (Array.replicate N (.int .i64 0)) 3)).alloc (.cells #[.int .i64 (sm : Int), .bool false, .slice (some ⟨wr.heap.size, 0, none⟩) N N] 38)).drew := ⟨_, rfl⟩
           rw [← hW] at T ⊢
           clear hW
           generalize wr.heap.size + 1 = gx at T ⊢
           generalize wr.heap.size = gc at T ⊢)
        | (have T := two_b wr N sm hok
           obtain ⟨W, hW⟩ : ∃ W, W = ((wr.alloc (.cells #[.int .i64 (sm : Int), .bool false, .slice (some ⟨wr.heap.size + 1, 0, none⟩) N N] 38)).alloc (.cells (Array.replicate N (.int .i64 0)) 3)).drew := ⟨_, rfl⟩
           rw [← hW] at T ⊢
           clear hW
           generalize wr.heap.size + 1 = gc at T ⊢
           generalize wr.heap.size = gx at T ⊢)
      all_goals
        have B0 : Below w.heap.size w W := BR.trans (T.bw.mono BR.size)
        have HOR : Hid _ := OR
        have hgc : wr.heap.size ≤ gc ∧ gc < W.heap.size := T.own.lt gc rfl
        have hgxl : gx < W.heap.size := T.x.lt
        have o0 := T.own
        have HT : Hid (TwoNew wr W gx gc N sm) := T
        have n0 : (List.replicate N (0 : Int)).length = N := by simp
        clear T OR
        go_wp2_with fail
        go_loopw [6] (fun tj wj => ∃ (j : Nat) (A : List Int), j ≤ N ∧ tj = .int .i64 j ∧ Hid (A.length = N ∧ ∀ i, i < j → A.getD i 0 = ((s.2 ++ u.2).count i : Int)) ∧ wj.ownsRow wr.heap.size 3 1 (.slice (some ⟨gc, 0, none⟩) N N) N (A.map (Value.int .i64)) ∧ W.grownBy wj (some gc)) (fun tj _ => N - (intOf tj).toNat)
        case atStart => exact ⟨0, _, Nat.zero_le _, rfl, (⟨n0, fun i h => by omega⟩ : _ ∧ _), o0, World.grownBy.refl _ _⟩
        case round =>
          obtain ⟨j, A, hj, rfl, HA, OJ, GJ⟩ := hrel
          have BJ := HT.out.bw.trans ((Below.refl _ W).grown GJ HT.out.bw.size (fun i hi => by cases hi; exact hgc.1))
          have xcj := (BJ.cell (p := ⟨g, off + p * 3 + 2, none⟩) hgw).trans xc
          have ycj := (BJ.cell (p := ⟨g, off + q * 3 + 2, none⟩) hgw).trans yc
          obtain ⟨x0j, x1j, x2j⟩ := HT.out.x.of_block (GJ.block gx hgxl (by have := HT.out.ne; simpa using this))
          simp only [Nat.zero_add] at x0j x1j x2j
          by_cases hjN : j < N
          · have hji : (j : Int) < (N : Int) := by omega
            obtain ⟨_, _, ee1, c1⟩ := (s1.old BJ).at_ j (by rw [cnt_len]; exact hjN)
            obtain ⟨_, _, ee2, c2⟩ := (s2.old BJ).at_ j (by rw [cnt_len]; exact hjN)
            cases ee1
            cases ee2
            rw [cnt_get _ hjN, Nat.zero_add] at c1 c2
            have b1 : s.2.count j ≤ 1152921504606846976 := Nat.le_trans List.count_le_length hb1.2
            have b2 : u.2.count j ≤ 1152921504606846976 := Nat.le_trans List.count_le_length hb2.2
            have HCN : Hid ((s.2 ++ u.2).count j = s.2.count j + u.2.count j) := List.count_append ..
            generalize s.2.count j = cs at *
            generalize u.2.count j = cu at *
            obtain ⟨ct, hct⟩ : ∃ ct, ct = cs + cu := ⟨_, rfl⟩
            have r9 : (cs : Int) + (cu : Int) = (ct : Int) := by omega
            have HCT : Hid (ct = cs + cu) := hct
            have hctb : ct ≤ 2305843009213693952 := by omega
            obtain ⟨a0, fz⟩ := own_cell1 OJ (i := j) (by have := HA.out.1; omega)
            have f0 := fz j
            have HST := OJ.stored j (.int .i64 (ct : Int))
            rw [← List.map_set] at HST
            have HSS : Hid _ := HST
            clear HST hct fz
            have HA2 : Hid ((A.set j (ct : Int)).length = N ∧ ∀ i, i < j + 1 → (A.set j (ct : Int)).getD i 0 = ((s.2 ++ u.2).count i : Int)) := by
              obtain ⟨q1, q2⟩ := HA.out
              refine ⟨by simp [q1], fun i hi => ?_⟩
              by_cases e : i = j
              · subst e
                have h8 : ((s.2 ++ u.2).count i : Int) = (ct : Int) := by rw [HCN.out, HCT.out]
                rw [h8]
                simp [List.getD, show i < A.length by omega]
              · have := q2 i (by omega)
                rw [← this]
                simp [List.getD, show ¬ j = i by omega]
            clear HA
            go_wp2_with fail
            go_region
            all_goals
              go_wp2
              go_roundw
              case rel =>
                obtain ⟨o3, g3⟩ := HSS.out
                exact ⟨j + 1, A.set j (ct : Int), by omega, by go_num, HA2, o3.drew, by have h7 := GJ.trans g3; exact ⟨h7.os, h7.tape, h7.output, h7.size, h7.block⟩⟩
              case measure => simp [intOf]; omega
          · obtain rfl : N = j := by omega
            have hNi : ¬ (N : Int) < (N : Int) := by omega
            have ORj := own_below3 HOR.out BJ
            have BRj := BR.trans (BJ.mono BR.size)
            have HMj : Hid (M3 N wr P (pk (ts.take (2 * k))) ∧ ∀ x ∈ P, IntB wr x.gc) := ⟨HML.out.1.old BJ, fun x hx => (HML.out.2 x hx).keep (BJ.block _ (HML.out.2 x hx).lt)⟩
            have IG := own_intB OJ
            have HAE := cnt_eq HA.out.1 HA.out.2
            have SGC : SegZ wr (some ⟨gc, 0, none⟩) (cnt N (s.2 ++ u.2)) := by
              rw [← HAE]
              refine own_segZ OJ (fun z hz => ?_)
              rw [HAE] at hz
              unfold cnt at hz
              obtain ⟨i, _, rfl⟩ := List.mem_map.1 hz
              have h5 : (s.2 ++ u.2).count i ≤ (s.2 ++ u.2).length := List.count_le_length
              rw [List.length_append] at h5
              omega
            have HSG : Hid _ := SGC
            have hbs := BRj.size
            clear HAE SGC HA
            go_wp2_with (at_builtin; refine wpList_app3 rfl (.tmp 63) (.tmp 65) 34 rfl w.heap.size 38 i0 _ 40 Try.underlying34 hi hz0 hz1 hz2 rfl (ORj.alloc _) (r := Rm.cells N ⟨(sm : Int), false, gc⟩) rfl (by simp [Rm.cells, Value.oneCell']) (new_cells3 wr _ _ _ _) rfl rfl (by omega) (by omega) (by simp; omega) ?_; intro b2 c2 w3 OR2 hg2 B2)
            have B3 : Below w.heap.size w w3 := BRj.trans (((Below.refl _ _).alloc hbs _).trans B2)
            have KP : ∀ g', IntB wr g' → w3.heap[g']? = wr.heap[g']? := fun g' h => (hg2.block g' (by have := h.lt; simp; omega) (apart3 ORj h)).trans (((Below.refl _ wr).alloc (Nat.le_refl _) _).block g' h.lt)
            have HM3 : Hid (M3 N w3 (P ++ [⟨(sm : Int), false, gc⟩]) (pk (ts.take (2 * (k + 1)))) ∧ ∀ x ∈ P ++ [(⟨(sm : Int), false, gc⟩ : Rm)], IntB w3 x.gc) := by
              rw [HPK.out]
              refine ⟨(HMj.out.1.keep (fun x hx => KP _ (HMj.out.2 x hx))).app (M3.one (by show (sm : Int) = _; rw [HSM.out]) (HSG.out.of_cells fun b' off' i v hi' ha hcl => by cases ha; rw [World.cell?_of_block (KP gc IG)]; exact hcl)), fun x hx => ?_⟩
              rcases List.mem_append.1 hx with hx | hx
              · exact (HMj.out.2 x hx).keep (KP _ (HMj.out.2 x hx))
              · simp only [List.mem_singleton] at hx
                subst hx
                exact IG.keep (KP gc IG)
            have HPL : Hid ((P ++ [(⟨(sm : Int), false, gc⟩ : Rm)]).length = k + 1) := by
              have h9 := HPk.out
              show _ = _
              rw [List.length_append, h9]; rfl
            have OR3 : w3.ownsRow w.heap.size 38 3 (.slice b2 (k + 1) c2) (k + 1) (flatR N (P ++ [⟨(sm : Int), false, gc⟩])) := by
              rw [flatR_app]
              simpa [flatR] using OR2
            clear OR2 hg2 B2 KP ORj
            go_wp2
            go_roundw
            case rel => exact ⟨k + 1, c2, b2, P ++ [⟨(sm : Int), false, gc⟩], by omega, by have := HQ.out; congr 1; omega, rfl, HPL, OR3, B3, HM3⟩
            case measure => have := HQ.out; simp [intOf]; omega
    · have h1i : ¬ 2 * (k : Int) + 1 < (n : Int) := by omega
      have hk2 : k = n / 2 := by omega
      have HK2 : Hid (k = n / 2) := hk2
      have HPW : Hid (pk (ts.take (2 * k)) = pk ts) := pk_whole ts k (by have := hM.len; have := hn.out; omega) (by have := hM.len; have := hn.out; omega)
      clear hk2
      go_wp2
      go_ret
      have hPk := HPk.out
      have hml := HML.out.1
      rw [HPW.out] at hml
      exact ⟨b, c, P, by rw [hPk]; rfl, by rw [hPk]; exact HK2.out, (by have := own_facts3 OR; rw [hPk]; exact this.1), own_RR OR hPk, hml, BR⟩
end Go.Proofs.Ytfohapfdcdlpeaa
