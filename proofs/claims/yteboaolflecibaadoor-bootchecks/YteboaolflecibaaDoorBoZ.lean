import Derived.Test.YteboaolflecibaaDoorBoX
import Derived.Test.YteboaolflecibaaDoorBoY
import Derived.Test.YteboaolflecibaaDoorOwnUse
import Derived.Test.YteboaolflecibaaDoorSame
namespace Go.Proofs.YteboaolflecibaaDoor
open Go.RowKit Go.Shelf
set_option linter.unusedVariables false
set_option linter.unusedSimpArgs false
theorem en25_len (r : Rc25) : (en25 r).length ≤ 88 := by
  unfold en25
  split
  · unfold by25; rw [List.length_append, sm21_len]; have := be25_len r 10 (by omega); omega
  · simp
theorem en25_bd (r : Rc25) : ∀ z ∈ en25 r, 0 ≤ z ∧ z ≤ 255 := by
  unfold en25
  split
  · intro z hz
    rcases List.mem_append.1 hz with h | h
    · exact be25_bd r 10 z h
    · exact sm21_bd _ z h
  · simp
theorem own_sg25 {V : World} {N n c : Nat} {p : Option Addr} {L : List Int} (h : V.ownsRow N 5 1 (.slice p n c) n (L.map (Value.int .u8))) (hb : ∀ z ∈ L, 0 ≤ z ∧ z ≤ 255) : Seg V p L := by
  obtain ⟨-, a, c2, hx, s, -⟩ := own_seg (M := 255) h (by decide) hb
  injection hx with y1 y2 y3
  subst y1
  exact s
set_option maxRecDepth 100000 in
set_option maxHeartbeats 16000000 in
theorem bootChecks_walk (w : World) (ht : Tab w) (r : Rc25) (wd : r.wd) : Calls Tryd.prog 4 #[.agg r.cs] w fun e w' => e = .returned (.bool true) ∧ Below w.heap.size w w' := by
  have HT : Hid (∀ V, Below w.heap.size w V → Tab V) := fun V hV => ht.old hV
  have HFC : Hid (∀ W, Calls Tryd.prog 11 #[.agg r.cs] W fun e w' => e = .returned (.agg r.cs) ∧ Below W.heap.size W w') := fun W => pfc25 r W
  have HEN : Hid (∀ W, Tab W → Calls Tryd.prog 10 #[.agg r.cs] W fun e w' => ∃ p c, e = .returned (.tuple #[.slice p (en25 r).length c, .int .i64 (ck25 r)]) ∧ w'.ownsRow W.heap.size 5 1 (.slice p (en25 r).length c) (en25 r).length ((en25 r).map (Value.int .u8)) ∧ Below W.heap.size W w') := fun W h => pencode25 r wd W h
  have HED : Hid (∀ W, Calls Tryd.prog 12 #[.agg r.cs] W fun e w' => ∃ p c, e = .returned (.tuple #[.slice p (en25 r).length c, .int .i64 (ck25 r)]) ∧ w'.ownsRow W.heap.size 5 1 (.slice p (en25 r).length c) (en25 r).length ((en25 r).map (Value.int .u8)) ∧ Below W.heap.size W w') := fun W => rencode25 r wd W
  have HCP : Hid (∀ W, Calls Tryd.prog 13 #[.agg r.cs] W fun e w' => e = .returned (.int .i64 (ck25 r)) ∧ Below W.heap.size W w') := fun W => pcheck25 r W
  have HCD : Hid (∀ W, Calls Tryd.prog 14 #[.agg r.cs] W fun e w' => e = .returned (.int .i64 (ck25 r)) ∧ Below W.heap.size W w') := fun W => rcheck25 r W
  have HL : Hid ((en25 r).length ≤ 88 ∧ ∀ z ∈ en25 r, 0 ≤ z ∧ z ≤ 255) := ⟨en25_len r, en25_bd r⟩
  clear ht wd
  generalize en25 r = B at *
  generalize ck25 r = E at *
  obtain ⟨wB, hwB⟩ : ∃ wB, wB = w.alloc (.cells r.cs 27) := ⟨_, rfl⟩
  have bB : Below w.heap.size w wB := by rw [hwB]; exact (Below.refl _ _).alloc (Nat.le_refl _) _
  have q1 : wB.heap[w.heap.size]? = some (.cells r.cs 27 (0, 0)) := by rw [hwB]; exact heap_alloc_new _ _
  have H0 : Hid (wB.heap[w.heap.size]? = some (.cells r.cs 27 (0, 0)) ∧ Below w.heap.size w wB) := ⟨q1, bB⟩
  have HWB : Hid (w.alloc (.cells r.cs 27) = wB) := hwB.symm
  clear hwB bB q1
  go_enter Tryd.func4, Tryd.ntmps4
  go_upto_region 1 with fail
  rw [HWB.out]
  go_wp2_with (refine wpList_load_row rfl 27 (.tmp 1) rfl w.heap.size rfl _ r.cs _ _ H0.out.1 Tryd.underlying27 rfl info_rc25d ?_)
  refine (HFC.out wB).mono ?_
  rintro e v1 ⟨rfl, b⟩
  have H1 : Hid (v1.heap[w.heap.size]? = some (.cells r.cs 27 (0, 0)) ∧ Below w.heap.size w v1) := ⟨(b.block _ (Array.getElem?_eq_some_iff.1 H0.out.1).1).trans H0.out.1, H0.out.2.trans (b.mono H0.out.2.size)⟩
  clear b
  go_wp2_with fail
  refine (HEN.out v1 (HT.out v1 H1.out.2)).mono ?_
  rintro e v2 ⟨pa, ca, rfl, oa, b⟩
  have H2 : Hid (v2.heap[w.heap.size]? = some (.cells r.cs 27 (0, 0)) ∧ v2.ownsRow v1.heap.size 5 1 (.slice pa B.length ca) B.length (B.map (Value.int .u8)) ∧ Below w.heap.size w v2) := ⟨(b.block _ (Array.getElem?_eq_some_iff.1 H1.out.1).1).trans H1.out.1, oa, H1.out.2.trans (b.mono H1.out.2.size)⟩
  have N1 : Hid (w.heap.size < v1.heap.size ∧ v1.heap.size ≤ v2.heap.size) := ⟨(Array.getElem?_eq_some_iff.1 H1.out.1).1, b.size⟩
  clear b oa
  go_upto_region 2 with fail
  go_wp2_with (refine wpList_load_row rfl 27 (.tmp 1) rfl w.heap.size rfl _ r.cs _ _ H2.out.1 Tryd.underlying27 rfl info_rc25d ?_)
  refine (HFC.out v2).mono ?_
  rintro e v3 ⟨rfl, b⟩
  have H3 : Hid (v3.heap[w.heap.size]? = some (.cells r.cs 27 (0, 0)) ∧ v3.ownsRow v1.heap.size 5 1 (.slice pa B.length ca) B.length (B.map (Value.int .u8)) ∧ Below w.heap.size w v3) := ⟨(b.block _ (Array.getElem?_eq_some_iff.1 H2.out.1).1).trans H2.out.1, own_below21 H2.out.2.1 b, H2.out.2.2.trans (b.mono H2.out.2.2.size)⟩
  have N3 : Hid (v2.heap.size ≤ v3.heap.size) := b.size
  clear b
  go_wp2_with fail
  refine (HEN.out v3 (HT.out v3 H3.out.2.2)).mono ?_
  rintro e v4 ⟨pb, cb, rfl, ob, b⟩
  have H4 : Hid (v4.heap[w.heap.size]? = some (.cells r.cs 27 (0, 0)) ∧ v4.ownsRow v1.heap.size 5 1 (.slice pa B.length ca) B.length (B.map (Value.int .u8)) ∧ v4.ownsRow v3.heap.size 5 1 (.slice pb B.length cb) B.length (B.map (Value.int .u8)) ∧ Below w.heap.size w v4) := ⟨(b.block _ (Array.getElem?_eq_some_iff.1 H3.out.1).1).trans H3.out.1, own_below21 H3.out.2.1 b, ob, H3.out.2.2.trans (b.mono H3.out.2.2.size)⟩
  have HAP : Hid (Ap (Value.slice pa B.length ca).ownBlock (Value.slice pb B.length cb).ownBlock) := fun k h1 h2 => by
    have a1 := (H2.out.2.1.lt k h1).2
    have a2 := (ob.lt k h2).1
    have := N3.out
    omega
  have N4 : Hid (v3.heap.size ≤ v4.heap.size) := b.size
  clear b ob
  go_upto_region 3 with fail
  go_wp2_with (refine wpList_load_row rfl 27 (.tmp 1) rfl w.heap.size rfl _ r.cs _ _ H4.out.1 Tryd.underlying27 rfl info_rc25d ?_)
  refine (HED.out v4).mono ?_
  rintro e v5 ⟨pc, cc, rfl, oc, b⟩
  have H5 : Hid (v5.heap[w.heap.size]? = some (.cells r.cs 27 (0, 0)) ∧ v5.ownsRow v1.heap.size 5 1 (.slice pa B.length ca) B.length (B.map (Value.int .u8)) ∧ v5.ownsRow v1.heap.size 5 1 (.slice pb B.length cb) B.length (B.map (Value.int .u8)) ∧ v5.ownsRow v1.heap.size 5 1 (.slice pc B.length cc) B.length (B.map (Value.int .u8)) ∧ Below w.heap.size w v5 ∧ v1.heap.size ≤ v5.heap.size) := ⟨(b.block _ (Array.getElem?_eq_some_iff.1 H4.out.1).1).trans H4.out.1, own_below21 H4.out.2.1 b, own_base21 (own_below21 H4.out.2.2.1 b) (by have := N1.out; have := N3.out; omega), own_base21 oc (by have := N1.out; have := N3.out; have := N4.out; omega), H4.out.2.2.2.trans (b.mono H4.out.2.2.2.size), by have := N1.out; have := N3.out; have := N4.out; have := b.size; omega⟩
  clear b oc
  go_upto_region 4 with fail
  obtain ⟨v6, hv⟩ : ∃ v, v = v5.drew := ⟨_, rfl⟩
  have HV : Hid (v5.drew = v6) := hv.symm
  have b : Below v5.heap.size v5 v6 := by rw [hv]; exact (Below.refl _ _).drew
  have H6 : Hid (v6.heap[w.heap.size]? = some (.cells r.cs 27 (0, 0)) ∧ v6.ownsRow v1.heap.size 5 1 (.slice pa B.length ca) B.length (B.map (Value.int .u8)) ∧ v6.ownsRow v1.heap.size 5 1 (.slice pb B.length cb) B.length (B.map (Value.int .u8)) ∧ v6.ownsRow v1.heap.size 5 1 (.slice pc B.length cc) B.length (B.map (Value.int .u8)) ∧ Below w.heap.size w v6 ∧ v1.heap.size ≤ v6.heap.size) := ⟨(b.block _ (Array.getElem?_eq_some_iff.1 H5.out.1).1).trans H5.out.1, own_below21 H5.out.2.1 b, own_below21 H5.out.2.2.1 b, own_below21 H5.out.2.2.2.1 b, H5.out.2.2.2.2.1.trans (b.mono H5.out.2.2.2.2.1.size), Nat.le_trans H5.out.2.2.2.2.2 b.size⟩
  clear b hv
  refine plain_region16 (fun V => V.heap[w.heap.size]? = some (.cells r.cs 27 (0, 0)) ∧ True) 30 (by kernel_rfl) (by rw [HV.out]; exact ⟨H6.out.1, trivial⟩) (fun hHeld => ?_)
  rw [HV.out] at hHeld ⊢
  refine wpAnyK_take (i := 0) (v := .agg r.cs) rfl (by kernel_rfl) (by kernel_rfl) (by kernel_rfl) (by kernel_rfl) (fun _ _ _ h => h) (yields_row25 (by rfl) 27 (.tmp 1) rfl w.heap.size rfl _ _ _ _ (fun w h => h.1) Tryd.underlying27 rfl info_rc25d) hHeld ?_
  (try simp only [List.getElem_toArray, List.getElem_cons_zero, List.getElem_cons_succ, Act.put, List.setIfInBounds_toArray, List.set_cons_zero, List.set_cons_succ])
  refine wpAnyK_take (i := 3) (v := .agg r.cs) rfl (by kernel_rfl) (by kernel_rfl) (by kernel_rfl) (by kernel_rfl) (fun _ _ _ h => h) (yields_row25 (by rfl) 27 (.tmp 1) rfl w.heap.size rfl _ _ _ _ (fun w h => h.1) Tryd.underlying27 rfl info_rc25d) hHeld ?_
  (try simp only [List.getElem_toArray, List.getElem_cons_zero, List.getElem_cons_succ, Act.put, List.setIfInBounds_toArray, List.set_cons_zero, List.set_cons_succ])
  refine wpAnyK_one (i := 1) (by kernel_rfl) rfl (fun K hK => ?_)
  (try simp only [List.getElem_toArray, List.getElem_cons_zero, List.getElem_cons_succ, Act.put, List.setIfInBounds_toArray, List.set_cons_zero, List.set_cons_succ])
  go_simp
  refine (HFC.out v6).mono ?_
  rintro e v7 ⟨rfl, b⟩
  have H7 : Hid (v7.heap[w.heap.size]? = some (.cells r.cs 27 (0, 0)) ∧ v7.ownsRow v1.heap.size 5 1 (.slice pa B.length ca) B.length (B.map (Value.int .u8)) ∧ v7.ownsRow v1.heap.size 5 1 (.slice pb B.length cb) B.length (B.map (Value.int .u8)) ∧ v7.ownsRow v1.heap.size 5 1 (.slice pc B.length cc) B.length (B.map (Value.int .u8)) ∧ Below w.heap.size w v7 ∧ v1.heap.size ≤ v7.heap.size) := ⟨(b.block _ (Array.getElem?_eq_some_iff.1 H6.out.1).1).trans H6.out.1, own_below21 H6.out.2.1 b, own_below21 H6.out.2.2.1 b, own_below21 H6.out.2.2.2.1 b, H6.out.2.2.2.2.1.trans (b.mono H6.out.2.2.2.2.1.size), Nat.le_trans H6.out.2.2.2.2.2 b.size⟩
  clear b
  refine hK.out _ _ (fun _ => ⟨H7.out.1, trivial⟩) (fun hHeld0 => ?_)
  have hHeld := hHeld0 (by decide)
  clear hHeld0 hK K
  (try simp only [List.getElem_toArray, List.getElem_cons_zero, List.getElem_cons_succ, Act.put, List.setIfInBounds_toArray, List.set_cons_zero, List.set_cons_succ])
  refine wpAnyK_one (i := 2) (by kernel_rfl) rfl (fun K hK => ?_)
  (try simp only [List.getElem_toArray, List.getElem_cons_zero, List.getElem_cons_succ, Act.put, List.setIfInBounds_toArray, List.set_cons_zero, List.set_cons_succ])
  go_simp
  refine (HCP.out v7).mono ?_
  rintro e v8 ⟨rfl, b⟩
  have H8 : Hid (v8.heap[w.heap.size]? = some (.cells r.cs 27 (0, 0)) ∧ v8.ownsRow v1.heap.size 5 1 (.slice pa B.length ca) B.length (B.map (Value.int .u8)) ∧ v8.ownsRow v1.heap.size 5 1 (.slice pb B.length cb) B.length (B.map (Value.int .u8)) ∧ v8.ownsRow v1.heap.size 5 1 (.slice pc B.length cc) B.length (B.map (Value.int .u8)) ∧ Below w.heap.size w v8 ∧ v1.heap.size ≤ v8.heap.size) := ⟨(b.block _ (Array.getElem?_eq_some_iff.1 H7.out.1).1).trans H7.out.1, own_below21 H7.out.2.1 b, own_below21 H7.out.2.2.1 b, own_below21 H7.out.2.2.2.1 b, H7.out.2.2.2.2.1.trans (b.mono H7.out.2.2.2.2.1.size), Nat.le_trans H7.out.2.2.2.2.2 b.size⟩
  clear b
  refine hK.out _ _ (fun _ => ⟨H8.out.1, trivial⟩) (fun hHeld0 => ?_)
  have hHeld := hHeld0 (by decide)
  clear hHeld0 hK K
  (try simp only [List.getElem_toArray, List.getElem_cons_zero, List.getElem_cons_succ, Act.put, List.setIfInBounds_toArray, List.set_cons_zero, List.set_cons_succ])
  refine wpAnyK_one (i := 4) (by kernel_rfl) rfl (fun K hK => ?_)
  (try simp only [List.getElem_toArray, List.getElem_cons_zero, List.getElem_cons_succ, Act.put, List.setIfInBounds_toArray, List.set_cons_zero, List.set_cons_succ])
  go_simp
  refine (HCD.out v8).mono ?_
  rintro e v9 ⟨rfl, b⟩
  have H9 : Hid (v9.heap[w.heap.size]? = some (.cells r.cs 27 (0, 0)) ∧ v9.ownsRow v1.heap.size 5 1 (.slice pa B.length ca) B.length (B.map (Value.int .u8)) ∧ v9.ownsRow v1.heap.size 5 1 (.slice pb B.length cb) B.length (B.map (Value.int .u8)) ∧ v9.ownsRow v1.heap.size 5 1 (.slice pc B.length cc) B.length (B.map (Value.int .u8)) ∧ Below w.heap.size w v9 ∧ v1.heap.size ≤ v9.heap.size) := ⟨(b.block _ (Array.getElem?_eq_some_iff.1 H8.out.1).1).trans H8.out.1, own_below21 H8.out.2.1 b, own_below21 H8.out.2.2.1 b, own_below21 H8.out.2.2.2.1 b, H8.out.2.2.2.2.1.trans (b.mono H8.out.2.2.2.2.1.size), Nat.le_trans H8.out.2.2.2.2.2 b.size⟩
  clear b
  refine hK.out _ _ (fun _ => ⟨H9.out.1, trivial⟩) (fun hHeld0 => ?_)
  have hHeld := hHeld0 (by decide)
  clear hHeld0 hK K
  (try simp only [List.getElem_toArray, List.getElem_cons_zero, List.getElem_cons_succ, Act.put, List.setIfInBounds_toArray, List.set_cons_zero, List.set_cons_succ])
  have hee : (E == E) = true := by simp
  refine wpAnyK_one (i := 5) (by kernel_rfl) rfl (fun K hK => ?_)
  (try simp only [List.getElem_toArray, List.getElem_cons_zero, List.getElem_cons_succ, Act.put, List.setIfInBounds_toArray, List.set_cons_zero, List.set_cons_succ])
  go_simp
  refine hK.out _ _ (fun _ => ⟨H9.out.1, trivial⟩) (fun hHeld0 => ?_)
  have hHeld := hHeld0 (by decide)
  clear hHeld0 hK K
  (try simp only [List.getElem_toArray, List.getElem_cons_zero, List.getElem_cons_succ, Act.put, List.setIfInBounds_toArray, List.set_cons_zero, List.set_cons_succ])
  refine wpAnyK_one (i := 6) (by kernel_rfl) rfl (fun K hK => ?_)
  (try simp only [List.getElem_toArray, List.getElem_cons_zero, List.getElem_cons_succ, Act.put, List.setIfInBounds_toArray, List.set_cons_zero, List.set_cons_succ])
  go_simp
  refine hK.out _ _ (fun _ => ⟨H9.out.1, trivial⟩) (fun hHeld0 => ?_)
  have hHeld := hHeld0 (by decide)
  clear hHeld0 hK K
  (try simp only [List.getElem_toArray, List.getElem_cons_zero, List.getElem_cons_succ, Act.put, List.setIfInBounds_toArray, List.set_cons_zero, List.set_cons_succ])
  refine wpAnyK_take (i := 7) (v := .int .i64 E) rfl (by kernel_rfl) (by kernel_rfl) (by kernel_rfl) (by kernel_rfl) (fun _ _ _ h => h) (Or.inl ⟨by rfl, fun w hSw => by go_simp⟩) hHeld ?_
  simp only [List.getElem_toArray, List.getElem_cons_zero, List.getElem_cons_succ, Act.put, List.setIfInBounds_toArray, List.set_cons_zero, List.set_cons_succ]
  refine wpAnyK_take (i := 8) (v := .int .i64 E) rfl (by kernel_rfl) (by kernel_rfl) (by kernel_rfl) (by kernel_rfl) (fun _ _ _ h => h) (Or.inl ⟨by rfl, fun w hSw => by go_simp⟩) hHeld ?_
  simp only [List.getElem_toArray, List.getElem_cons_zero, List.getElem_cons_succ, Act.put, List.setIfInBounds_toArray, List.set_cons_zero, List.set_cons_succ]
  refine wpAnyK_one (i := 9) (by kernel_rfl) rfl (fun K hK => ?_)
  (try simp only [List.getElem_toArray, List.getElem_cons_zero, List.getElem_cons_succ, Act.put, List.setIfInBounds_toArray, List.set_cons_zero, List.set_cons_succ])
  go_simp
  refine hK.out _ _ (fun _ => ⟨H9.out.1, trivial⟩) (fun hHeld0 => ?_)
  have hHeld := hHeld0 (by decide)
  clear hHeld0 hK K
  (try simp only [List.getElem_toArray, List.getElem_cons_zero, List.getElem_cons_succ, Act.put, List.setIfInBounds_toArray, List.set_cons_zero, List.set_cons_succ])
  refine wpAnyK_one (i := 10) (by kernel_rfl) rfl (fun K hK => ?_)
  (try simp only [List.getElem_toArray, List.getElem_cons_zero, List.getElem_cons_succ, Act.put, List.setIfInBounds_toArray, List.set_cons_zero, List.set_cons_succ])
  go_simp
  refine hK.out _ _ (fun _ => ⟨H9.out.1, trivial⟩) (fun hHeld0 => ?_)
  have hHeld := hHeld0 (by decide)
  clear hHeld0 hK K
  (try simp only [List.getElem_toArray, List.getElem_cons_zero, List.getElem_cons_succ, Act.put, List.setIfInBounds_toArray, List.set_cons_zero, List.set_cons_succ])
  refine wpAnyK_one (i := 11) (by kernel_rfl) rfl (fun K hK => ?_)
  (try simp only [List.getElem_toArray, List.getElem_cons_zero, List.getElem_cons_succ, Act.put, List.setIfInBounds_toArray, List.set_cons_zero, List.set_cons_succ])
  go_simp
  refine hK.out _ _ (fun _ => ⟨H9.out.1, trivial⟩) (fun hHeld0 => ?_)
  have hHeld := hHeld0 (by decide)
  clear hHeld0 hK K
  (try simp only [List.getElem_toArray, List.getElem_cons_zero, List.getElem_cons_succ, Act.put, List.setIfInBounds_toArray, List.set_cons_zero, List.set_cons_succ])
  refine wpAnyK_take (i := 12) (v := .slice pa B.length ca) rfl (by kernel_rfl) (by kernel_rfl) (by kernel_rfl) (by kernel_rfl) (fun _ _ _ h => h) (Or.inl ⟨by rfl, fun w hSw => by go_simp⟩) hHeld ?_
  simp only [List.getElem_toArray, List.getElem_cons_zero, List.getElem_cons_succ, Act.put, List.setIfInBounds_toArray, List.set_cons_zero, List.set_cons_succ]
  refine wpAnyK_take (i := 13) (v := .slice pc B.length cc) rfl (by kernel_rfl) (by kernel_rfl) (by kernel_rfl) (by kernel_rfl) (fun _ _ _ h => h) (Or.inl ⟨by rfl, fun w hSw => by go_simp⟩) hHeld ?_
  simp only [List.getElem_toArray, List.getElem_cons_zero, List.getElem_cons_succ, Act.put, List.setIfInBounds_toArray, List.set_cons_zero, List.set_cons_succ]
  refine wpAnyK_one (i := 14) (by kernel_rfl) rfl (fun K hK => ?_)
  (try simp only [List.getElem_toArray, List.getElem_cons_zero, List.getElem_cons_succ, Act.put, List.setIfInBounds_toArray, List.set_cons_zero, List.set_cons_succ])
  go_simp
  have sx := own_sg25 H9.out.2.1 HL.out.2
  have sz := own_sg25 H9.out.2.2.2.1 HL.out.2
  refine (bsame_any pa pc B B ca cc v9 sx sz).mono ?_
  rintro e vx ⟨rfl, hvx⟩
  rw [hvx]
  clear hvx sx sz
  rw [beq_self_eq_true]
  refine hK.out _ _ (fun _ => ⟨H9.out.1, trivial⟩) (fun hHeld0 => ?_)
  have hHeld := hHeld0 (by decide)
  clear hHeld0 hK K
  (try simp only [List.getElem_toArray, List.getElem_cons_zero, List.getElem_cons_succ, Act.put, List.setIfInBounds_toArray, List.set_cons_zero, List.set_cons_succ])
  refine wpAnyK_one (i := 15) (by kernel_rfl) rfl (fun K hK => ?_)
  (try simp only [List.getElem_toArray, List.getElem_cons_zero, List.getElem_cons_succ, Act.put, List.setIfInBounds_toArray, List.set_cons_zero, List.set_cons_succ])
  go_simp
  refine hK.out _ _ (fun _ => ⟨H9.out.1, trivial⟩) (fun hHeld0 => ?_)
  have hHeld := hHeld0 (by decide)
  clear hHeld0 hK K
  (try simp only [List.getElem_toArray, List.getElem_cons_zero, List.getElem_cons_succ, Act.put, List.setIfInBounds_toArray, List.set_cons_zero, List.set_cons_succ])
  refine wpAnyK_one (i := 16) (by kernel_rfl) rfl (fun K hK => ?_)
  (try simp only [List.getElem_toArray, List.getElem_cons_zero, List.getElem_cons_succ, Act.put, List.setIfInBounds_toArray, List.set_cons_zero, List.set_cons_succ])
  go_simp
  refine hK.out _ _ (fun _ => ⟨H9.out.1, trivial⟩) (fun hHeld0 => ?_)
  have hHeld := hHeld0 (by decide)
  clear hHeld0 hK K
  (try simp only [List.getElem_toArray, List.getElem_cons_zero, List.getElem_cons_succ, Act.put, List.setIfInBounds_toArray, List.set_cons_zero, List.set_cons_succ])
  refine wpAnyK_take (i := 17) (v := .slice pb B.length cb) rfl (by kernel_rfl) (by kernel_rfl) (by kernel_rfl) (by kernel_rfl) (fun _ _ _ h => h) (Or.inl ⟨by rfl, fun w hSw => by go_simp⟩) hHeld ?_
  simp only [List.getElem_toArray, List.getElem_cons_zero, List.getElem_cons_succ, Act.put, List.setIfInBounds_toArray, List.set_cons_zero, List.set_cons_succ]
  refine wpAnyK_take (i := 18) (v := .slice pc B.length cc) rfl (by kernel_rfl) (by kernel_rfl) (by kernel_rfl) (by kernel_rfl) (fun _ _ _ h => h) (Or.inl ⟨by rfl, fun w hSw => by go_simp⟩) hHeld ?_
  simp only [List.getElem_toArray, List.getElem_cons_zero, List.getElem_cons_succ, Act.put, List.setIfInBounds_toArray, List.set_cons_zero, List.set_cons_succ]
  refine wpAnyK_one (i := 19) (by kernel_rfl) rfl (fun K hK => ?_)
  (try simp only [List.getElem_toArray, List.getElem_cons_zero, List.getElem_cons_succ, Act.put, List.setIfInBounds_toArray, List.set_cons_zero, List.set_cons_succ])
  go_simp
  have sx := own_sg25 H9.out.2.2.1 HL.out.2
  have sz := own_sg25 H9.out.2.2.2.1 HL.out.2
  refine (bsame_any pb pc B B cb cc v9 sx sz).mono ?_
  rintro e vx ⟨rfl, hvx⟩
  rw [hvx]
  clear hvx sx sz
  rw [beq_self_eq_true]
  refine hK.out _ _ (fun _ => ⟨H9.out.1, trivial⟩) (fun hHeld0 => ?_)
  have hHeld := hHeld0 (by decide)
  clear hHeld0 hK K
  (try simp only [List.getElem_toArray, List.getElem_cons_zero, List.getElem_cons_succ, Act.put, List.setIfInBounds_toArray, List.set_cons_zero, List.set_cons_succ])
  refine wpAnyK_one (i := 20) (by kernel_rfl) rfl (fun K hK => ?_)
  (try simp only [List.getElem_toArray, List.getElem_cons_zero, List.getElem_cons_succ, Act.put, List.setIfInBounds_toArray, List.set_cons_zero, List.set_cons_succ])
  go_simp
  refine hK.out _ _ (fun _ => ⟨H9.out.1, trivial⟩) (fun hHeld0 => ?_)
  have hHeld := hHeld0 (by decide)
  clear hHeld0 hK K
  (try simp only [List.getElem_toArray, List.getElem_cons_zero, List.getElem_cons_succ, Act.put, List.setIfInBounds_toArray, List.set_cons_zero, List.set_cons_succ])
  refine wpAnyK_one (i := 21) (by kernel_rfl) rfl (fun K hK => ?_)
  (try simp only [List.getElem_toArray, List.getElem_cons_zero, List.getElem_cons_succ, Act.put, List.setIfInBounds_toArray, List.set_cons_zero, List.set_cons_succ])
  go_simp
  refine hK.out _ _ (fun _ => ⟨H9.out.1, trivial⟩) (fun hHeld0 => ?_)
  have hHeld := hHeld0 (by decide)
  clear hHeld0 hK K
  (try simp only [List.getElem_toArray, List.getElem_cons_zero, List.getElem_cons_succ, Act.put, List.setIfInBounds_toArray, List.set_cons_zero, List.set_cons_succ])
  refine wpAnyK_take (i := 22) (v := .slice pa B.length ca) rfl (by kernel_rfl) (by kernel_rfl) (by kernel_rfl) (by kernel_rfl) (fun _ _ _ h => h) (Or.inl ⟨by rfl, fun w hSw => by go_simp⟩) hHeld ?_
  simp only [List.getElem_toArray, List.getElem_cons_zero, List.getElem_cons_succ, Act.put, List.setIfInBounds_toArray, List.set_cons_zero, List.set_cons_succ]
  refine wpAnyK_take (i := 23) (v := .slice pb B.length cb) rfl (by kernel_rfl) (by kernel_rfl) (by kernel_rfl) (by kernel_rfl) (fun _ _ _ h => h) (Or.inl ⟨by rfl, fun w hSw => by go_simp⟩) hHeld ?_
  simp only [List.getElem_toArray, List.getElem_cons_zero, List.getElem_cons_succ, Act.put, List.setIfInBounds_toArray, List.set_cons_zero, List.set_cons_succ]
  refine wpAnyK_one (i := 24) (by kernel_rfl) rfl (fun K hK => ?_)
  (try simp only [List.getElem_toArray, List.getElem_cons_zero, List.getElem_cons_succ, Act.put, List.setIfInBounds_toArray, List.set_cons_zero, List.set_cons_succ])
  go_simp
  obtain ⟨vo, hvo⟩ : ∃ v, v = v9.alloc (.cells #[.slice pa B.length ca, .slice pb B.length cb] 28) := ⟨_, rfl⟩
  have OW := own_two v1.heap.size (.slice pa B.length ca) (.slice pb B.length cb) B B v9 H9.out.2.1 H9.out.2.2.1 HAP.out (by have := HL.out.1; omega) (by have := HL.out.1; omega) H9.out.2.2.2.2.2
  have bo : Below v9.heap.size v9 vo := by rw [hvo]; exact (Below.refl _ _).alloc (Nat.le_refl _) _
  have qo : vo.heap[w.heap.size]? = some (.cells r.cs 27 (0, 0)) := (bo.block _ (Array.getElem?_eq_some_iff.1 H9.out.1).1).trans H9.out.1
  rw [← hvo] at OW ⊢
  have HO : Hid (vo.heap[w.heap.size]? = some (.cells r.cs 27 (0, 0))) := qo
  clear hvo bo qo
  refine hK.out _ _ (fun _ => ⟨HO.out, trivial⟩) (fun hHeld0 => ?_)
  have hHeld := hHeld0 (by decide)
  clear hHeld0 hK K
  (try simp only [List.getElem_toArray, List.getElem_cons_zero, List.getElem_cons_succ, Act.put, List.setIfInBounds_toArray, List.set_cons_zero, List.set_cons_succ])
  refine wpAnyK_one (i := 25) (by kernel_rfl) rfl (fun K hK => ?_)
  (try simp only [List.getElem_toArray, List.getElem_cons_zero, List.getElem_cons_succ, Act.put, List.setIfInBounds_toArray, List.set_cons_zero, List.set_cons_succ])
  go_simp
  refine OW.mono ?_
  rintro e vp ⟨rfl, b⟩
  have HP : Hid (vp.heap[w.heap.size]? = some (.cells r.cs 27 (0, 0)) ∧ Below w.heap.size w vp) := ⟨(b.block _ (by have := N1.out; omega)).trans H9.out.1, H9.out.2.2.2.2.1.trans (b.mono (by have := N1.out; omega))⟩
  clear b OW
  refine hK.out _ _ (fun _ => ⟨HP.out.1, trivial⟩) (fun hHeld0 => ?_)
  have hHeld := hHeld0 (by decide)
  clear hHeld0 hK K
  (try simp only [List.getElem_toArray, List.getElem_cons_zero, List.getElem_cons_succ, Act.put, List.setIfInBounds_toArray, List.set_cons_zero, List.set_cons_succ])
  refine wpAnyK_one (i := 26) (by kernel_rfl) rfl (fun K hK => ?_)
  (try simp only [List.getElem_toArray, List.getElem_cons_zero, List.getElem_cons_succ, Act.put, List.setIfInBounds_toArray, List.set_cons_zero, List.set_cons_succ])
  go_simp
  refine hK.out _ _ (fun _ => ⟨HP.out.1, trivial⟩) (fun hHeld0 => ?_)
  have hHeld := hHeld0 (by decide)
  clear hHeld0 hK K
  (try simp only [List.getElem_toArray, List.getElem_cons_zero, List.getElem_cons_succ, Act.put, List.setIfInBounds_toArray, List.set_cons_zero, List.set_cons_succ])
  refine wpAnyK_one (i := 27) (by kernel_rfl) rfl (fun K hK => ?_)
  (try simp only [List.getElem_toArray, List.getElem_cons_zero, List.getElem_cons_succ, Act.put, List.setIfInBounds_toArray, List.set_cons_zero, List.set_cons_succ])
  go_simp
  refine hK.out _ _ (fun _ => ⟨HP.out.1, trivial⟩) (fun hHeld0 => ?_)
  have hHeld := hHeld0 (by decide)
  clear hHeld0 hK K
  (try simp only [List.getElem_toArray, List.getElem_cons_zero, List.getElem_cons_succ, Act.put, List.setIfInBounds_toArray, List.set_cons_zero, List.set_cons_succ])
  refine wpAnyK_one (i := 28) (by kernel_rfl) rfl (fun K hK => ?_)
  (try simp only [List.getElem_toArray, List.getElem_cons_zero, List.getElem_cons_succ, Act.put, List.setIfInBounds_toArray, List.set_cons_zero, List.set_cons_succ])
  go_simp
  refine (plives25 vp (HT.out vp HP.out.2)).mono ?_
  rintro e vq ⟨rfl, b⟩
  have HQ : Hid (vq.heap[w.heap.size]? = some (.cells r.cs 27 (0, 0)) ∧ Below w.heap.size w vq) := ⟨(b.block _ (Array.getElem?_eq_some_iff.1 HP.out.1).1).trans HP.out.1, HP.out.2.trans (b.mono HP.out.2.size)⟩
  clear b
  refine hK.out _ _ (fun _ => ⟨HQ.out.1, trivial⟩) (fun hHeld0 => ?_)
  have hHeld := hHeld0 (by decide)
  clear hHeld0 hK K
  (try simp only [List.getElem_toArray, List.getElem_cons_zero, List.getElem_cons_succ, Act.put, List.setIfInBounds_toArray, List.set_cons_zero, List.set_cons_succ])
  refine wpAnyK_one (i := 29) (by kernel_rfl) rfl (fun K hK => ?_)
  (try simp only [List.getElem_toArray, List.getElem_cons_zero, List.getElem_cons_succ, Act.put, List.setIfInBounds_toArray, List.set_cons_zero, List.set_cons_succ])
  go_simp
  refine hK.out _ _ (fun _ => ⟨HQ.out.1, trivial⟩) (fun hHeld0 => ?_)
  have hHeld := hHeld0 (by decide)
  clear hHeld0 hK K
  (try simp only [List.getElem_toArray, List.getElem_cons_zero, List.getElem_cons_succ, Act.put, List.setIfInBounds_toArray, List.set_cons_zero, List.set_cons_succ])
  refine wpAnyK_one (i := 30) (by kernel_rfl) rfl (fun K hK => ?_)
  (try simp only [List.getElem_toArray, List.getElem_cons_zero, List.getElem_cons_succ, Act.put, List.setIfInBounds_toArray, List.set_cons_zero, List.set_cons_succ])
  go_simp
  refine hK.out _ _ (fun h => absurd rfl h) (fun _ => ?_)
  clear hK K
  refine wpAnyK_done (by kernel_rfl) ?_ _
  go_wp2_with fail
  go_ret
  exact ⟨rfl, HQ.out.2⟩
end Go.Proofs.YteboaolflecibaaDoor
