import Derived.Test.YtmfpdchfofffeaaGreatDoorMkG
import Derived.Test.YtmfpdchfofffeaaGreatDoorMkJ
namespace Go.Proofs.YtmfpdchfofffeaaGreatDoor
open Go.RowKit Go.Shelf
set_option linter.unusedVariables false
set_option linter.unusedSimpArgs false
/-- What holds ahead of the i-th part. -/
def Mi20 (b gb : Nat) (za : Option Addr) (zc B : Nat) : Nat → World → Prop
  | 0 => fun V => Tab V ∧ Ma20 V b (mm20 (.slice (some ⟨gb, 0, none⟩) 1 1) (.slice none 0 0)) ∧ V.heap[gb]? = some (.cells #[.slice za 25 zc] 36 (0, 0)) ∧ Seg V za z20
  | _ => fun V => Tab V ∧ ∃ rb rc B', Ma20 V b (mm20 (.slice (some ⟨gb, 0, none⟩) 1 1) (.slice (some ⟨rb, 0, none⟩) 1 rc)) ∧ Rd20 V B' rb rc
theorem mi20_step (b gb : Nat) (za : Option Addr) (zc B : Nat) (hb : b ≠ 0) (hgb : gb ≠ b) (hzb : ∀ x off, za = some ⟨x, off, none⟩ → x ≠ b) (hc : 25 ≤ zc) : ∀ i, i < 4 → ∀ V, Mi20 b gb za zc B i V → Calls Tryz.prog ([20, 21, 22, 23].getD i 0) #[.pointer (some ⟨b, 0, none⟩)] V fun e V' => e = .returned (.tuple #[]) ∧ Mi20 b gb za zc B (i + 1) V' ∧ Kp (fun k => k = b) V V' := by
  intro i hi V hV
  rcases (by omega : i = 0 ∨ i = 1 ∨ i = 2 ∨ i = 3) with rfl | rfl | rfl | rfl
  · obtain ⟨t, m, q, sg⟩ := hV
    refine Calls.mono (pdcd20 b gb za zc 1 V t hgb hb m q sg hzb hc) ?_
    rintro e V' ⟨rfl, ⟨rb, rc, m', r'⟩, k⟩
    exact ⟨rfl, ⟨tab20 t k hb, rb, rc, _, m', r'⟩, k⟩
  · obtain ⟨t, rb, rc, B', m, r⟩ := hV
    refine Calls.mono (pmtf20 b gb 1 rb rc B' V t m r) ?_
    rintro e V' ⟨rfl, bl⟩
    exact ⟨rfl, ⟨t.old bl, rb, rc, B', m.old bl, r.kp (Kp.of_below (S := fun _ => False) bl) (fun x => x)⟩, (Kp.of_below bl).mono (fun _ _ x => x)⟩
  · obtain ⟨t, rb, rc, B', m, r⟩ := hV
    refine Calls.mono (pins20 b gb 1 rb rc B' V m r) ?_
    rintro e V' ⟨rfl, bl⟩
    exact ⟨rfl, ⟨t.old bl, rb, rc, B', m.old bl, r.kp (Kp.of_below (S := fun _ => False) bl) (fun x => x)⟩, (Kp.of_below bl).mono (fun _ _ x => x)⟩
  · obtain ⟨t, rb, rc, B', m, r⟩ := hV
    refine Calls.mono (pmnt20 b gb 1 rb rc B' V t m r) ?_
    rintro e V' ⟨rfl, bl⟩
    exact ⟨rfl, ⟨t.old bl, rb, rc, B', m.old bl, r.kp (Kp.of_below (S := fun _ => False) bl) (fun x => x)⟩, (Kp.of_below bl).mono (fun _ _ x => x)⟩
set_option maxRecDepth 100000 in
set_option maxHeartbeats 8000000 in
theorem pmea20 (za : Option Addr) (zc : Nat) (w : World) (ht : Tab w) (hz : Seg w za z20) (hc : 25 ≤ zc) : Calls Tryz.prog 11 #[.slice za 25 zc, .slice none 0 0] w fun e w' => e = .returned (.tuple #[.slice none 0 0, .int .i64 0]) ∧ Below w.heap.size w w' := by
  have h0 : 0 < w.heap.size := SegK.lt ht 0 0 rfl (by decide)
  obtain ⟨w1, hw1⟩ : ∃ w1, w1 = w.alloc (.cells #[.slice za 25 zc] 36) := ⟨_, rfl⟩
  have k1 := cb16 w #[.slice za 25 zc] 36
  rw [← hw1] at k1
  obtain ⟨w2, hw2⟩ : ∃ w2, w2 = w1.alloc (.cells zm20 56) := ⟨_, rfl⟩
  have k2 := cb16 w1 zm20 56
  rw [← hw2] at k2
  obtain ⟨b5, hb5⟩ : ∃ x, x = w.heap.size := ⟨_, rfl⟩
  obtain ⟨b8, hb8⟩ : ∃ x, x = w1.heap.size := ⟨_, rfl⟩
  have q8 := k2.cl
  rw [← hb8] at q8
  obtain ⟨w3, hw3⟩ : ∃ w3, w3 = w2.setRow b8 (mm20 (.slice (some ⟨b5, 0, none⟩) 1 1) (.slice none 0 0)) := ⟨_, rfl⟩
  have q83 : Ma20 w3 b8 (mm20 (.slice (some ⟨b5, 0, none⟩) 1 1) (.slice none 0 0)) := by rw [hw3]; exact setRow_heap _ _ _ _ _ _ q8
  have kk3 : Kp (fun k => k = b8) w2 w3 := by rw [hw3]; exact grow20 _ _ _
  obtain ⟨w4, hw4⟩ : ∃ w4, w4 = w3.alloc (.cells #[.nilFunc, .nilFunc, .nilFunc, .nilFunc] 62) := ⟨_, rfl⟩
  have k4 := cb16 w3 #[.nilFunc, .nilFunc, .nilFunc, .nilFunc] 62
  rw [← hw4] at k4
  obtain ⟨b9, hb9⟩ : ∃ x, x = w3.heap.size := ⟨_, rfl⟩
  have q9 := k4.cl
  rw [← hb9] at q9
  obtain ⟨w5, hw5⟩ : ∃ w5, w5 = w4.setRow b9 (fv20 [20, 21, 22, 23]) := ⟨_, rfl⟩
  have q95 : w5.heap[b9]? = some (.cells (fv20 [20, 21, 22, 23]) 62 (0, 0)) := by rw [hw5]; exact setRow_heap _ _ _ _ _ _ q9
  have kk5 : Kp (fun k => k = b9) w4 w5 := by rw [hw5]; exact grow20 _ _ _
  have s1 := k1.sz
  have s2 := k2.sz
  have s3 : w3.heap.size = w2.heap.size := by rw [hw3]; simp [World.setRow]
  have s4 := k4.sz
  have s5 : w5.heap.size = w4.heap.size := by rw [hw5]; simp [World.setRow]
  have K : Kp (fun k => w.heap.size ≤ k) w w5 := ((((Kp.of_below (S := fun k => w.heap.size ≤ k) k1.bl).trans (Kp.of_below (S := fun _ => False) k2.bl) (fun _ _ x => x.elim)).trans kk3 (fun k _ x => by have x : k = b8 := x; show w.heap.size ≤ k; omega)).trans (Kp.of_below (S := fun _ => False) k4.bl) (fun _ _ x => x.elim)).trans kk5 (fun k _ x => by have x : k = b9 := x; show w.heap.size ≤ k; omega)
  have B5 : Below w.heap.size w w5 := K.below (fun _ x => x) (Nat.le_refl _)
  have m5 : Ma20 w5 b8 (mm20 (.slice (some ⟨b5, 0, none⟩) 1 1) (.slice none 0 0)) := kk5.heap (q83.old k4.bl) (fun x => by have x : b8 = b9 := x; omega)
  have q5 := k1.cl
  rw [← hb5] at q5
  have g5 : w5.heap[b5]? = some (.cells #[.slice za 25 zc] 36 (0, 0)) := by
    have g3 := kk3.heap ((k2.bl.block _ (by omega)).trans q5) (fun x => by have x : b5 = b8 := x; omega)
    exact kk5.heap ((k4.bl.block _ (Array.getElem?_eq_some_iff.1 g3).1).trans g3) (fun x => by have x : b5 = b9 := x; omega)
  have hlt : ∀ x off, za = some ⟨x, off, none⟩ → x < w.heap.size := fun x off e => hz.lt x off e (by rw [z20_len]; decide)
  have RU := prun20 b8 b9 4 4 [20, 21, 22, 23] (Mi20 b8 b5 za zc 0) w5 62 rfl (by decide) (by decide) (by omega) (by omega) q95
    (by
      intro f hf x W
      simp only [List.mem_cons, List.not_mem_nil, or_false] at hf
      rcases hf with rfl | rfl | rfl | rfl <;> kernel_rfl)
    (fun V hV hl => ⟨(ht.old B5).old hV, m5.old hV, (hV.block _ (Array.getElem?_eq_some_iff.1 g5).1).trans g5, (hz.old B5).old hV⟩)
    (mi20_step b8 b5 za zc 0 (by omega) (by omega) (fun x off e => by have := hlt x off e; omega) hc)
  have HRU := Hid.mk20 RU
  have HW : Hid (w.alloc (.cells #[.slice za 25 zc] 36) = w1 ∧ w.heap.size = b5 ∧ w1.alloc (.cells #[.int .i64 0, .int .i64 0, .int .i64 0, .bool false, .int .i64 0, .slice none 0 0, .int .i64 0, .slice none 0 0, .slice none 0 0, .slice none 0 0, .slice none 0 0, .slice none 0 0, .slice none 0 0, .slice none 0 0, .int .i64 0, .int .i64 0, .int .u32 0, .int .u32 0, .int .i64 0, .int .i64 0, .slice none 0 0, .slice none 0 0] 56) = w2 ∧ w1.heap.size = b8 ∧ w3.alloc (.cells #[.nilFunc, .nilFunc, .nilFunc, .nilFunc] 62) = w4 ∧ w3.heap.size = b9 ∧ w2.setRow b8 (mm20 (.slice (some ⟨b5, 0, none⟩) 1 1) (.slice none 0 0)) = w3 ∧ w4.setRow b9 (fv20 [20, 21, 22, 23]) = w5 ∧ b5 + 1 = b8) := ⟨hw1.symm, hb5.symm, hw2.symm, hb8.symm, hw4.symm, hb9.symm, hw3.symm, hw5.symm, by omega⟩
  have HQ : Hid (w2.heap[b8]? = some (.cells zm20 56 (0, 0)) ∧ w4.heap[b9]? = some (.cells #[.nilFunc, .nilFunc, .nilFunc, .nilFunc] 62 (0, 0))) := ⟨q8, q9⟩
  have HB5 := Hid.mk20 B5
  have HSZ : Hid (b8 < w5.heap.size) := (by omega : b8 < w5.heap.size)
  have HN : Hid (w.heap.size < b8) := (by omega : w.heap.size < b8)
  clear hw1 hw2 hw3 hw4 hw5 hb5 hb8 hb9 k1 k2 k4 q8 q9 q83 kk3 kk5 s1 s2 s3 s4 s5 K B5 m5 RU q5 q95 h0 ht hz hc hlt g5
  go_enter Tryz.func11, Tryz.ntmps11
  go_wp2_with (first
    | (rw [HW.out.1, HW.out.2.1, HW.out.2.2.2.2.2.2.2.2, HW.out.2.2.1]; refine wpList_store_row rfl 56 (.tmp 6) (.tmp 12) rfl b8 (mm20 (.slice (some ⟨b5, 0, none⟩) 1 1) (.slice none 0 0)) rfl rfl _ _ HQ.out.1 (by kernel_rfl) rfl (by kernel_rfl) ?_; rw [HW.out.2.2.2.2.2.2.1])
    | (rw [HW.out.2.2.2.2.1, HW.out.2.2.2.2.2.1]; refine wpList_store_row rfl 62 (.tmp 7) (.tmp 13) rfl b9 (fv20 [20, 21, 22, 23]) rfl rfl _ _ HQ.out.2 (by kernel_rfl) rfl (by kernel_rfl) ?_; rw [HW.out.2.2.2.2.2.2.2.1]))
  refine HRU.out.mono ?_
  rintro e1 w6 ⟨rfl, V, ⟨-, rb, rc, B', m6, -⟩, kv, kw, hsz⟩
  have hne : b8 ≠ w5.heap.size := by have q := HSZ.out; omega
  have m7 : Ma20 w6 b8 _ := kv.heap m6 (fun x => hne x)
  have c8 : w6.cell? ⟨b8, 8, none⟩ = some (.slice none 0 0) := m7.c rfl
  have B7 : Below w.heap.size w w6 := by
    have k7 : Kp (fun k => w.heap.size ≤ k) w w6 := (Kp.of_below (S := fun k => w.heap.size ≤ k) HB5.out).trans kw (fun k _ x => by have x : k = b8 := x; have := HN.out; show w.heap.size ≤ k; omega)
    exact k7.below (fun _ x => x) (Nat.le_refl _)
  have HP := Hid.mk20 B7
  clear m6 kv kw hsz m7 B7 hne
  go_wp2_with fail
  go_ret2
  exact ⟨rfl, HP.out⟩
set_option maxRecDepth 100000 in
theorem pgood20 (w : World) : Calls Tryz.prog 9 #[] w fun e w' => e = .returned (.agg #[.int .i64 64, .int .i64 100, .int .i64 10, .bool false, .int .i64 100]) ∧ Below w.heap.size w w' := by
  have cP := cb16 w #[.int .i64 64, .int .i64 100, .int .i64 10, .bool false, .int .i64 100] 31
  have HP := Hid.mk20 cP
  clear cP
  go_enter Tryz.func9, Tryz.ntmps9
  go_wp2
  refine bodyPost_ret (v := .agg #[.int .i64 64, .int .i64 100, .int .i64 10, .bool false, .int .i64 100]) (results_cell_row (fn := Tryz.f9) (p := 0) (ty := 31) rfl _ _ w.heap.size _ _ _ _ rfl HP.out.cl Tryz.underlying31 rfl (by kernel_rfl)) rfl ?_
  exact ⟨rfl, HP.out.bl⟩
set_option maxRecDepth 100000 in
set_option maxHeartbeats 4000000 in
theorem pawk20 (w : World) (ht : Tab w) : Calls Tryz.prog 6 #[] w fun e w' => e = .returned (.bool true) ∧ Below w.heap.size w w' := by
  have HT := Hid.mk20 ht
  clear ht
  go_enter Tryz.func6, Tryz.ntmps6
  go_wp2_with fail
  refine (pgood20 w).mono ?_
  rintro e1 w1 ⟨rfl, b1⟩
  have HB1 := Hid.mk20 b1
  clear b1
  go_wp2_with fail
  refine (pgen20 w1 (HT.out.old HB1.out)).mono ?_
  rintro e2 w2 ⟨p, c, rfl, o2, b2⟩
  have hs : Seg w2 p z20 ∧ 25 ≤ c := by
    have o3 : w2.ownsRow w1.heap.size 5 1 (.slice p 25 c) 25 (z20.map (Value.int .u8)) := o2
    obtain ⟨-, a1, c1', hv1, sg1, -, hc1, -⟩ := own_seg o3 (M := 255) (by decide) z20_bd
    injection hv1 with h1 h2 h3
    subst h1
    exact ⟨sg1, by omega⟩
  have HB2 : Hid (Below w.heap.size w w2) := HB1.out.trans (b2.mono HB1.out.size)
  have ME := Hid.mk20 (pmea20 p c w2 (HT.out.old HB2.out) hs.1 hs.2)
  clear o2 b2 hs
  go_wp2_with fail
  refine ME.out.mono ?_
  rintro e3 w3 ⟨rfl, b3⟩
  have HB3 : Hid (Below w.heap.size w w3) := HB2.out.trans (b3.mono HB2.out.size)
  clear b3 ME
  go_wp2_with fail
  go_ret
  exact ⟨rfl, HB3.out⟩
end Go.Proofs.YtmfpdchfofffeaaGreatDoor
