import Derived.Test.YtmfpdchfofffeaaGreatDoorMkF
namespace Go.Proofs.YtmfpdchfofffeaaGreatDoor
open Go.RowKit Go.Shelf
set_option linter.unusedVariables false
set_option linter.unusedSimpArgs false
def g020 : Array Value := (mk20 (.int .i64 64) (.int .i64 100) (.int .i64 10) (.bool false) (.int .i64 100) (.slice none 0 0) (.slice none 0 0) (.slice none 0 0) (.slice none 0 0) (.slice none 0 0) (.int .i64 0) (.int .i64 0) (.int .u32 0) (.int .u32 0) (.int .i64 0) (.int .i64 0) (.slice none 0 0) (.slice none 0 0))
/-- What holds ahead of the i-th part. -/
def Gi20 (b B : Nat) : Nat → World → Prop
  | 0 => fun V => Tab V ∧ B ≤ V.heap.size ∧ Ma20 V b g020
  | 1 => fun V => Tab V ∧ B ≤ V.heap.size ∧ Ma20 V b g020
  | 2 => fun V => Tab V ∧ B ≤ V.heap.size ∧ Ma20 V b g020
  | 3 => fun V => Tab V ∧ B ≤ V.heap.size ∧ ∃ ga gx, Ma20 V b (mk20 (.int .i64 64) (.int .i64 100) (.int .i64 10) (.bool false) (.int .i64 100) (.slice none 0 0) (.slice none 0 0) (.slice none 0 0) (.slice (some ⟨ga, 0, none⟩) 0 0) (.slice (some ⟨gx, 0, none⟩) 0 0) (.int .i64 0) (.int .i64 0) (.int .u32 0) (.int .u32 0) (.int .i64 0) (.int .i64 0) (.slice none 0 0) (.slice none 0 0))
  | 4 => fun V => Tab V ∧ B ≤ V.heap.size ∧ ∃ ga gx wa wc, Ma20 V b (mk20 (.int .i64 64) (.int .i64 100) (.int .i64 10) (.bool false) (.int .i64 100) (.slice none 0 0) (.slice none 0 0) (.slice none 0 0) (.slice (some ⟨ga, 0, none⟩) 0 0) (.slice (some ⟨gx, 0, none⟩) 0 0) (.int .i64 0) (.int .i64 0) (.int .u32 0) (.int .u32 0) (.int .i64 64) (.int .i64 100) (.slice wa 0 wc) (.slice none 0 0))
  | _ => fun V => Tab V ∧ B ≤ V.heap.size ∧ ∃ ga gx wa wc p c, Ma20 V b (mk20 (.int .i64 64) (.int .i64 100) (.int .i64 10) (.bool false) (.int .i64 100) (.slice none 0 0) (.slice none 0 0) (.slice none 0 0) (.slice (some ⟨ga, 0, none⟩) 0 0) (.slice (some ⟨gx, 0, none⟩) 0 0) (.int .i64 0) (.int .i64 0) (.int .u32 0) (.int .u32 0) (.int .i64 64) (.int .i64 100) (.slice wa 0 wc) (.slice p 25 c)) ∧ V.ownsRow B 5 1 (.slice p 25 c) 25 ((sum18 (sum18 (hd18 h018))).map (Value.int .u8))
theorem gi20_step (b B : Nat) (hb : b ≠ 0) : ∀ i, i < 5 → ∀ V, Gi20 b B i V → Calls Tryz.prog ([14, 15, 16, 17, 18].getD i 0) #[.pointer (some ⟨b, 0, none⟩)] V fun e V' => e = .returned (.tuple #[]) ∧ Gi20 b B (i + 1) V' ∧ Kp (fun k => k = b) V V' := by
  intro i hi V hV
  rcases (by omega : i = 0 ∨ i = 1 ∨ i = 2 ∨ i = 3 ∨ i = 4) with rfl | rfl | rfl | rfl | rfl
  · obtain ⟨t, h, m⟩ := hV
    refine Calls.mono (pbnd20 b g020 V m rfl rfl) ?_
    rintro e V' ⟨rfl, hv⟩
    subst hv
    exact ⟨rfl, ⟨t, h, m⟩, Kp.refl _ _⟩
  · obtain ⟨t, h, m⟩ := hV
    refine Calls.mono (palw20 b _ _ _ _ _ _ _ _ _ _ _ _ _ V m) ?_
    rintro e V' ⟨rfl, bl⟩
    exact ⟨rfl, ⟨t.old bl, by have := bl.size; omega, m.old bl⟩, (Kp.of_below bl).mono (fun _ _ x => x)⟩
  · obtain ⟨t, h, m⟩ := hV
    refine Calls.mono (pscn20 b _ _ _ _ _ V t hb m) ?_
    rintro e V' ⟨rfl, ⟨ga, gx, m'⟩, k⟩
    exact ⟨rfl, ⟨tab20 t k hb, by have := k.size; omega, ga, gx, m'⟩, k⟩
  · obtain ⟨t, h, ga, gx, m⟩ := hV
    refine Calls.mono (pctt20 b ga gx V m) ?_
    rintro e V' ⟨rfl, ⟨wa, wc, m'⟩, k⟩
    exact ⟨rfl, ⟨tab20 t k hb, by have := k.size; omega, ga, gx, wa, wc, m'⟩, k⟩
  · obtain ⟨t, h, ga, gx, wa, wc, m⟩ := hV
    refine Calls.mono (pwrt20 b ga gx wa wc V t m) ?_
    rintro e V' ⟨rfl, ⟨p, c, m', o⟩, k⟩
    exact ⟨rfl, ⟨tab20 t k hb, by have := k.size; omega, ga, gx, wa, wc, p, c, m', own_base o h⟩, k⟩
def zm20 : Array Value := #[.int .i64 0, .int .i64 0, .int .i64 0, .bool false, .int .i64 0, .slice none 0 0, .int .i64 0, .slice none 0 0, .slice none 0 0, .slice none 0 0, .slice none 0 0, .slice none 0 0, .slice none 0 0, .slice none 0 0, .int .i64 0, .int .i64 0, .int .u32 0, .int .u32 0, .int .i64 0, .int .i64 0, .slice none 0 0, .slice none 0 0]
set_option maxRecDepth 100000 in
set_option maxHeartbeats 8000000 in
theorem pgen20 (w : World) (ht : Tab w) : Calls Tryz.prog 10 #[.slice none 0 0, .slice none 0 0, .agg #[.int .i64 64, .int .i64 100, .int .i64 10, .bool false, .int .i64 100]] w fun e w' => ∃ p c, e = .returned (.tuple #[.slice p 25 c, .int .i64 0]) ∧ w'.ownsRow w.heap.size 5 1 (.slice p 25 c) 25 ((sum18 (sum18 (hd18 h018))).map (Value.int .u8)) ∧ Below w.heap.size w w' := by
  have h0 : 0 < w.heap.size := SegK.lt ht 0 0 rfl (by decide)
  obtain ⟨w1, hw1⟩ : ∃ w1, w1 = w.alloc (.cells #[.int .i64 64, .int .i64 100, .int .i64 10, .bool false, .int .i64 100] 31) := ⟨_, rfl⟩
  have k1 := cb16 w #[.int .i64 64, .int .i64 100, .int .i64 10, .bool false, .int .i64 100] 31
  rw [← hw1] at k1
  obtain ⟨w2, hw2⟩ : ∃ w2, w2 = w1.alloc (.cells zm20 56) := ⟨_, rfl⟩
  have k2 := cb16 w1 zm20 56
  rw [← hw2] at k2
  obtain ⟨b5, hb5⟩ : ∃ x, x = w.heap.size := ⟨_, rfl⟩
  obtain ⟨b8, hb8⟩ : ∃ x, x = w1.heap.size := ⟨_, rfl⟩
  have q8 := k2.cl
  rw [← hb8] at q8
  obtain ⟨w3, hw3⟩ : ∃ w3, w3 = w2.setRow b8 g020 := ⟨_, rfl⟩
  have q83 : Ma20 w3 b8 g020 := by rw [hw3]; exact setRow_heap _ _ _ _ _ _ q8
  have kk3 : Kp (fun k => k = b8) w2 w3 := by rw [hw3]; exact grow20 _ _ _
  obtain ⟨w4, hw4⟩ : ∃ w4, w4 = w3.alloc (.cells #[.nilFunc, .nilFunc, .nilFunc, .nilFunc, .nilFunc] 59) := ⟨_, rfl⟩
  have k4 := cb16 w3 #[.nilFunc, .nilFunc, .nilFunc, .nilFunc, .nilFunc] 59
  rw [← hw4] at k4
  obtain ⟨b9, hb9⟩ : ∃ x, x = w3.heap.size := ⟨_, rfl⟩
  have q9 := k4.cl
  rw [← hb9] at q9
  obtain ⟨w5, hw5⟩ : ∃ w5, w5 = w4.setRow b9 (fv20 [14, 15, 16, 17, 18]) := ⟨_, rfl⟩
  have q95 : w5.heap[b9]? = some (.cells (fv20 [14, 15, 16, 17, 18]) 59 (0, 0)) := by rw [hw5]; exact setRow_heap _ _ _ _ _ _ q9
  have kk5 : Kp (fun k => k = b9) w4 w5 := by rw [hw5]; exact grow20 _ _ _
  have s1 := k1.sz
  have s2 := k2.sz
  have s3 : w3.heap.size = w2.heap.size := by rw [hw3]; simp [World.setRow]
  have s4 := k4.sz
  have s5 : w5.heap.size = w4.heap.size := by rw [hw5]; simp [World.setRow]
  have K : Kp (fun k => w.heap.size ≤ k) w w5 := ((((Kp.of_below (S := fun k => w.heap.size ≤ k) k1.bl).trans (Kp.of_below (S := fun _ => False) k2.bl) (fun _ _ x => x.elim)).trans kk3 (fun k _ x => by have x : k = b8 := x; show w.heap.size ≤ k; omega)).trans (Kp.of_below (S := fun _ => False) k4.bl) (fun _ _ x => x.elim)).trans kk5 (fun k _ x => by have x : k = b9 := x; show w.heap.size ≤ k; omega)
  have B5 : Below w.heap.size w w5 := K.below (fun _ x => x) (Nat.le_refl _)
  have m5 : Ma20 w5 b8 g020 := kk5.heap (q83.old k4.bl) (fun x => by have x : b8 = b9 := x; omega)
  have RU := prun20 b8 b9 5 5 [14, 15, 16, 17, 18] (Gi20 b8 (w5.heap.size + 1)) w5 59 rfl (by decide) (by decide) (by omega) (by omega) q95
    (by
      intro f hf x W
      simp only [List.mem_cons, List.not_mem_nil, or_false] at hf
      rcases hf with rfl | rfl | rfl | rfl | rfl <;> kernel_rfl)
    (fun V hV hl => ⟨(ht.old B5).old hV, hl, m5.old hV⟩)
    (gi20_step b8 _ (by omega))
  have HRU := Hid.mk20 RU
  have HW : Hid (w.alloc (.cells #[.int .i64 64, .int .i64 100, .int .i64 10, .bool false, .int .i64 100] 31) = w1 ∧ w.heap.size = b5 ∧ w1.alloc (.cells #[.int .i64 0, .int .i64 0, .int .i64 0, .bool false, .int .i64 0, .slice none 0 0, .int .i64 0, .slice none 0 0, .slice none 0 0, .slice none 0 0, .slice none 0 0, .slice none 0 0, .slice none 0 0, .slice none 0 0, .int .i64 0, .int .i64 0, .int .u32 0, .int .u32 0, .int .i64 0, .int .i64 0, .slice none 0 0, .slice none 0 0] 56) = w2 ∧ w1.heap.size = b8 ∧ w3.alloc (.cells #[.nilFunc, .nilFunc, .nilFunc, .nilFunc, .nilFunc] 59) = w4 ∧ w3.heap.size = b9 ∧ w2.setRow b8 g020 = w3 ∧ w4.setRow b9 (fv20 [14, 15, 16, 17, 18]) = w5 ∧ b5 + 1 = b8) := ⟨hw1.symm, hb5.symm, hw2.symm, hb8.symm, hw4.symm, hb9.symm, hw3.symm, hw5.symm, by omega⟩
  have HQ : Hid (w2.heap[b8]? = some (.cells zm20 56 (0, 0)) ∧ w4.heap[b9]? = some (.cells #[.nilFunc, .nilFunc, .nilFunc, .nilFunc, .nilFunc] 59 (0, 0))) := ⟨q8, q9⟩
  have HB5 := Hid.mk20 B5
  have q5 := k1.cl
  rw [← hb5] at q5
  have e0 : w1.cell? ⟨b5, 0, none⟩ = some (.int .i64 64) := cell18 q5 rfl
  have e1 : w1.cell? ⟨b5, 1, none⟩ = some (.int .i64 100) := cell18 q5 rfl
  have e2 : w1.cell? ⟨b5, 2, none⟩ = some (.int .i64 10) := cell18 q5 rfl
  have e3 : w1.cell? ⟨b5, 3, none⟩ = some (.bool false) := cell18 q5 rfl
  have e4 : w1.cell? ⟨b5, 4, none⟩ = some (.int .i64 100) := cell18 q5 rfl
  rw [← HW.out.1, ← HW.out.2.1] at e0 e1 e2 e3 e4
  have HSZ : Hid (b8 < w5.heap.size) := (by omega : b8 < w5.heap.size)
  have HN : Hid (w.heap.size ≤ w5.heap.size ∧ w.heap.size < b8) := ⟨B5.size, by omega⟩
  clear hw1 hw2 hw3 hw4 hw5 hb5 hb8 hb9 k1 k2 k4 q8 q9 q83 kk3 kk5 s1 s2 s3 s4 s5 K B5 m5 RU q5 q95 h0 ht
  go_enter Tryz.func10, Tryz.ntmps10
  go_wp2_with (first
    | (rw [HW.out.1, HW.out.2.1, HW.out.2.2.2.2.2.2.2.2, HW.out.2.2.1]; refine wpList_store_row rfl 56 (.tmp 8) (.tmp 14) rfl b8 g020 rfl rfl _ _ HQ.out.1 (by kernel_rfl) rfl (by kernel_rfl) ?_; rw [HW.out.2.2.2.2.2.2.1])
    | (rw [HW.out.2.2.2.2.1, HW.out.2.2.2.2.2.1]; refine wpList_store_row rfl 59 (.tmp 9) (.tmp 15) rfl b9 (fv20 [14, 15, 16, 17, 18]) rfl rfl _ _ HQ.out.2 (by kernel_rfl) rfl (by kernel_rfl) ?_; rw [HW.out.2.2.2.2.2.2.2.1]))
  refine HRU.out.mono ?_
  rintro e1 w6 ⟨rfl, V, ⟨-, -, ga, gx, wa, wc, p, c, m6, o6⟩, kv, kw, hsz⟩
  have hne : b8 ≠ w5.heap.size := by have q := HSZ.out; omega
  have m7 : Ma20 w6 b8 _ := kv.heap m6 (fun x => hne x)
  have c21 := m7.c (i := 21) rfl
  have o7 : w6.ownsRow w.heap.size 5 1 (.slice p 25 c) 25 ((sum18 (sum18 (hd18 h018))).map (Value.int .u8)) := own_base (own_kp o6 kv (fun k hk x => by have := (o6.lt k hk).1; have x : k = w5.heap.size := x; omega)) (by have := HN.out.1; omega)
  have B7 : Below w.heap.size w w6 := by
    have k7 : Kp (fun k => w.heap.size ≤ k) w w6 := (Kp.of_below (S := fun k => w.heap.size ≤ k) HB5.out).trans kw (fun k _ x => by have x : k = b8 := x; have := HN.out.2; show w.heap.size ≤ k; omega)
    exact k7.below (fun _ x => x) (Nat.le_refl _)
  have HP : Hid (w6.ownsRow w.heap.size 5 1 (.slice p 25 c) 25 ((sum18 (sum18 (hd18 h018))).map (Value.int .u8)) ∧ Below w.heap.size w w6) := ⟨o7, B7⟩
  clear m6 o6 kv kw hsz m7 o7 B7 hne e0 e1 e2 e3 e4
  go_wp2_with fail
  go_ret2
  exact ⟨p, c, rfl, HP.out.1, HP.out.2⟩
end Go.Proofs.YtmfpdchfofffeaaGreatDoor
