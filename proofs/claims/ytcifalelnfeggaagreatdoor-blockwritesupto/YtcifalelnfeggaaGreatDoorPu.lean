import Derived.Test.YtcifalelnfeggaaGreatDoorPs
import Derived.Test.YtcifalelnfeggaaGreatDoorPq
import Derived.Test.YtcifalelnfeggaaGreatDoorPt
import Derived.Test.YtcifalelnfeggaaGreatDoorPn
import Derived.Test.YtcifalelnfeggaaGreatDoorPa
import Derived.Test.YtcifalelnfeggaaGreatDoorPg
namespace Go.Proofs.YtcifalelnfeggaaGreatDoor
open Go.RowKit
set_option linter.unusedVariables false

/-! The document's Cost. -/
theorem zeros_bd9 (n : Nat) : ∀ z ∈ List.replicate n (0 : Int), 0 ≤ z ∧ z ≤ 255 := by
  intro z hz
  obtain ⟨_, rfl⟩ := List.mem_replicate.1 hz
  decide
theorem rep_arr9 (n : Nat) : ((List.replicate n (0 : Int)).map (Value.int .u8)).toArray = Array.replicate n (Value.int .u8 0) := by simp
theorem run_make_arr9 (n : Nat) (h : n ≤ 140737488355328) (w : World) :
    (Instr.makeSlice 59 (.int .i64 (n : Int)) (.int .i64 (n : Int))).run Tryz.prog w = .ok (.slice (some ⟨w.heap.size, 0, none⟩) n n) (w.alloc (.cells (Array.replicate n (Value.int .u8 0)) 5)) := by
  rw [← rep_arr9]
  exact run_make_noughts n h w
theorem made_seg9 {w w2 : World} {n : Nat} (h : n ≤ 140737488355328) (hw : w2 = w.alloc (.cells (Array.replicate n (Value.int .u8 0)) 5)) : Seg w2 (some ⟨w.heap.size, 0, none⟩) (List.replicate n (0 : Int)) := by
  have := made_row w (List.replicate n (0 : Int)) 5 (by rw [List.length_replicate]; omega)
  rw [rep_arr9, ← hw] at this
  obtain ⟨_, a5, c5, hv5, s5, _⟩ := own_seg (M := 255) this (by omega) (zeros_bd9 n)
  injection hv5 with h5 _ _
  rw [h5]
  exact s5
def RcQ9 (w : World) (v er : Int) (e : Ending) (w' : World) : Prop := e = .returned (.tuple #[.int .i64 v, .int .i64 er]) ∧ Below w.heap.size w w'
set_option maxRecDepth 100000 in
set_option maxHeartbeats 4000000 in
theorem rcst9_arg (k x : Int) (h : k < 0 ∨ 2 < k ∨ x < 0 ∨ 7 < x) (v : Value) (w : World) : Calls Tryz.prog 26 #[.int .i64 k, .int .i64 x, v] w (RcQ9 w 0 1) := by
  by_cases h1 : k < 0
  · go_enter Tryz.func26, Tryz.ntmps26
    go_wp2_with fail
    go_ret2
    exact ⟨rfl, Below.refl _ _⟩
  · by_cases h2 : 2 < k
    · go_enter Tryz.func26, Tryz.ntmps26
      go_wp2_with fail
      go_ret2
      exact ⟨rfl, Below.refl _ _⟩
    · by_cases h3 : x < 0
      · go_enter Tryz.func26, Tryz.ntmps26
        go_wp2_with fail
        go_ret2
        exact ⟨rfl, Below.refl _ _⟩
      · have h4 : 7 < x := by omega
        go_enter Tryz.func26, Tryz.ntmps26
        go_wp2_with fail
        go_ret2
        exact ⟨rfl, Below.refl _ _⟩
set_option maxRecDepth 100000 in
set_option maxHeartbeats 8000000 in
theorem rcst9_in (l : List Tok7) (a : Option Addr) (n cap : Nat) (hn : Hid (l.length = n)) (k x : Nat) (hk : k < 3) (hx : x < 8) (w : World) (hs : SegT w a l) (hl : n ≤ 5864062014634) :
    Calls Tryz.prog 26 #[.int .i64 (k : Int), .int .i64 (x : Int), .slice a n cap] w (RcQ9 w (if ple9 (k : Int) (x : Int) l = 0 then cos9 k x (tal9 l) else 0) (ple9 (k : Int) (x : Int) l)) := by
  have j1 : ¬ (k : Int) < 0 := by omega
  have j2 : ¬ (2 : Int) < (k : Int) := by omega
  have j3 : ¬ (x : Int) < 0 := by omega
  have j4 : ¬ (7 : Int) < (x : Int) := by omega
  have hmb := fun (m : Nat) (h : m ≤ 140737488355328) => run_make_arr9 m h
  obtain ⟨wA, hwA⟩ : ∃ wA, wA = w.alloc (.cells ((List.replicate x false).map Value.bool).toArray 4) := ⟨_, rfl⟩
  obtain ⟨w0, hw0⟩ : ∃ w0, w0 = wA.alloc (.cells #[.slice (some ⟨w.heap.size, 0, none⟩) x x] 67) := ⟨_, rfl⟩
  have sA : wA.heap.size = w.heap.size + 1 := by rw [hwA]; simp
  have s0 : w0.heap.size = w.heap.size + 2 := by rw [hw0]; simp [sA]
  have BA : Below w.heap.size w wA := by rw [hwA]; exact below_box8 w _
  have B0 : Below w.heap.size w w0 := by rw [hw0]; exact BA.trans ((below_box8 wA _).mono (by omega))
  have OA : wA.ownsRow w.heap.size 4 1 (.slice (some ⟨w.heap.size, 0, none⟩) x x) x ((List.replicate x false).map Value.bool) := by
    have := made_rowB9 w (List.replicate x false) 4 (by rw [List.length_replicate]; omega)
    rw [List.length_replicate, ← hwA] at this
    exact this
  have RW : RwL w0 (w.heap.size + 1) w.heap.size (.slice (some ⟨w.heap.size, 0, none⟩) x x) (List.replicate x false) := by
    refine ⟨some ⟨w.heap.size, 0, none⟩, x, by rw [List.length_replicate], ?_⟩
    refine ⟨?_, ?_, ?_, by omega⟩
    · rw [List.length_replicate, hw0, ← sA]
      exact heap_alloc_new wA _
    · rw [List.length_replicate, hw0]
      exact OA.alloc _
    · simp [Value.ownBlock]
  have hps : ple9 (k : Int) (x : Int) l = if mer9 l ≠ 0 then mer9 l else if mst9 k < (tal9 l).getD 0 0 then 90 else 0 := by
    unfold ple9
    rw [if_neg (by omega), Int.toNat_natCast]
  have HWA : Hid (w.alloc (.cells ((List.replicate x false).map Value.bool).toArray 4) = wA) := hwA.symm
  have HW0 : Hid (wA.alloc (.cells #[.slice (some ⟨w.heap.size, 0, none⟩) x x] 67) = w0) := hw0.symm
  have hmk1 : (Instr.makeSlice 65 (.int .i64 (x : Int)) (.int .i64 (x : Int))).run Tryz.prog w = .ok (.slice (some ⟨w.heap.size, 0, none⟩) x x) wA := by rw [run_make_bools9 x (by omega), ← hwA]
  clear OA hwA hw0
  have CM := rmay9 l a n cap hn w0 (hs.old B0) hl
  by_cases hm : mer9 l = 0
  · rw [hm] at CM
    rw [if_neg (by omega)] at hps
    have hn6 : n ≤ 65536 := by have := (mer9_zero hm).1; rw [hn.out] at this; exact this
    have hsz := siz7_le l
    rw [hn.out] at hsz
    have hts := tal9_size hm hs.fit
    obtain ⟨nx, hnx⟩ : ∃ nx, nx = siz7 l := ⟨_, rfl⟩
    have HSZ : Hid (∀ W, Below w.heap.size w W → Calls Tryz.prog 32 #[.slice a n cap] W fun e w' => e = .returned (.int .i64 (nx : Int)) ∧ Below W.heap.size W w') := fun W hW => by
      have := rsize7 l a n cap hn W (hs.old hW) (by omega)
      rw [← hnx] at this
      exact this
    have HNX : Hid (siz7 l = nx) := hnx.symm
    rw [← hnx] at hts hsz
    rw [hts] at hps
    have HPS : Hid (ple9 (k : Int) (x : Int) l = if mst9 k < (nx : Int) then 90 else 0) := hps
    have HS : Hid (SegT w a l) := hs
    have HMM : Hid (mer9 l = 0) := hm
    have HRW : Hid (RwL w0 (w.heap.size + 1) w.heap.size (.slice (some ⟨w.heap.size, 0, none⟩) x x) (List.replicate x false)) := RW
    have HB0 : Hid (Below w.heap.size w w0) := B0
    clear hs hm hnx hts hps RW BA
    by_cases hlong : k = 0 ∧ 65535 < nx
    · obtain ⟨rfl, hbig⟩ := hlong
      have hbi : (65535 : Int) < (nx : Int) := by omega
      have hp : ple9 ((0 : Nat) : Int) (x : Int) l = 90 := by rw [HPS.out]; unfold mst9; rw [if_pos rfl, if_pos hbi]
      rw [hp, if_neg (by omega)]
      clear HPS hp
      go_enter Tryz.func26, Tryz.ntmps26
      go_wp2_with fail
      rw [HW0.out]
      refine CM.mono ?_
      rintro e w1 ⟨rfl, b1⟩
      have B1 : Below w.heap.size w w1 := HB0.out.trans (b1.mono HB0.out.size)
      clear CM b1
      go_wp2_with fail
      refine (HSZ.out w1 B1).mono ?_
      rintro e w2 ⟨rfl, b2⟩
      have B2 : Below w.heap.size w w2 := B1.trans (b2.mono B1.size)
      clear HSZ
      go_wp2_with fail
      go_ret2
      exact ⟨rfl, B2⟩
    · have hx6 : k = 0 → nx ≤ 65535 := fun h => by have : ¬ 65535 < nx := fun q => hlong ⟨h, q⟩; omega
      have hp : ple9 (k : Int) (x : Int) l = 0 := by
        rw [HPS.out, if_neg]
        unfold mst9
        split
        · rename_i h; have := hx6 h; omega
        · omega
      rw [hp, if_pos rfl]
      have hmb1 := hmb nx (by omega)
      have HWR : Hid (∀ W2 W3 : World, Below w0.heap.size w0 W2 → W3 = W2.alloc (.cells (Array.replicate nx (Value.int .u8 0)) 5) → Calls Tryz.prog 35 #[.pointer (some ⟨w.heap.size + 1, 0, none⟩), .int .i64 (k : Int), .bool false, .slice (some ⟨W2.heap.size, 0, none⟩) nx nx, .slice a n cap] W3 fun e w' => e = .returned (.int .i64 0) ∧ (∃ b c, w'.cell? ⟨w.heap.size + 1, 0, none⟩ = some (.slice b (x + (cos9 k x (tal9 l)).toNat) c)) ∧ Below w.heap.size w w') := fun W2 W3 h2 h3 => by
        have b3 : Below W2.heap.size W2 W3 := by rw [h3]; exact below_box8 W2 _
        have b03 : Below w0.heap.size w0 W3 := h2.trans (b3.mono h2.size)
        have RW3 := HRW.out.below8 b03
        have hW2 := h2.size
        have hs3 : W3.heap.size = W2.heap.size + 1 := by rw [h3]; simp
        have HD : Hid ((List.replicate nx (0 : Int)).length = nx) := List.length_replicate
        have SD : Seg W3 (some ⟨W2.heap.size, 0, none⟩) (List.replicate nx (0 : Int)) := made_seg9 (by omega) h3
        have C := rwr9_any (w.heap.size + 1) w.heap.size (.slice (some ⟨w.heap.size, 0, none⟩) x x) (List.replicate x false) false (List.replicate nx (0 : Int)) (some ⟨W2.heap.size, 0, none⟩) nx nx HD l a n cap hn k hk W3 RW3 (by rw [List.length_replicate]; omega) (HS.out.old (HB0.out.trans (b03.mono HB0.out.size))) HMM.out HNX.out hx6 SD (fun g o e _ => by
          simp only [Option.some.injEq, Addr.mk.injEq] at e
          refine ⟨?_, by omega⟩
          rintro (q | q)
          · omega
          · simp [Value.ownBlock] at q; omega) (fun g o e h => by
          have := HS.out.lt g o e h
          rintro (q | q)
          · omega
          · simp [Value.ownBlock] at q; omega)
        refine C.mono ?_
        rintro e w4 ⟨rfl, v4, ⟨ua, uc, rfl, r4⟩, k4, f4⟩
        have hc := r4.cell0
        have hlen : (List.replicate x false ++ blk9 k ((List.replicate x false).length % 8) false (List.replicate nx (0 : Int)) l).length = x + (cos9 k x (tal9 l)).toNat := by
          have h1 := blk9_len (x := x) hk (last := false) (data := List.replicate nx (0 : Int)) HMM.out HS.out.fit (by rw [List.length_replicate, tal9_size HMM.out HS.out.fit, HNX.out])
          rw [List.length_append, List.length_replicate, Nat.mod_eq_of_lt hx, ← h1, Int.toNat_natCast]
        rw [hlen] at hc
        refine ⟨rfl, ⟨ua, uc, hc⟩, ?_⟩
        have b3w : Below w.heap.size w W3 := HB0.out.trans (b03.mono HB0.out.size)
        exact b3w.trans (k4.below (fun i e => by
          rcases e with e | e
          · omega
          · simp [Value.ownBlock] at e; omega) b3w.size)
      have hcb := cos9_bd (k := k) (x := x) (tal9_ct HMM.out HS.out.fit)
      obtain ⟨C, hC⟩ : ∃ C : Nat, (C : Int) = cos9 k x (tal9 l) := ⟨(cos9 k x (tal9 l)).toNat, by omega⟩
      rw [← hC] at hcb HWR ⊢
      simp only [Int.toNat_natCast] at HWR
      clear hC hp HPS HRW hmb
      go_enter Tryz.func26, Tryz.ntmps26
      go_wp2_with fail
      rw [HW0.out]
      refine CM.mono ?_
      rintro e w1 ⟨rfl, b1⟩
      have B1 : Below w.heap.size w w1 := HB0.out.trans (b1.mono HB0.out.size)
      have HB1 : Hid (Below w0.heap.size w0 w1) := b1
      clear CM b1
      by_cases hk0 : k = 0
      · subst hk0
        have hxi : ¬ (65535 : Int) < (nx : Int) := by have := hx6 rfl; omega
        go_wp2_with fail
        refine (HSZ.out w1 B1).mono ?_
        rintro e w2 ⟨rfl, b2⟩
        have B2 : Below w.heap.size w w2 := B1.trans (b2.mono B1.size)
        have HB2 : Hid (Below w0.heap.size w0 w2) := HB1.out.trans (b2.mono HB1.out.size)
        clear b2
        go_wp2_with fail
        refine (HSZ.out w2 B2).mono ?_
        rintro e w3 ⟨rfl, b3⟩
        have HB3 : Hid (Below w0.heap.size w0 w3) := HB2.out.trans (b3.mono HB2.out.size)
        have CW := HWR.out w3 _ HB3.out rfl
        clear b3 B1 B2
        go_wp2_with fail
        refine CW.mono ?_
        rintro e w4 ⟨rfl, ⟨b4, c4, d4⟩, B4⟩
        clear CW HWR
        go_wp2_with fail
        go_ret2
        refine ⟨?_, B4⟩
        show Ending.returned (.tuple #[.int .i64 ((x : Int) + (C : Int) - (x : Int)), .int .i64 0]) = _
        rw [show (x : Int) + (C : Int) - (x : Int) = (C : Int) by omega]
      · have hk0i : ¬ (k : Int) = 0 := by omega
        go_wp2_with fail
        refine (HSZ.out w1 B1).mono ?_
        rintro e w3 ⟨rfl, b3⟩
        have HB3 : Hid (Below w0.heap.size w0 w3) := HB1.out.trans (b3.mono HB1.out.size)
        have CW := HWR.out w3 _ HB3.out rfl
        clear b3 B1
        go_wp2_with fail
        refine CW.mono ?_
        rintro e w4 ⟨rfl, ⟨b4, c4, d4⟩, B4⟩
        clear CW HWR
        go_wp2_with fail
        go_ret2
        refine ⟨?_, B4⟩
        show Ending.returned (.tuple #[.int .i64 ((x : Int) + (C : Int) - (x : Int)), .int .i64 0]) = _
        rw [show (x : Int) + (C : Int) - (x : Int) = (C : Int) by omega]
  · have hE : ple9 (k : Int) (x : Int) l = mer9 l := by rw [hps, if_pos hm]
    rw [hE, if_neg hm]
    obtain ⟨E, hEE⟩ : ∃ E, E = mer9 l := ⟨_, rfl⟩
    rw [← hEE] at CM hm ⊢
    have hEb : (E == 0) = false := by rw [beq_eq_false_iff_ne]; exact hm
    clear hs hps hE hEE RW
    go_enter Tryz.func26, Tryz.ntmps26
    go_wp2_with fail
    rw [HW0.out]
    refine CM.mono ?_
    rintro e w1 ⟨rfl, b1⟩
    have B1 : Below w.heap.size w w1 := B0.trans (b1.mono B0.size)
    clear CM b1
    go_wp2_with fail
    go_ret2
    exact ⟨rfl, B1⟩
end Go.Proofs.YtcifalelnfeggaaGreatDoor

namespace Go.Proofs.YtcifalelnfeggaaGreatDoor
open Go.RowKit
set_option linter.unusedVariables false

/-! The document's Pick. -/
def cv9 (x : Nat) (l : List Tok7) (i : Nat) : Int := if ple9 (i : Int) (x : Int) l = 0 then cos9 i x (tal9 l) else 0
def rk9 (x : Nat) (l : List Tok7) : Nat → Int × Int
  | 0 => (-1, 0)
  | i + 1 => if ple9 (i : Int) (x : Int) l = 0 ∧ ((rk9 x l i).1 < 0 ∨ cv9 x l i < (rk9 x l i).2) then ((i : Int), cv9 x l i) else rk9 x l i
theorem rk9_step {x i : Nat} (hx : x < 8) (hi : i < 3) {l : List Tok7} (hm : mer9 l = 0) : rk9 x l (i + 1) = if mst9 i < (tal9 l).getD 0 0 then rk9 x l i else if (rk9 x l i).1 < 0 ∨ cos9 i x (tal9 l) < (rk9 x l i).2 then ((i : Int), cos9 i x (tal9 l)) else rk9 x l i := by
  rw [rk9]
  unfold cv9
  have h := ple9_in' hx hi hm
  by_cases hb : mst9 i < (tal9 l).getD 0 0
  · rw [if_pos hb] at h ⊢
    rw [if_neg]
    rintro ⟨h2, _⟩
    omega
  · rw [if_neg hb] at h ⊢
    rw [h]
    simp only [if_true, true_and]
theorem rk9_or {x : Nat} (hx : x < 8) {l : List Tok7} (hm : mer9 l = 0) (hf : ∀ t ∈ l, t.Fit) : ∀ i, i ≤ 3 → (rk9 x l i = (-1, 0) ∧ pk9 x (tal9 l) i = (0, 9223372036854775807)) ∨ (0 ≤ (rk9 x l i).1 ∧ rk9 x l i = pk9 x (tal9 l) i)
  | 0, _ => .inl ⟨rfl, rfl⟩
  | i + 1, hi => by
    have ih := rk9_or hx hm hf i (by omega)
    have hb := cos9_bd (k := i) (x := x) (tal9_ct hm hf)
    rw [rk9_step hx (by omega) hm, pk9]
    by_cases h : mst9 i < (tal9 l).getD 0 0
    · rw [if_pos h, if_pos h]
      exact ih
    · rw [if_neg h, if_neg h]
      rcases ih with ⟨h1, h2⟩ | ⟨h1, h2⟩
      · rw [h1, h2]
        right
        rw [if_pos (by left; simp only; omega), if_pos (by simp only; omega)]
        exact ⟨by simp only; omega, rfl⟩
      · rw [h2] at h1 ⊢
        by_cases h3 : cos9 i x (tal9 l) < (pk9 x (tal9 l) i).2
        · rw [if_pos (.inr h3), if_pos h3]
          exact .inr ⟨by simp only; omega, rfl⟩
        · rw [if_neg (by rintro (q | q) <;> omega), if_neg h3]
          exact .inr ⟨h1, rfl⟩
theorem rk9_eq {x : Nat} (hx : x < 8) {l : List Tok7} (hm : mer9 l = 0) (hf : ∀ t ∈ l, t.Fit) : rk9 x l 3 = pk9 x (tal9 l) 3 := by
  rcases rk9_or hx hm hf 3 (by omega) with ⟨h1, h2⟩ | ⟨_, h⟩
  · exfalso
    have hs := siz7_le l
    have hl := (mer9_zero hm).1
    have hz : ¬ mst9 2 < (tal9 l).getD 0 0 := by
      rw [tal9_size hm hf]
      unfold mst9
      rw [if_neg (by omega)]
      omega
    rw [rk9_step hx (by omega) hm, if_neg hz] at h1
    split at h1
    · have := congrArg Prod.fst h1
      simp at this
    · rename_i hq
      rw [h1] at hq
      apply hq
      left
      simp only
      omega
  · exact h
theorem rk9_bd (x : Nat) (l : List Tok7) : ∀ i, -1 ≤ (rk9 x l i).1 ∧ (rk9 x l i).1 ≤ (i : Int)
  | 0 => by rw [rk9]; simp only; omega
  | i + 1 => by
    have := rk9_bd x l i
    rw [rk9]
    split
    · simp only; omega
    · omega
set_option maxRecDepth 100000 in
set_option maxHeartbeats 4000000 in
theorem rpck9_no (l : List Tok7) (a : Option Addr) (n cap : Nat) (hn : Hid (l.length = n)) (x : Int) (w : World) (hs : SegT w a l) (hl : n ≤ 5864062014634) (hx : (x < 0 ∨ 8 ≤ x) ∨ mer9 l ≠ 0) :
    Calls Tryz.prog 28 #[.int .i64 x, .slice a n cap] w (RcQ9 w 0 (if x < 0 ∨ 8 ≤ x then 1 else mer9 l)) := by
  by_cases h1 : x < 0
  · rw [if_pos (.inl h1)]
    go_enter Tryz.func28, Tryz.ntmps28
    go_wp2_with fail
    go_ret2
    exact ⟨rfl, Below.refl _ _⟩
  · by_cases h2 : 7 < x
    · rw [if_pos (.inr (by omega))]
      go_enter Tryz.func28, Tryz.ntmps28
      go_wp2_with fail
      go_ret2
      exact ⟨rfl, Below.refl _ _⟩
    · have hm : mer9 l ≠ 0 := hx.resolve_left (by omega)
      rw [if_neg (by omega)]
      have CM := rmay9 l a n cap hn w hs hl
      obtain ⟨E, hEE⟩ : ∃ E, E = mer9 l := ⟨_, rfl⟩
      rw [← hEE] at CM hm ⊢
      have hEb : (E == 0) = false := by rw [beq_eq_false_iff_ne]; exact hm
      clear hs hEE hx
      go_enter Tryz.func28, Tryz.ntmps28
      go_wp2_with fail
      refine CM.mono ?_
      rintro e w1 ⟨rfl, b1⟩
      clear CM
      go_wp2_with fail
      go_ret2
      exact ⟨rfl, b1⟩
set_option maxRecDepth 100000 in
set_option maxHeartbeats 8000000 in
theorem rpck9_ok (l : List Tok7) (a : Option Addr) (n cap : Nat) (hn : Hid (l.length = n)) (x : Nat) (hx : x < 8) (w : World) (hs : SegT w a l) (hm : mer9 l = 0) :
    Calls Tryz.prog 28 #[.int .i64 (x : Int), .slice a n cap] w (RcQ9 w (pk9 x (tal9 l) 3).1 0) := by
  have hn6 : n ≤ 65536 := by have := (mer9_zero hm).1; rw [hn.out] at this; exact this
  have CM := rmay9 l a n cap hn w hs (by omega)
  rw [hm] at CM
  have j1 : ¬ (x : Int) < 0 := by omega
  have j2 : ¬ (7 : Int) < (x : Int) := by omega
  rw [← rk9_eq hx hm hs.fit]
  have HC : Hid (∀ W (i : Nat), i < 3 → Below w.heap.size w W → Calls Tryz.prog 26 #[.int .i64 (i : Int), .int .i64 (x : Int), .slice a n cap] W (RcQ9 W (cv9 x l i) (ple9 (i : Int) (x : Int) l))) := fun W i hi hW => rcst9_in l a n cap hn i x hi hx W (hs.old hW) (by omega)
  have HV : Hid (∀ i, 0 ≤ cv9 x l i ∧ cv9 x l i ≤ 20000000000000000) := fun i => by
    have := cos9_bd (k := i) (x := x) (tal9_ct hm hs.fit)
    unfold cv9
    split <;> omega
  clear hs hm
  go_enter Tryz.func28, Tryz.ntmps28
  go_wp2_with fail
  refine CM.mono ?_
  rintro e w1 ⟨rfl, b1⟩
  clear CM
  go_wp2_with fail
  go_loopw [7, 8, 9] (fun tb tl ti wr => ∃ (i : Nat), i ≤ 3 ∧ ti = .int .i64 (i : Int) ∧ tb = .int .i64 (rk9 x l i).1 ∧ tl = .int .i64 (rk9 x l i).2 ∧ Below w.heap.size w wr) (fun _ _ ti _ => 3 - (intOf ti).toNat)
  case atStart => exact ⟨0, by omega, rfl, rfl, rfl, b1⟩
  case round =>
    obtain ⟨i, hi3, rfl, rfl, rfl, BR⟩ := hrel
    clear b1
    by_cases hlt : i < 3
    · have hle : (i : Int) ≤ 2 := by omega
      have CC := HC.out wr i hlt BR
      have HST : Hid (rk9 x l (i + 1) = if ple9 (i : Int) (x : Int) l = 0 ∧ ((rk9 x l i).1 < 0 ∨ cv9 x l i < (rk9 x l i).2) then ((i : Int), cv9 x l i) else rk9 x l i) := rfl
      have hv := HV.out i
      generalize rk9 x l i = P at *
      obtain ⟨P1, P2⟩ := P
      simp only at HST ⊢
      generalize cv9 x l i = V at *
      generalize ple9 (i : Int) (x : Int) l = ER at *
      have i7 : IntKind.i64.wrap ((i : Int) + 1) = (i : Int) + 1 := IntWalk.i64_in _ (by omega)
      have HBR : Hid (Below w.heap.size w wr) := BR
      clear BR
      by_cases hE : ER = 0
      · subst hE
        by_cases hP : P1 < 0
        · rw [if_pos ⟨rfl, .inl hP⟩] at HST
          go_wp2_with fail
          refine CC.mono ?_
          rintro e w2 ⟨rfl, b2⟩
          have B2 : Below w.heap.size w w2 := HBR.out.trans (b2.mono HBR.out.size)
          clear CC b2
          go_wp2_with fail
          go_roundw
          case rel => exact ⟨i + 1, by omega, by go_num, by rw [HST.out], by rw [HST.out], B2⟩
          case measure => simp [intOf]; omega
        · by_cases hQ : V < P2
          · rw [if_pos ⟨rfl, .inr hQ⟩] at HST
            go_wp2_with fail
            refine CC.mono ?_
            rintro e w2 ⟨rfl, b2⟩
            have B2 : Below w.heap.size w w2 := HBR.out.trans (b2.mono HBR.out.size)
            clear CC b2
            go_wp2_with fail
            go_roundw
            case rel => exact ⟨i + 1, by omega, by go_num, by rw [HST.out], by rw [HST.out], B2⟩
            case measure => simp [intOf]; omega
          · rw [if_neg (by rintro ⟨_, q | q⟩ <;> omega)] at HST
            go_wp2_with fail
            refine CC.mono ?_
            rintro e w2 ⟨rfl, b2⟩
            have B2 : Below w.heap.size w w2 := HBR.out.trans (b2.mono HBR.out.size)
            clear CC b2
            go_wp2_with fail
            go_roundw
            case rel => exact ⟨i + 1, by omega, by go_num, by rw [HST.out], by rw [HST.out], B2⟩
            case measure => simp [intOf]; omega
      · have hEb : (ER == 0) = false := by rw [beq_eq_false_iff_ne]; exact hE
        rw [if_neg (fun q => hE q.1)] at HST
        go_wp2_with fail
        refine CC.mono ?_
        rintro e w2 ⟨rfl, b2⟩
        have B2 : Below w.heap.size w w2 := HBR.out.trans (b2.mono HBR.out.size)
        clear CC b2
        go_wp2_with fail
        go_roundw
        case rel => exact ⟨i + 1, by omega, by go_num, by rw [HST.out], by rw [HST.out], B2⟩
        case measure => simp [intOf]; omega
    · obtain rfl : i = 3 := by omega
      go_wp2_with fail
      go_ret2
      exact ⟨rfl, BR⟩
end Go.Proofs.YtcifalelnfeggaaGreatDoor

namespace Go.Proofs.YtcifalelnfeggaaGreatDoor
open Go.RowKit
set_option linter.unusedVariables false

/-! BlockTrue's tokens; the kind that is picked. -/
theorem sum_snoc9 (f : Tok7 → Int) (l : List Tok7) (t : Tok7) : ((l ++ [t]).map f).sum = (l.map f).sum + f t := by simp
set_option maxRecDepth 100000 in
set_option maxHeartbeats 8000000 in
theorem toks9 (ZL ZD : List Int) (la da : Option Addr) (nl lc nd dc : Nat) (hnl : Hid (ZL.length = nl)) (hnd : Hid (ZD.length = nd)) (l : List Tok7) (a : Option Addr) (n cap : Nat) (hn : Hid (l.length = n)) (w : World) (hs : SegT w a l) (sL : SegZ w la ZL) (sD : SegZ w da ZD) (hcL : errC ZL = 0) (hcD : errC ZD = 0) (h1 : 286 ≤ nl) (h2 : nl ≤ 1000) (h3 : 30 ≤ nd) (h4 : nd ≤ 1000) (hm : mer9 l = 0) :
    Calls Tryz.prog 41 #[.slice la nl lc, .slice da nd dc, .slice a n cap] w fun e w' => e = .returned (.int .i64 (tks9 ZL ZD l)) ∧ Below w.heap.size w w' := by
  obtain ⟨hn6, hmay⟩ := mer9_zero hm
  rw [hn.out] at hn6
  have CC := rcheck_any la ZL nl lc hnl w sL (by omega)
  rw [hcL] at CC
  have hnl2 := hnl.out
  have hnd2 := hnd.out
  obtain ⟨gl, ol, rfl, c256⟩ := sL.at_ 256 (by omega)
  obtain ⟨gd, od, rfl, _⟩ := sD.at_ 0 (by omega)
  have HS : Hid (∀ W, Below w.heap.size w W → SegT W a l ∧ SegZ W (some ⟨gl, ol, none⟩) ZL ∧ SegZ W (some ⟨gd, od, none⟩) ZD) := fun W h => ⟨hs.old h, sL.old h, sD.old h⟩
  have HFT : Hid (∀ t ∈ l, t.Fit) := hs.fit
  have HM : Hid (∀ t ∈ l, may7 t) := hmay
  have HSM : Hid (∀ i, 0 ≤ ((l.take i).map (tk9 ZL ZD)).sum ∧ ((l.take i).map (tk9 ZL ZD)).sum ≤ 1966080) := fun i => by
    have := tkm9_bd hcL hcD (l.take i)
    have h2 : (l.take i).length ≤ 65536 := by rw [List.length_take, hn.out]; omega
    omega
  have g : ∀ (Z : List Int), errC Z = 0 → ∀ i, 0 ≤ Z.getD i 0 ∧ Z.getD i 0 ≤ 15 := fun Z h i => by
    have hb := (errS_zero (errC_zero h).1).2
    by_cases hi : i < Z.length
    · refine hb _ ?_
      simp only [List.getD, List.getElem?_eq_getElem hi, Option.getD_some]
      exact List.getElem_mem hi
    · simp only [List.getD, List.getElem?_eq_none (show Z.length ≤ i by omega), Option.getD_none]; omega
  have HBL : Hid (∀ i, 0 ≤ ZL.getD i 0 ∧ ZL.getD i 0 ≤ 15) := g ZL hcL
  have HBD : Hid (∀ i, 0 ≤ ZD.getD i 0 ∧ ZD.getD i 0 ≤ 15) := g ZD hcD
  have HT0 : Hid (tks9 ZL ZD l = ZL.getD 256 0 + (l.map (tk9 ZL ZD)).sum) := rfl
  have b256 := HBL.out 256
  obtain ⟨z, hz⟩ : ∃ z, z = ZL.getD 256 0 := ⟨_, rfl⟩
  have HZ : Hid (ZL.getD 256 0 = z) := hz.symm
  rw [← hz] at c256 b256
  clear hs sL sD hcL hcD hmay hm g hz hnl2 hnd2
  go_enter Tryz.func41, Tryz.ntmps41
  go_wp2_with fail
  refine CC.mono ?_
  rintro e w1 ⟨rfl, hw1⟩
  rw [hw1]
  clear hw1 CC w1
  go_wp2_with fail
  go_loopw [7, 36] (fun tn ti wr => ∃ i : Nat, i ≤ n ∧ ti = .int .i64 (i : Int) ∧ tn = .int .i64 (z + ((l.take i).map (tk9 ZL ZD)).sum) ∧ Below w.heap.size w wr) (fun _ ti _ => n - (intOf ti).toNat)
  case atStart => exact ⟨0, by omega, rfl, by simp, Below.refl _ _⟩
  case round =>
    obtain ⟨i, hin, rfl, rfl, BR⟩ := hrel
    clear c256
    have hsm := HSM.out i
    by_cases hlt : i < n
    · have hlti : (i : Int) < (n : Int) := by omega
      have hil : i < l.length := by rw [hn.out]; exact hlt
      obtain ⟨ST, SL, SD⟩ := HS.out wr BR
      obtain ⟨gg, o, rfl, tk⟩ := ST.at_ i hil
      have hmem : l.getD i tk0 ∈ l := by simp only [List.getD, List.getElem?_eq_getElem hil, Option.getD_some]; exact List.getElem_mem hil
      have hfit := HFT.out _ hmem
      have hmay := HM.out _ hmem
      have HTK : Hid (((l.take (i + 1)).map (tk9 ZL ZD)).sum = ((l.take i).map (tk9 ZL ZD)).sum + tk9 ZL ZD (l.getD i tk0)) := by show _ = _; rw [takeT7 hil, sum_snoc9]
      generalize l.getD i tk0 = t at *
      generalize ((l.take i).map (tk9 ZL ZD)).sum = Q at *
      have HTB : Hid (tk9 ZL ZD t = if t.len = 0 then ZL.getD t.lit.toNat 0 else ZL.getD (257 + lix9 t.len) 0 + ZD.getD (dix9 t.dist) 0) := rfl
      have hfm := fit_may9 hfit hmay
      obtain ⟨lit, len, dist⟩ := t
      obtain ⟨x0, x1, x2⟩ := tk
      simp only at x0 x1 x2 hfm HTB
      have hlb : 0 ≤ lit ∧ lit ≤ 255 := hfit.1
      have i7 : IntKind.i64.wrap ((i : Int) + 1) = (i : Int) + 1 := IntWalk.i64_in _ (by omega)
      have HBR : Hid (Below w.heap.size w wr) := BR
      clear hfit hmay hmem ST SL SD BR
      have b3 := below_box8 wr (.cells #[.int .u8 lit, .int .i64 len, .int .i64 dist] 98)
      have HB4 : Hid (Below w.heap.size w (wr.alloc (.cells #[.int .u8 lit, .int .i64 len, .int .i64 dist] 98))) := HBR.out.trans (b3.mono HBR.out.size)
      have y0 := heap_alloc_new wr (.cells #[.int .u8 lit, .int .i64 len, .int .i64 dist] 98)
      by_cases hz : len = 0
      · rw [if_pos hz] at HTB
        subst hz
        obtain ⟨lt, rfl⟩ : ∃ lt : Nat, lit = (lt : Int) := ⟨lit.toNat, by omega⟩
        rw [Int.toNat_natCast] at HTB
        obtain ⟨g2, o2, e2, cl⟩ := (HS.out _ HB4.out).2.1.at_ lt (by have := hnl.out; omega)
        cases e2
        have bl := HBL.out lt
        obtain ⟨zz, hzz⟩ : ∃ zz, zz = ZL.getD lt 0 := ⟨_, rfl⟩
        rw [← hzz] at cl bl HTB
        have HNX : Hid (((l.take (i + 1)).map (tk9 ZL ZD)).sum = Q + zz) := by show _ = _; rw [HTK.out, HTB.out]
        have iw : IntKind.i64.wrap (z + Q + zz) = z + Q + zz := IntWalk.i64_in _ (by omega)
        have hltn : (lt : Int) < (nl : Int) := by omega
        clear HTK HTB hfm b3 hzz
        go_wp2_with fail
        go_roundw
        case rel => exact ⟨i + 1, by omega, by go_num, by rw [HNX.out]; congr 1; omega, HB4.out⟩
        case measure => simp [intOf]; omega
      · rw [if_neg hz] at HTB
        obtain ⟨k2, k3, k4, k5, k6, klit⟩ := hfm.2.2.resolve_left (fun q => hz q.1)
        clear klit k2 hfm b3
        obtain ⟨s0, _⟩ := lspec9 k3
        obtain ⟨r0, _⟩ := dspec9 k5
        have CLS := rlsy9_is len k3 k4
        have CDS := rdsy9_is dist k5 k6
        obtain ⟨p, hp⟩ : ∃ p, p = 257 + lix9 len := ⟨_, rfl⟩
        obtain ⟨q, hq⟩ : ∃ q, q = dix9 dist := ⟨_, rfl⟩
        have hpi : 257 + (lix9 len : Int) = (p : Int) := by omega
        have hpb : p < 286 ∧ q < 30 := by omega
        rw [← hp] at HTB
        rw [← hq] at HTB CDS
        simp only [hpi] at CLS
        generalize lnS9.getD (lix9 len * 2 + 1) 0 = V1 at CLS
        generalize len - lnS9.getD (lix9 len * 2) 0 = V2 at CLS
        generalize dsS9.getD (q * 2 + 1) 0 = V3 at CDS
        generalize dist - dsS9.getD (q * 2) 0 = V4 at CDS
        have HCLS : Hid (∀ W, Calls Tryz.prog 10 #[.int .i64 len] W fun e w' => e = .returned (.tuple #[.int .i64 (p : Int), .int .i64 V1, .int .i64 V2, .int .i64 0]) ∧ Below W.heap.size W w') := CLS
        have HCDS : Hid (∀ W, Calls Tryz.prog 12 #[.int .i64 dist] W fun e w' => e = .returned (.tuple #[.int .i64 (q : Int), .int .i64 V3, .int .i64 V4, .int .i64 0]) ∧ Below W.heap.size W w') := CDS
        clear CLS CDS hp hq hpi s0 r0
        go_wp2_with fail
        generalize wr.alloc (.cells #[.int .u8 lit, .int .i64 len, .int .i64 dist] 98) = wa at *
        refine (HCLS.out wa).mono ?_
        rintro e w3 ⟨rfl, b3⟩
        have y3 : w3.heap[wr.heap.size]? = some (.cells #[.int .u8 lit, .int .i64 len, .int .i64 dist] 98 (0, 0)) := (b3.block wr.heap.size (Array.getElem?_eq_some_iff.1 y0).1).trans y0
        have c2 : w3.cell? ⟨wr.heap.size, 2, none⟩ = some (.int .i64 dist) := (cell_of_row w3 _ 2 _ _ _ y3).trans rfl
        have HB5 : Hid (Below w.heap.size w w3) := HB4.out.trans (b3.mono HB4.out.size)
        clear y0 y3 b3 x0 x1 x2 HCLS
        go_wp2_with fail
        refine (HCDS.out w3).mono ?_
        rintro e w4 ⟨rfl, b4⟩
        have HB6 : Hid (Below w.heap.size w w4) := HB5.out.trans (b4.mono HB5.out.size)
        obtain ⟨g2, o2, e2, cl⟩ := (HS.out _ HB6.out).2.1.at_ p (by have := hnl.out; omega)
        cases e2
        obtain ⟨g3, o3, e3, cd⟩ := (HS.out _ HB6.out).2.2.at_ q (by have := hnd.out; omega)
        cases e3
        have bl := HBL.out p
        have bd := HBD.out q
        obtain ⟨z1, hz1⟩ : ∃ zz, zz = ZL.getD p 0 := ⟨_, rfl⟩
        obtain ⟨z2, hz2⟩ : ∃ zz, zz = ZD.getD q 0 := ⟨_, rfl⟩
        rw [← hz1] at cl bl HTB
        rw [← hz2] at cd bd HTB
        have HNX : Hid (((l.take (i + 1)).map (tk9 ZL ZD)).sum = Q + (z1 + z2)) := by show _ = _; rw [HTK.out, HTB.out]
        have iw : IntKind.i64.wrap (z1 + z2) = z1 + z2 := IntWalk.i64_in _ (by omega)
        have iw2 : IntKind.i64.wrap (z + Q + (z1 + z2)) = z + Q + (z1 + z2) := IntWalk.i64_in _ (by omega)
        clear HTK HTB hz1 hz2 b4 c2 HCDS
        go_wp2_with fail
        go_region
        go_wp2_with fail
        go_roundw
        case rel => exact ⟨i + 1, by omega, by go_num, by rw [HNX.out]; congr 1; omega, HB6.out.drew⟩
        case measure => simp [intOf]; omega
    · obtain rfl : i = n := by omega
      have hta : l.take i = l := List.take_of_length_le (by rw [hn.out]; exact Nat.le_refl _)
      rw [hta] at hsm ⊢
      go_wp2_with fail
      go_ret
      refine ⟨?_, BR⟩
      rw [HT0.out, HZ.out]
      rfl
theorem pk9_inv {x : Nat} {X : List Int} (hc : Ct9 X) : ∀ i, (pk9 x X i = (0, 9223372036854775807) ∧ ∀ j, j < i → mst9 j < X.getD 0 0) ∨ (∃ j, j < i ∧ ¬ mst9 j < X.getD 0 0 ∧ pk9 x X i = ((j : Int), cos9 j x X) ∧ ∀ j', j' < i → ¬ mst9 j' < X.getD 0 0 → cos9 j x X ≤ cos9 j' x X)
  | 0 => .inl ⟨rfl, fun j h => by omega⟩
  | i + 1 => by
    have ih := pk9_inv (x := x) hc i
    have hb := cos9_bd (k := i) (x := x) hc
    rw [pk9]
    by_cases h : mst9 i < X.getD 0 0
    · rw [if_pos h]
      rcases ih with ⟨h1, h2⟩ | ⟨j, h1, h2, h3, h4⟩
      · exact .inl ⟨h1, fun j hj => by
          rcases Nat.lt_or_eq_of_le (Nat.le_of_lt_succ hj) with q | q
          · exact h2 j q
          · rw [q]; exact h⟩
      · exact .inr ⟨j, by omega, h2, h3, fun j' hj' hq => by
          rcases Nat.lt_or_eq_of_le (Nat.le_of_lt_succ hj') with q | q
          · exact h4 j' q hq
          · rw [q] at hq; exact absurd h hq⟩
    · rw [if_neg h]
      right
      rcases ih with ⟨h1, h2⟩ | ⟨j, h1, h2, h3, h4⟩
      · rw [h1, if_pos (by simp only; omega)]
        refine ⟨i, by omega, h, rfl, fun j' hj' hq => ?_⟩
        rcases Nat.lt_or_eq_of_le (Nat.le_of_lt_succ hj') with q | q
        · exact absurd (h2 j' q) hq
        · rw [q]; exact Int.le_refl _
      · rw [h3]
        by_cases hlt : cos9 i x X < cos9 j x X
        · rw [if_pos hlt]
          refine ⟨i, by omega, h, rfl, fun j' hj' hq => ?_⟩
          rcases Nat.lt_or_eq_of_le (Nat.le_of_lt_succ hj') with q | q
          · have := h4 j' q hq; omega
          · rw [q]; exact Int.le_refl _
        · rw [if_neg hlt]
          refine ⟨j, by omega, h2, rfl, fun j' hj' hq => ?_⟩
          rcases Nat.lt_or_eq_of_le (Nat.le_of_lt_succ hj') with q | q
          · exact h4 j' q hq
          · rw [q]; omega
/-- The kind that is picked may be, and costs no more than the others that may be. -/
theorem pk9_best {x : Nat} (hx : x < 8) {l : List Tok7} (hm : mer9 l = 0) (hf : ∀ t ∈ l, t.Fit) : ∃ j : Nat, j < 3 ∧ (pk9 x (tal9 l) 3).1 = (j : Int) ∧ ple9 (j : Int) (x : Int) l = 0 ∧ ∀ i : Nat, i < 3 → ple9 (i : Int) (x : Int) l = 0 → cos9 j x (tal9 l) ≤ cos9 i x (tal9 l) := by
  have hct := tal9_ct hm hf
  have hp : ∀ i : Nat, i < 3 → (ple9 (i : Int) (x : Int) l = 0 ↔ ¬ mst9 i < (tal9 l).getD 0 0) := fun i hi => by
    rw [ple9_in' hx hi hm]
    split
    · rename_i h; exact ⟨fun q => by omega, fun q => absurd h q⟩
    · rename_i h; exact ⟨fun _ => h, fun _ => rfl⟩
  rcases pk9_inv (x := x) hct 3 with ⟨_, h2⟩ | ⟨j, h1, h2, h3, h4⟩
  · exfalso
    have h := h2 1 (by omega)
    have hs := siz7_le l
    have hl := (mer9_zero hm).1
    rw [tal9_size hm hf] at h
    unfold mst9 at h
    rw [if_neg (by omega)] at h
    omega
  · exact ⟨j, h1, by rw [h3], (hp j h1).2 h2, fun i hi hq => h4 i hi ((hp i hi).1 hq)⟩
end Go.Proofs.YtcifalelnfeggaaGreatDoor

namespace Go.Proofs.YtcifalelnfeggaaGreatDoor
open Go.RowKit
set_option linter.unusedVariables false

/-! BlockCosts. -/
def vc9 (k x : Int) (l : List Tok7) : Int := if ple9 k x l = 0 then cos9 k.toNat x.toNat (tal9 l) else 0
def vp9 (x : Int) (l : List Tok7) : Int := if (x < 0 ∨ 8 ≤ x) ∨ mer9 l ≠ 0 then 0 else (pk9 x.toNat (tal9 l) 3).1
def ep9 (x : Int) (l : List Tok7) : Int := if x < 0 ∨ 8 ≤ x then 1 else mer9 l
theorem pcst9_all (l : List Tok7) (a : Option Addr) (n cap : Nat) (hn : Hid (l.length = n)) (k x : Int) (w : World) (hs : SegT w a l) (T : TabS w) (O : TabO w) :
    Calls Tryz.prog 25 #[.int .i64 k, .int .i64 x, .slice a n cap] w (RcQ9 w (vc9 k x l) (ple9 k x l)) := by
  unfold vc9
  by_cases h : ple9 k x l = 0
  · obtain ⟨h1, h2, h3, h4⟩ := ple9_zero h
    rw [if_pos h, h]
    have := pcst9_ok l a n cap hn k.toNat x.toNat (by omega) (by omega) w hs h3 h4 T O
    rw [Int.toNat_of_nonneg h1.1, Int.toNat_of_nonneg h2.1] at this
    exact this
  · rw [if_neg h]
    exact pcst9_no l a n cap hn k x w hs h
theorem rcst9_all (l : List Tok7) (a : Option Addr) (n cap : Nat) (hn : Hid (l.length = n)) (k x : Int) (w : World) (hs : SegT w a l) (hl : n ≤ 5864062014634) :
    Calls Tryz.prog 26 #[.int .i64 k, .int .i64 x, .slice a n cap] w (RcQ9 w (vc9 k x l) (ple9 k x l)) := by
  by_cases h : k < 0 ∨ 2 < k ∨ x < 0 ∨ 7 < x
  · have e : ple9 k x l = 1 := by unfold ple9; rw [if_pos h]
    unfold vc9
    rw [e, if_neg (by omega)]
    exact rcst9_arg k x h _ w
  · have := rcst9_in l a n cap hn k.toNat x.toNat (by omega) (by omega) w hs hl
    rw [Int.toNat_of_nonneg (by omega), Int.toNat_of_nonneg (by omega)] at this
    exact this
theorem ppck9_all (l : List Tok7) (a : Option Addr) (n cap : Nat) (hn : Hid (l.length = n)) (x : Int) (w : World) (hs : SegT w a l) (T : TabS w) (O : TabO w) :
    Calls Tryz.prog 27 #[.int .i64 x, .slice a n cap] w (RcQ9 w (vp9 x l) (ep9 x l)) := by
  unfold vp9 ep9
  by_cases h : (x < 0 ∨ 8 ≤ x) ∨ mer9 l ≠ 0
  · rw [if_pos h]
    exact ppck9_no l a n cap hn x w hs h
  · rw [if_neg h, if_neg (fun q => h (.inl q))]
    have hm : mer9 l = 0 := Decidable.of_not_not (fun q => h (.inr q))
    rw [hm]
    have := ppck9_ok l a n cap hn x.toNat (by omega) w hs hm T O
    rw [Int.toNat_of_nonneg (by omega)] at this
    exact this
theorem rpck9_all (l : List Tok7) (a : Option Addr) (n cap : Nat) (hn : Hid (l.length = n)) (x : Int) (w : World) (hs : SegT w a l) (hl : n ≤ 5864062014634) :
    Calls Tryz.prog 28 #[.int .i64 x, .slice a n cap] w (RcQ9 w (vp9 x l) (ep9 x l)) := by
  unfold vp9 ep9
  by_cases h : (x < 0 ∨ 8 ≤ x) ∨ mer9 l ≠ 0
  · rw [if_pos h]
    exact rpck9_no l a n cap hn x w hs hl h
  · rw [if_neg h, if_neg (fun q => h (.inl q))]
    have hm : mer9 l = 0 := Decidable.of_not_not (fun q => h (.inr q))
    rw [hm]
    have := rpck9_ok l a n cap hn x.toNat (by omega) w hs hm
    rw [Int.toNat_of_nonneg (by omega)] at this
    exact this
set_option maxRecDepth 100000 in
set_option maxHeartbeats 16000000 in
theorem blockCosts_walk (w : World) (tab : TabS w ∧ TabO w) (k : Int) (k1 : -9223372036854775808 ≤ k) (k2 : k ≤ 9223372036854775807) (x : Int) (x1 : -9223372036854775808 ≤ x) (x2 : x ≤ 9223372036854775807) (a : Option Addr) (l : List Tok7) (cap : Nat) (hs : SegT w a l) (hl : l.length ≤ 5864062014634) :
    Calls Tryz.prog 6 #[.int .i64 k, .int .i64 x, .slice a l.length cap] w fun e w' => e = .returned (.bool true) ∧ Below w.heap.size w w' := by
  obtain ⟨n, hnn⟩ : ∃ n, n = l.length := ⟨_, rfl⟩
  have HN : Hid (l.length = n) := hnn.symm
  rw [← hnn] at hl ⊢
  clear hnn
  have CF := face9 l a n cap HN w hs hl
  obtain ⟨V, hV⟩ : ∃ V, V = vc9 k x l := ⟨_, rfl⟩
  obtain ⟨E, hE⟩ : ∃ E, E = ple9 k x l := ⟨_, rfl⟩
  obtain ⟨P, hP⟩ : ∃ P, P = vp9 x l := ⟨_, rfl⟩
  obtain ⟨G, hG⟩ : ∃ G, G = ep9 x l := ⟨_, rfl⟩
  have HPC : Hid (∀ W g c, SegT W (some ⟨g, 0, none⟩) l → Below w.heap.size w W → Calls Tryz.prog 25 #[.int .i64 k, .int .i64 x, .slice (some ⟨g, 0, none⟩) n c] W (RcQ9 W V E)) := fun W g c h hb => by
    rw [hV, hE]
    exact pcst9_all l _ n c HN k x W h (tab.1.old hb) (tab.2.old hb)
  have HRC : Hid (∀ W, Below w.heap.size w W → Calls Tryz.prog 26 #[.int .i64 k, .int .i64 x, .slice a n cap] W (RcQ9 W V E)) := fun W hb => by
    rw [hV, hE]
    exact rcst9_all l _ n cap HN k x W (hs.old hb) hl
  have HPP : Hid (∀ W g c, SegT W (some ⟨g, 0, none⟩) l → Below w.heap.size w W → Calls Tryz.prog 27 #[.int .i64 x, .slice (some ⟨g, 0, none⟩) n c] W (RcQ9 W P G)) := fun W g c h hb => by
    rw [hP, hG]
    exact ppck9_all l _ n c HN x W h (tab.1.old hb) (tab.2.old hb)
  have HRP : Hid (∀ W, Below w.heap.size w W → Calls Tryz.prog 28 #[.int .i64 x, .slice a n cap] W (RcQ9 W P G)) := fun W hb => by
    rw [hP, hG]
    exact rpck9_all l _ n cap HN x W (hs.old hb) hl
  clear tab hV hE hP hG
  go_enter Tryz.func6, Tryz.ntmps6
  go_wp2_with fail
  refine CF.mono ?_
  rintro e w1 ⟨g, c, rfl, OF, b1⟩
  have hfl : (faceL l).length = n + 2 := by unfold faceL; rw [List.length_append, HN.out]; rfl
  have SF : SegT w1 (some ⟨g, 0, none⟩) (faceL l) := own_segT OF hfl (faceL_fit hs.fit)
  have SP : SegT w1 (some ⟨g, 0, none⟩) l := by
    have := SF.take n
    rwa [show (faceL l).take n = l by unfold faceL; rw [← HN.out]; simp] at this
  have hc : n + 2 ≤ c := (own_factsT OF).1
  have HSF : Hid (SegT w1 (some ⟨g, 0, none⟩) (faceL l)) := SF
  have HHS : Hid (SegT w a l) := hs
  have CO := HPC.out w1 g c SP b1
  have HSP : Hid (SegT w1 (some ⟨g, 0, none⟩) l) := SP
  have HB1 : Hid (Below w.heap.size w w1) := b1
  clear CF OF hfl SF SP hs b1
  go_wp2_with fail
  refine CO.mono ?_
  rintro e w2 ⟨rfl, b2⟩
  have HB2 : Hid (Below w1.heap.size w1 w2) := b2
  have C2 := HRC.out w2 (HB1.out.trans (b2.mono HB1.out.size))
  clear CO b2
  go_wp2_with fail
  refine C2.mono ?_
  rintro e w3 ⟨rfl, b3⟩
  have HB3 : Hid (Below w1.heap.size w1 w3) := HB2.out.trans (b3.mono HB2.out.size)
  have C3 := HPP.out w3 g c (HSP.out.old HB3.out) (HB1.out.trans (HB3.out.mono HB1.out.size))
  clear C2 b3 HB2
  go_wp2_with fail
  refine C3.mono ?_
  rintro e w4 ⟨rfl, b4⟩
  have HB4 : Hid (Below w1.heap.size w1 w4) := HB3.out.trans (b4.mono HB3.out.size)
  have C4 := HRP.out w4 (HB1.out.trans (HB4.out.mono HB1.out.size))
  clear C3 b4 HB3
  go_wp2_with fail
  refine C4.mono ?_
  rintro e w5 ⟨rfl, b5⟩
  have HB5 : Hid (Below w1.heap.size w1 w5) := HB4.out.trans (b5.mono HB4.out.size)
  have B5 : Below w.heap.size w w5 := HB1.out.trans (HB5.out.mono HB1.out.size)
  have CK := kept9 l (some ⟨g, 0, none⟩) a n c cap HN w5 (HSF.out.old HB5.out) (HHS.out.old B5) hc hl
  have HB6 : Hid (Below w.heap.size w w5) := B5
  clear C4 b5 HB4 B5
  go_wp2_with fail
  refine CK.mono ?_
  rintro e w6 ⟨rfl, b6⟩
  have HB7 : Hid (Below w.heap.size w w6) := HB6.out.trans (b6.mono HB6.out.size)
  clear CK b6 HB6
  go_wp2_with fail
  refine (plives9 w6).mono ?_
  rintro e w7 ⟨rfl, b7⟩
  have B8 : Below w.heap.size w w7 := HB7.out.trans (b7.mono HB7.out.size)
  clear b7
  go_wp2_with fail
  go_ret
  exact ⟨rfl, B8⟩
end Go.Proofs.YtcifalelnfeggaaGreatDoor

namespace Go.Proofs.YtcifalelnfeggaaGreatDoor
open Go.RowKit
set_option linter.unusedVariables false

/-! BlockTrue. -/
theorem blk9_le {k x : Nat} (hk : k < 3) {last : Bool} {data : List Int} {l : List Tok7} (hm : mer9 l = 0) (hf : ∀ t ∈ l, t.Fit) (hd : data.length = siz7 l) : (blk9 k x last data l).length ≤ 200000000 := by
  obtain ⟨e1, e2, ht⟩ := own_told9 hm hf
  have hl6 := (mer9_zero hm).1
  have hs := siz7_le l
  have f1 := flat_le9 pln_ok9.1 pln_ok9.2 l
  have f2 := flat_le9 e1 e2 l
  have p1 := putB_le pln_ok9.1 256
  have p2 := putB_le e1 256
  have hc := cst8_bd9 ht
  have hh := hd8_len ht
  unfold blk9
  obtain rfl | rfl | rfl : k = 0 ∨ k = 1 ∨ k = 2 := by omega
  · rw [if_pos rfl]
    simp only [List.length_append, List.length_cons, List.length_nil, List.length_replicate, bN_len, bB_len]
    omega
  · rw [if_neg (by omega), if_pos rfl]
    unfold bdy9
    simp only [List.length_append, List.length_cons, List.length_nil]
    omega
  · rw [if_neg (by omega), if_neg (by omega)]
    unfold bdy9
    simp only [List.length_append, List.length_cons, List.length_nil]
    omega
theorem cos9_sm9 {k x : Nat} (hk : k < 3) {l : List Tok7} (hm : mer9 l = 0) (hf : ∀ t ∈ l, t.Fit) : cos9 k x (tal9 l) ≤ 200000000 := by
  have h1 := blk9_len (x := x) hk (last := false) (data := List.replicate (siz7 l) (0 : Int)) hm hf (by rw [List.length_replicate, tal9_size hm hf])
  have h2 := blk9_le (x := x) hk (last := false) (data := List.replicate (siz7 l) (0 : Int)) hm hf List.length_replicate
  omega
/-- One kind: its cost, and what it is written as. -/
def TrK9 (w : World) (x nx : Nat) (l : List Tok7) (g n c da : Nat) : Prop :=
  ∀ (i : Nat), i < 3 → ple9 (i : Int) (x : Int) l = 0 → ∀ (W : World), Below w.heap.size w W → ∀ (W2 : World), W2 = W.alloc (.cells #[.slice none 0 0, .int .u64 0, .int .i64 0] 64) →
    Calls Tryz.prog 29 #[.pointer (some ⟨W.heap.size, 0, none⟩), .int .u64 0, .int .i64 (x : Int)] W2 fun e W3 => e = .returned (.int .i64 0) ∧ Below w.heap.size w W3 ∧
      Calls Tryz.prog 34 #[.pointer (some ⟨W.heap.size, 0, none⟩), .int .i64 (i : Int), .bool false, .slice (some ⟨da, 0, none⟩) nx nx, .slice (some ⟨g, 0, none⟩) n c] W3 fun e W4 => e = .returned (.int .i64 0) ∧ Below w.heap.size w W4 ∧
        Calls Tryz.prog 36 #[.pointer (some ⟨W.heap.size, 0, none⟩)] W4 fun e W5 => e = .returned (.int .i64 ((x : Int) + cos9 i x (tal9 l))) ∧ Below w.heap.size w W5
theorem trK9 (w : World) (x nx : Nat) (hx : x < 8) (l : List Tok7) (g n c da : Nat) (hn : Hid (l.length = n)) (hs : SegT w (some ⟨g, 0, none⟩) l) (hsd : Seg w (some ⟨da, 0, none⟩) (List.replicate nx (0 : Int))) (hm : mer9 l = 0) (hnx : siz7 l = nx) (T : TabS w) (O : TabO w) (h2 : 2 ≤ w.heap.size) (hda : da < w.heap.size) : TrK9 w x nx l g n c da := by
  intro i hi hp W hW W2 hW2
  obtain ⟨_, _, _, hsz⟩ := ple9_zero hp
  rw [Int.toNat_natCast] at hsz
  have hWs := hW.size
  have s2 : W2.heap.size = W.heap.size + 1 := by rw [hW2]; simp
  have B2 : Below w.heap.size w W2 := by rw [hW2]; exact hW.trans ((below_box8 W _).mono hWs)
  have WN : WrL W2 W.heap.size W.heap.size (.slice none 0 0) [] := WrL.new (by rw [hW2]; exact heap_alloc_new W _) (by omega)
  refine (put_ok W.heap.size W.heap.size (.slice none 0 0) [] 0 x W2 WN (by exact Nat.two_pow_pos x) (by omega) (by simp)).mono ?_
  rintro e W3 ⟨rfl, v3, W3w, K3, F3⟩
  rw [List.nil_append] at W3w
  have hw3 : ∀ k, WS W.heap.size (.slice none 0 0) k → w.heap.size ≤ k := fun k e => by
    rcases e with e | e
    · omega
    · simp [Value.ownBlock] at e
  have B3 : Below w.heap.size w W3 := B2.trans (K3.below hw3 B2.size)
  refine ⟨rfl, B3, ?_⟩
  have hbn : (bN 0 x).length = x := bN_len _ _
  have hfr : ∀ k, k < w.heap.size → ¬ WS W.heap.size v3 k := fun k hk => by
    rintro (e | e)
    · omega
    · have := (W3w.own_lt k e).1; omega
  have hlt := hs.lt
  have hsiz := siz7_le l
  have hl6 := (mer9_zero hm).1
  refine (pwr9_ok W.heap.size W.heap.size v3 (bN 0 x) false (List.replicate nx (0 : Int)) (some ⟨da, 0, none⟩) nx nx List.length_replicate l (some ⟨g, 0, none⟩) n c hn i hi W3 W3w (by rw [hbn]; omega) (hs.old B3) hm hnx hsz (hsd.old B3) (fun h => by cases h) (fun g' o e h => ?_) (fun g' o e h => ?_) (T.old B3) (O.old B3) (by omega) (by omega)).mono ?_
  · have e2 : g' = da := by cases e; rfl
    subst e2
    exact ⟨hfr g' hda, by have := B3.size; omega⟩
  · exact hfr g' (hlt g' o e (by have := hn.out; omega))
  · rintro e W4 ⟨rfl, v4, W4w, K4, F4⟩
    have B4 : Below w.heap.size w W4 := B3.trans (K4.below (fun k e => by
      rcases Nat.lt_or_ge k w.heap.size with q | q
      · exact absurd e (hfr k q)
      · exact q) B3.size)
    refine ⟨rfl, B4, ?_⟩
    rw [hbn, Nat.mod_eq_of_lt hx] at W4w
    have hb := blk9_len (x := x) hi (last := false) (data := List.replicate nx (0 : Int)) hm hs.fit (by rw [List.length_replicate, tal9_size hm hs.fit, hnx])
    have hcb := cos9_bd (k := i) (x := x) (tal9_ct hm hs.fit)
    have hlen : ((bN 0 x ++ blk9 i x false (List.replicate nx (0 : Int)) l).length : Int) = (x : Int) + cos9 i x (tal9 l) := by
      rw [List.length_append, hbn]
      push_cast
      omega
    have hle : (bN 0 x ++ blk9 i x false (List.replicate nx (0 : Int)) l).length ≤ 1125899906842624 := by
      have hc2 := cos9_sm9 (k := i) (x := x) hi hm hs.fit
      omega
    refine (len_any W.heap.size W.heap.size v4 _ W4 W4w hle).mono ?_
    rintro e W5 ⟨rfl, b5⟩
    rw [hlen]
    exact ⟨rfl, B4.trans (b5.mono B4.size)⟩
end Go.Proofs.YtcifalelnfeggaaGreatDoor

namespace Go.Proofs.YtcifalelnfeggaaGreatDoor
open Go.RowKit
set_option linter.unusedVariables false

/-! BlockWrites: what comes in, and how much it comes to. -/
structure SegBl (w : World) (a : Option Addr) (n : Nat) (K G : Nat → Int) (La : Nat → Bool) (Ta : Nat → Option Addr) (TL : Nat → List Tok7) (Tc : Nat → Nat) : Prop where
  at_ : ∀ i, i < n → ∃ b off, a = some ⟨b, off, none⟩ ∧ w.cell? ⟨b, off + i * 4, none⟩ = some (.int .i64 (K i)) ∧ w.cell? ⟨b, off + i * 4 + 1, none⟩ = some (.bool (La i)) ∧ w.cell? ⟨b, off + i * 4 + 2, none⟩ = some (.int .i64 (G i)) ∧ w.cell? ⟨b, off + i * 4 + 3, none⟩ = some (.slice (Ta i) (TL i).length (Tc i))
  seg : ∀ i, i < n → SegT w (Ta i) (TL i)
  bd : ∀ i, i < n → -9223372036854775808 ≤ K i ∧ K i ≤ 9223372036854775807 ∧ -9223372036854775808 ≤ G i ∧ G i ≤ 9223372036854775807
theorem SegBl.old {w w' : World} {a : Option Addr} {n : Nat} {K G : Nat → Int} {La : Nat → Bool} {Ta : Nat → Option Addr} {TL : Nat → List Tok7} {Tc : Nat → Nat} (h : SegBl w a n K G La Ta TL Tc) (hb : Below w.heap.size w w') : SegBl w' a n K G La Ta TL Tc := by
  refine ⟨fun i hi => ?_, fun i hi => (h.seg i hi).old hb, h.bd⟩
  obtain ⟨b, off, ha, h0, h1, h2, h3⟩ := h.at_ i hi
  have hlt := World.block_lt_of_cell? w _ h0
  exact ⟨b, off, ha, (hb.cell (p := ⟨b, off + i * 4, none⟩) hlt).trans h0, (hb.cell (p := ⟨b, off + i * 4 + 1, none⟩) hlt).trans h1, (hb.cell (p := ⟨b, off + i * 4 + 2, none⟩) hlt).trans h2, (hb.cell (p := ⟨b, off + i * 4 + 3, none⟩) hlt).trans h3⟩
/-- At most so many bits. -/
def tb9 (TL : Nat → List Tok7) : Nat → Nat
  | 0 => 7
  | i + 1 => tb9 TL i + (5100 + 2100 * (TL i).length)
theorem tb9_mono (TL : Nat → List Tok7) : ∀ m i, tb9 TL i ≤ tb9 TL (i + m)
  | 0, i => Nat.le_refl _
  | m + 1, i => by have := tb9_mono TL m i; rw [← Nat.add_assoc, tb9]; omega
theorem blk9_le2 {k x : Nat} (hk : k < 3) {last : Bool} {data : List Int} {l : List Tok7} (hm : mer9 l = 0) (hf : ∀ t ∈ l, t.Fit) (hd : data.length = siz7 l) : (blk9 k x last data l).length ≤ 5100 + 2100 * l.length := by
  obtain ⟨e1, e2, ht⟩ := own_told9 hm hf
  have hs := siz7_le l
  have f1 := flat_le9 pln_ok9.1 pln_ok9.2 l
  have f2 := flat_le9 e1 e2 l
  have p1 := putB_le pln_ok9.1 256
  have p2 := putB_le e1 256
  have hc := cst8_bd9 ht
  have hh := hd8_len ht
  unfold blk9
  obtain rfl | rfl | rfl : k = 0 ∨ k = 1 ∨ k = 2 := by omega
  · rw [if_pos rfl]
    simp only [List.length_append, List.length_cons, List.length_nil, List.length_replicate, bN_len, bB_len]
    omega
  · rw [if_neg (by omega), if_pos rfl]
    unfold bdy9
    simp only [List.length_append, List.length_cons, List.length_nil]
    omega
  · rw [if_neg (by omega), if_neg (by omega)]
    unfold bdy9
    simp only [List.length_append, List.length_cons, List.length_nil]
    omega
/-- What one block adds. -/
def add9 (k : Int) (x : Nat) (last : Bool) (D : List Int) (l : List Tok7) : List Bool := if pwe9 k x D.length l = 0 then blk9 k.toNat x last D l else []
theorem pwe9_zero {k : Int} {x nx : Nat} {l : List Tok7} (h : pwe9 k x nx l = 0) : ple9 k (x : Int) l = 0 ∧ siz7 l = nx := by
  unfold pwe9 at h
  split at h
  · rename_i h1; exact absurd h h1
  · rename_i h1
    split at h
    · omega
    · rename_i h2
      exact ⟨Decidable.of_not_not h1, Decidable.of_not_not h2⟩
theorem add9_le {k : Int} {x : Nat} {last : Bool} {D : List Int} {l : List Tok7} (hf : ∀ t ∈ l, t.Fit) : (add9 k x last D l).length ≤ 5100 + 2100 * l.length := by
  unfold add9
  split
  · rename_i h
    obtain ⟨h1, h2⟩ := pwe9_zero h
    obtain ⟨q1, q2, q3, _⟩ := ple9_zero h1
    exact blk9_le2 (by omega) q3 hf h2.symm
  · simp
/-- The bytes that are told with the tokens. -/
def dj9 (l : List Tok7) (j : Nat) : List Int := xpd7 32768 l ++ List.replicate j 122
theorem dj9_len (l : List Tok7) (j : Nat) : (dj9 l j).length = (xpd7 32768 l).length + j := by unfold dj9; rw [List.length_append, List.length_replicate]
theorem dj9_succ (l : List Tok7) (j : Nat) : dj9 l (j + 1) = dj9 l j ++ [122] := by unfold dj9; rw [List.replicate_succ', List.append_assoc]
theorem xpd7_bd9 (l : List Tok7) (hf : ∀ t ∈ l, t.Fit) : ∀ z ∈ xpd7 32768 l, 0 ≤ z ∧ z ≤ 255 := by
  unfold xpd7
  split
  · exact exp7_bd l [] (by simp) (fun t ht => (hf t ht).1)
  · simp
theorem xpd7_len9 (win : Int) (l : List Tok7) : (xpd7 win l).length ≤ 258 * l.length := by
  unfold xpd7
  split
  · rename_i h
    have hok : ok7 win l 0 := by
      unfold check7 at h
      split at h
      · simp at h
      · exact ok7_chk win l 0 0 h
    rw [exp7_len win l [] 0 hok]
    have := siz7_le l
    simpa using this
  · simp
theorem dj9_bd (l : List Tok7) (hf : ∀ t ∈ l, t.Fit) (j : Nat) : ∀ z ∈ dj9 l j, 0 ≤ z ∧ z ≤ 255 := by
  intro z hz
  unfold dj9 at hz
  rcases List.mem_append.1 hz with hz | hz
  · exact xpd7_bd9 l hf z hz
  · obtain ⟨_, rfl⟩ := List.mem_replicate.1 hz
    decide
theorem beq_self9 (xs : List Int) : (xs == xs) = true := by simp
theorem own_nil9 {w : World} {base n cap : Nat} {e : TypeId} {b : Option Addr} {xs : List Value} (h : w.ownsRow base e 1 (.slice b n cap) n xs) (hb : b = none) : cap = 0 := by
  rcases h.2 with ⟨h1, _⟩ | ⟨g, cp, cur, h1, _⟩
  · simp only [Value.slice.injEq] at h1; exact h1.2.2
  · simp only [Value.slice.injEq] at h1; rw [h1.1] at hb; cases hb
end Go.Proofs.YtcifalelnfeggaaGreatDoor
