import Derived.Test.YtnofaodahcfldabDoorCrcFlip
import Derived.Test.YtnofaodahcfldabDoorPowW
import Derived.Laws.CopyOwn
namespace Go.Proofs.YtnofaodahcfldabDoor
open Go.RowKit
set_option linter.unusedVariables false
set_option linter.unusedSimpArgs false

/-- The text behind so many of the three bits. -/
def third (L : List Int) : Nat → List Int
  | 0 => L
  | 1 => flipL L 0
  | 2 => flipL (flipL L 0) 49961
  | _ => flipL (flipL (flipL L 0) 49961) 91639
theorem flip_0 (L : List Int) : (third L 0).set 0 (bits .xor .u8 ((third L 0).getD 0 0) 1) = third L 1 := rfl
theorem flip_1 (L : List Int) : (third L 1).set 6245 (bits .xor .u8 ((third L 1).getD 6245 0) 2) = third L 2 := rfl
theorem flip_2 (L : List Int) : (third L 2).set 11454 (bits .xor .u8 ((third L 2).getD 11454 0) 128) = third L 3 := rfl
theorem third_len (L : List Int) (k : Nat) : (third L k).length = L.length := by
  unfold third
  split <;> simp only [flipL_len]
theorem third_bd (L : List Int) (k : Nat) (h : ∀ z ∈ L, 0 ≤ z ∧ z ≤ 255) : ∀ z ∈ third L k, 0 ≤ z ∧ z ≤ 255 := by
  unfold third
  split
  · exact h
  · exact flipL_bd _ _ h
  · exact flipL_bd _ _ (flipL_bd _ _ h)
  · exact flipL_bd _ _ (flipL_bd _ _ (flipL_bd _ _ h))
theorem one_is : (1#32 : W32) = onN 31 oneW := by decide +kernel
theorem bitX_pow (N j n : Nat) (h : n = N - j + 31) : bitX N j = onN n oneW := by
  unfold bitX
  rw [h, onN_add, ← one_is]
theorem third_sum (L : List Int) (h : ∀ z ∈ L, 0 ≤ z ∧ z ≤ 255) (hl : L.length = 11455) : sumW (third L 3) = sumW L := by
  show sumW (flipL (flipL (flipL L 0) 49961) 91639) = _
  rw [flip_sum _ 91639 (flipL_bd _ _ (flipL_bd _ _ h)) (by rw [flipL_len, flipL_len, hl]; decide), flip_sum _ 49961 (flipL_bd _ _ h) (by rw [flipL_len, hl]; decide), flip_sum L 0 h (by rw [hl]; decide)]
  simp only [flipL_len, hl]
  rw [bitX_pow _ 0 91671 (by decide), bitX_pow _ 49961 41710 (by decide), bitX_pow _ 91639 32 (by decide), pow_91671, pow_41710, pow_32, BitVec.xor_assoc, BitVec.xor_assoc]
  have e : (3547473960#32 ^^^ (1053469448#32 ^^^ 3988292384#32) : W32) = 0#32 := by decide
  rw [e, BitVec.xor_zero]
theorem splice_zeros (n : Nat) (zs : List Int) : splice ((List.replicate n (0 : Int)).map (Value.int .u8)) 0 ((zs.take n).map (Value.int .u8)) = (zs.take n ++ List.replicate (n - zs.length) (0 : Int)).map (Value.int .u8) := by
  unfold splice
  rw [List.take_zero, List.nil_append, List.map_append, ← List.map_drop, List.drop_replicate]
  congr 3
  simp [Nat.min_def]
  split <;> omega
theorem zeros_len (n : Nat) (zs : List Int) : (zs.take n ++ List.replicate (n - zs.length) (0 : Int)).length = n := by
  simp
  omega
theorem took_len (n : Nat) (zs : List Int) : ((zs.take n).map (Value.int .u8)).length = Nat.min zs.length n := by
  rw [List.length_map, List.length_take, Nat.min_comm]
theorem min_le' (m n : Nat) : Nat.min m n ≤ n := Nat.min_le_right m n
/-- The three numbers. -/
def Three (w : World) (g : Nat) : Prop := w.cell? ⟨g, 0, none⟩ = some (.int .i64 91639) ∧ w.cell? ⟨g, 1, none⟩ = some (.int .i64 41678) ∧ w.cell? ⟨g, 2, none⟩ = some (.int .i64 0)
theorem info_size8 : (Tryd.prog.info? 5).map (·.size) = some 1 := by kernel_rfl

/-- 'q := append([]byte(nil), p...)', p's length by a number. -/
theorem wpList_copyN {P : Program} {ops : Array Oper} {rest : List Oper} {o : Oper} {a : Act} {Q : Exit → Act → World → Prop} (hgd : o.guard = none) (x : Operand) (t : TypeId)
    (ho : o.op = .call { callee := .builtin .append, args := #[.const (.slice none 0 0), x], argTypes := #[t, t] })
    (e : TypeId) (ht : P.underlying t = some (.slice e)) (hinfo : (P.info? e).map (fun i => (i.zero, i.size, i.bytes)) = some (some (.int .u8 0), 1, 1))
    {w : World} {ao : Option Addr} {zs : List Int} {cap n : Nat} (hseg : Seg w ao zs) (hn : zs.length = n) (hnil : ao = none → cap = 0) (hx : a.eval x = .slice ao n cap) (hpos : 0 < n) (hl : n ≤ 140737488351232)
    (h : ∀ g cap' w', w'.ownsRow w.heap.size e 1 (.slice (some ⟨g, 0, none⟩) n cap') n (zs.map (Value.int .u8)) → n ≤ cap' → w.heap.size ≤ g → Below w.heap.size w w' → wpList P ops Q rest (a.put o.dst (.slice (some ⟨g, 0, none⟩) n cap')) w') :
    wpList P ops Q (o :: rest) a w := by
  subst hn
  exact wpList_copy hgd x t ho e ht hinfo hseg hnil hx hpos hl h
theorem seg_of_heap {w : World} {g : Nat} {L : List Int} {t : TypeId} {C : List Value} (h : w.heap[g]? = some (.cells C.toArray t (0, 0))) (hC : C = L.map (Value.int .u8)) (hb : ∀ z ∈ L, 0 ≤ z ∧ z ≤ 255) : Seg w (some ⟨g, 0, none⟩) L := by
  refine ⟨fun i hi => ⟨g, 0, rfl, ?_⟩, by decide, getD_bd (by decide) hb⟩
  rw [Nat.zero_add]
  simp [World.cell?, h, hC, hi, List.getD]
theorem Three.grown {w w' : World} {g b : Nat} (h : Three w g) (hg : w.grownBy w' (some b)) (hne : g ≠ b) : Three w' g :=
  ⟨hg.cell h.1 (by simpa using hne), hg.cell h.2.1 (by simpa using hne), hg.cell h.2.2 (by simpa using hne)⟩

set_option maxHeartbeats 2000000 in
theorem crcThird_walk (w : World) (ht : Tab w) (a : Option Addr) (zs : List Int) (cap : Nat) (hs : Seg w a zs) (hc : zs.length ≤ cap) (hnil : a = none → cap = 0) (hl : zs.length ≤ 140737488351232) :
    Calls Tryd.prog 5 #[.slice a zs.length cap] w fun e w' => e = .returned (.bool true) ∧ Below w.heap.size w w' := by
  have hmk0 : (Instr.makeSlice 26 (.int .i64 11455) (.int .i64 11455)).run Tryd.prog w = .ok (.slice (some ⟨w.heap.size, 0, none⟩) 11455 11455) (w.alloc (.cells ((List.replicate 11455 (0 : Int)).map (Value.int .u8)).toArray 5)) := run_make_zeros 11455 (by decide) w
  obtain ⟨Z, hZ⟩ : ∃ Z, Z = (List.replicate 11455 (0 : Int)).map (Value.int .u8) := ⟨_, rfl⟩
  obtain ⟨X, hX⟩ : ∃ X, X = (zs.take 11455).map (Value.int .u8) := ⟨_, rfl⟩
  obtain ⟨L, hL⟩ : ∃ L, L = zs.take 11455 ++ List.replicate (11455 - zs.length) (0 : Int) := ⟨_, rfl⟩
  have hZX : splice Z 0 X = L.map (Value.int .u8) := by
    rw [hZ, hX, hL]
    exact splice_zeros 11455 zs
  have hLl : L.length = 11455 := by rw [hL]; exact zeros_len 11455 zs
  have hLb : ∀ z ∈ L, 0 ≤ z ∧ z ≤ 255 := by
    intro z hz
    rw [hL, List.mem_append] at hz
    rcases hz with hz | hz
    · exact hs.mem z (List.mem_of_mem_take hz)
    · exact zeros_bd _ z hz
  have hZl : Z.length = 11455 := by rw [hZ, List.length_map, List.length_replicate]
  have hXl : X.length = Nat.min zs.length 11455 := by rw [hX]; exact took_len 11455 zs
  have hX1 : ∀ v ∈ X, v.oneCell' = true := by
    intro v hv
    rw [hX, List.mem_map] at hv
    obtain ⟨z, _, rfl⟩ := hv
    rfl
  have hXs : ∀ w', Seg w' a zs → 0 < X.length → ∃ ad, a = some ad ∧ ∀ j v, X[j]? = some v → w'.cell? (ad.add j) = some v := by
    intro w' hs' hpos
    have h0 : 0 < zs.length := by
      rw [hXl] at hpos
      exact Nat.lt_of_lt_of_le hpos (Nat.min_le_left _ _)
    obtain ⟨b, off, rfl, _⟩ := hs'.at_ 0 h0
    refine ⟨_, rfl, ?_⟩
    rw [hX]
    exact seg_cells (hs'.take 11455)
  rw [← hZ] at hmk0
  have H1 : Hid (splice Z 0 X = L.map (Value.int .u8)) := hZX
  have H2 : Hid (L.length = 11455) := hLl
  have H3 : Hid (Z.length = 11455) := hZl
  have H4 : Hid (X.length = Nat.min zs.length 11455) := hXl
  have H5 : Hid (∀ w', Seg w' a zs → 0 < X.length → ∃ ad, a = some ad ∧ ∀ j v, X[j]? = some v → w'.cell? (ad.add j) = some v) := hXs
  clear hZX hLl hZl hXl hXs hZ hX hL
  go_enter Tryd.func5, Tryd.ntmps5
  go_wp2_with (first
    | (refine wpList_copy_splice rfl (.tmp 9) (.tmp 10) 26 26 rfl 5 Tryd.underlying26 info_size8 (some ⟨w.heap.size, 0, none⟩) a 11455 11455 zs.length cap rfl rfl w.heap.size 0 Z 5 (heap_alloc_new w _) X H4.out (fun hp => ⟨rfl, H5.out _ (hs.alloc _) hp⟩) (by rw [H3.out, H4.out, Nat.zero_add]; exact min_le' _ _) hX1 w.heap.size w ((Below.refl _ _).alloc (Nat.le_refl _) _) (Nat.le_refl _) ?_; intro w2 HG2 hB2; have sA := seg_of_heap HG2.out H1.out hLb)
    | (at_builtin; refine wpList_copyN rfl (.tmp 12) 26 rfl 5 Tryd.underlying26 info_u8z sA H2.out (by intro h; cases h) rfl (by omega) (by omega) ?_; intro g cap' w3 hown hc3 hg3 hb3))
  have hga : w.heap.size < w2.heap.size := sA.lt _ _ rfl (by rw [H2.out]; decide)
  have t2 : Tab w2 := ht.old hB2
  clear HG2 hmk0 hX1
  have h30 : Three (w3.alloc (.cells #[.int .i64 91639, .int .i64 41678, .int .i64 0] 3)) w3.heap.size := by
    refine ⟨?_, ?_, ?_⟩ <;> (rw [World.cell?_alloc_mark]; rfl)
  have hgl : g < w3.heap.size := (hown.lt g rfl).2
  have hgg : w3.heap.size ≠ g := by omega
  go_loopw [16] (fun ti wr => ∃ k : Nat, k ≤ 3 ∧ ti = .int .i64 k ∧ wr.ownsRow w2.heap.size 5 1 (.slice (some ⟨g, 0, none⟩) 11455 cap') 11455 ((third L k).map (Value.int .u8)) ∧ Three wr w3.heap.size ∧ Below w2.heap.size w2 wr) (fun ti _ => 3 - (intOf ti).toNat)
  case atStart => exact ⟨0, by decide, rfl, hown.alloc _, h30, hb3.alloc hb3.size _⟩
  case round =>
    obtain ⟨k, hk, rfl, hown2, h3, hbw⟩ := hrel
    have HT : Hid (Three wr w3.heap.size) := h3
    obtain ⟨c0, c1, c2⟩ := h3
    clear h30 hown hb3
    obtain rfl | rfl | rfl | rfl : k = 0 ∨ k = 1 ∨ k = 2 ∨ k = 3 := by omega
    · have hcell := hown2.cellAt 0 (by decide)
      have hfz := hown2.frozenAt 0
      have hst := hown2.stored 0 (.int .u8 (bits .xor .u8 ((third L 0).getD 0 0) 1))
      have egd : ((third L 0).map (Value.int .u8))[0]? = some (.int .u8 ((third L 0).getD 0 0)) := by
        have : 0 < (third L 0).length := by rw [third_len, H2.out]; decide
        simp [List.getD, this]
      rw [egd] at hcell
      rw [← List.map_set] at hst
      obtain ⟨hown3, hgr3⟩ := hst
      have HL : Hid ((third L 0).set 0 (bits .xor .u8 ((third L 0).getD 0 0) 1) = third L 1) := flip_0 L
      generalize (third L 0).getD 0 0 = z at *
      clear egd
      go_wp2
      go_roundw
      case rel => exact ⟨1, by decide, rfl, by rw [← HL.out]; exact hown3, HT.out.grown hgr3 hgg, hbw.trans (below_of_grown hgr3 hg3 hbw.size)⟩
      case measure => simp [intOf]
    · have hcell := hown2.cellAt 6245 (by decide)
      have hfz := hown2.frozenAt 6245
      have hst := hown2.stored 6245 (.int .u8 (bits .xor .u8 ((third L 1).getD 6245 0) 2))
      have egd : ((third L 1).map (Value.int .u8))[6245]? = some (.int .u8 ((third L 1).getD 6245 0)) := by
        have : 6245 < (third L 1).length := by rw [third_len, H2.out]; decide
        simp [List.getD, this]
      rw [egd] at hcell
      rw [← List.map_set] at hst
      obtain ⟨hown3, hgr3⟩ := hst
      have HL : Hid ((third L 1).set 6245 (bits .xor .u8 ((third L 1).getD 6245 0) 2) = third L 2) := flip_1 L
      generalize (third L 1).getD 6245 0 = z at *
      clear egd
      go_wp2
      go_roundw
      case rel => exact ⟨2, by decide, rfl, by rw [← HL.out]; exact hown3, HT.out.grown hgr3 hgg, hbw.trans (below_of_grown hgr3 hg3 hbw.size)⟩
      case measure => simp [intOf]
    · have hcell := hown2.cellAt 11454 (by decide)
      have hfz := hown2.frozenAt 11454
      have hst := hown2.stored 11454 (.int .u8 (bits .xor .u8 ((third L 2).getD 11454 0) 128))
      have egd : ((third L 2).map (Value.int .u8))[11454]? = some (.int .u8 ((third L 2).getD 11454 0)) := by
        have : 11454 < (third L 2).length := by rw [third_len, H2.out]; decide
        simp [List.getD, this]
      rw [egd] at hcell
      rw [← List.map_set] at hst
      obtain ⟨hown3, hgr3⟩ := hst
      have HL : Hid ((third L 2).set 11454 (bits .xor .u8 ((third L 2).getD 11454 0) 128) = third L 3) := flip_2 L
      generalize (third L 2).getD 11454 0 = z at *
      clear egd
      go_wp2
      go_roundw
      case rel => exact ⟨3, by decide, rfl, by rw [← HL.out]; exact hown3, HT.out.grown hgr3 hgg, hbw.trans (below_of_grown hgr3 hg3 hbw.size)⟩
      case measure => simp [intOf]
    · have HB : Hid (Below w2.heap.size w2 wr) := hbw
      have sAr : Seg wr (some ⟨w.heap.size, 0, none⟩) L := sA.old hbw
      have tr : Tab wr := t2.old hbw
      have bw : Below w.heap.size w wr := hB2.trans (hbw.mono (Nat.le_of_lt hga))
      obtain ⟨hj1, a3, c3, hv3, q3, hj2, hj3, hj4⟩ := own_seg hown2 (M := 255) (by decide) (third_bd L 3 hLb)
      obtain rfl : a3 = some ⟨g, 0, none⟩ := by simp at hv3; exact hv3.1.symm
      clear hj1 hj2 hj3 hj4 hv3 hown2
      have HS : Hid (sumW (third L 3) = sumW L) := third_sum L hLb H2.out
      go_wp2_with fail
      refine (awake_any _ tr).mono ?_
      rintro e w4 ⟨rfl, hb4⟩
      have t4 : Tab w4 := tr.old hb4
      have s4 : Seg w4 (some ⟨w.heap.size, 0, none⟩) L := sAr.old hb4
      have q4 : Seg w4 (some ⟨g, 0, none⟩) (third L 3) := q3.old hb4
      have b4 : Below w.heap.size w w4 := bw.trans (hb4.mono bw.size)
      clear hb4 tr sAr q3 bw
      go_wp2_with fail
      refine (sum_one w4 _ 11455 _ L 11455 1 _ t4 s4 rfl H2.out.symm (by rw [H2.out]; decide)).mono ?_
      rintro e w5 ⟨rfl, hw5⟩
      have t5 : Tab w5 := by rw [hw5]; exact t4.alloc _
      have q5 : Seg w5 (some ⟨g, 0, none⟩) (third L 3) := by rw [hw5]; exact q4.alloc _
      have b5 : Below w.heap.size w w5 := by rw [hw5]; exact balloc b4 _
      clear hw5 t4 s4 q4 b4
      go_wp2_with fail
      refine (sum_one w5 _ 11455 _ (third L 3) cap' 1 _ t5 q5 rfl (by rw [third_len, H2.out]) (by rw [third_len, H2.out]; decide)).mono ?_
      rintro e w6 ⟨rfl, hw6⟩
      have b6 : Below w.heap.size w w6 := by rw [hw6]; exact balloc b5 _
      clear hw6 t5 q5 b5
      rw [HS.out]
      go_wp2
      go_ret
      exact ⟨by simp, b6⟩
end Go.Proofs.YtnofaodahcfldabDoor
