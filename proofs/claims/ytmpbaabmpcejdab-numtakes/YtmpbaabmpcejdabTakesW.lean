import Derived.Test.YtmpbaabmpcejdabProg
import Derived.Test.YtmpbaabmpcejdabTakeR
import Derived.Deep.QuietTactic
import Derived.BigQuiet
namespace Go.Proofs.Ytmpbaabmpcejdab
open Go.RowKit
set_option linter.unusedVariables false

theorem waits_any (b : Nat) (v : Int) (c : Nat) (w : World) (h : TK w b v c) :
    Calls Try.prog 9 #[.pointer (some ⟨b, 0, none⟩)] w fun e w' => e = .returned (.int .i64 c) ∧ w' = w := by
  have h1 := two_cell1 h
  go_enter Try.func9, Try.ntmps9
  go_wp2
  go_ret
  exact ⟨rfl, rfl⟩
theorem waits_nil (w : World) : Calls Try.prog 9 #[.pointer none] w fun e w' => e = .returned (.int .i64 0) ∧ w' = w := by
  go_enter Try.func9, Try.ntmps9
  go_wp2
  go_ret
  exact ⟨rfl, rfl⟩
theorem take_nil (x : Int) (w : World) : Calls Try.prog 7 #[.pointer none, .int .u8 x] w fun e w' => e = .returned (.tuple #[.int .u64 0, .bool false, .int .i64 2]) ∧ w' = w := by
  go_enter Try.func7, Try.ntmps7
  go_wp2
  go_ret3
  exact ⟨rfl, rfl⟩
theorem reset_nil (w : World) : Calls Try.prog 6 #[.pointer none] w fun e w' => e = .returned (.tuple #[]) ∧ w' = w := by
  go_enter Try.func6, Try.ntmps6
  go_wp2
  exact bodyPost_ret (v := .tuple #[]) (by simp [results, Try.results6, go_sem]) rfl ⟨rfl, rfl⟩

/-- Steps of a script: a byte, and whether it is a Reset. -/
structure SegOp (w : World) (a : Option Addr) (n : Nat) (xb : Nat → Int) (xr : Nat → Bool) : Prop where
  at_ : ∀ i, i < n → ∃ b off, a = some ⟨b, off, none⟩ ∧ w.cell? ⟨b, off + i * 2, none⟩ = some (.int .u8 (xb i)) ∧ w.cell? ⟨b, off + i * 2 + 1, none⟩ = some (.bool (xr i))
  bd : ∀ i, i < n → 0 ≤ xb i ∧ xb i ≤ 255
theorem SegOp.old {w w' : World} {a : Option Addr} {n : Nat} {xb : Nat → Int} {xr : Nat → Bool} (h : SegOp w a n xb xr) (hb : Below w.heap.size w w') : SegOp w' a n xb xr := by
  refine ⟨fun i hi => ?_, h.bd⟩
  obtain ⟨b, off, ha, h1, h2⟩ := h.at_ i hi
  have hlt := World.block_lt_of_cell? w _ h1
  exact ⟨b, off, ha, (hb.cell (p := ⟨b, off + i * 2, none⟩) hlt).trans h1, (hb.cell (p := ⟨b, off + i * 2 + 1, none⟩) hlt).trans h2⟩

/-- What holds at the head of every round. -/
structure TS (w wr : World) (bs : List Int) : Prop where
  t : TK wr w.heap.size (valL bs) bs.length
  o : TK wr (w.heap.size + 1) 0 0
  x : RT wr (w.heap.size + 1 + 1) (w.heap.size + 3) bs
  c : bs.length ≤ 9
  s : w.heap.size + 3 ≤ wr.heap.size
  b : Below w.heap.size w wr
theorem tk_lt {w : World} {b : Nat} {v : Int} {c : Nat} (h : TK w b v c) : b < w.heap.size := (Array.getElem?_eq_some_iff.1 h).1
theorem tk_kept {w w' : World} {b : Nat} {v : Int} {c : Nat} {row : Option Nat} (h : TK w b v c) (hg : w.grownBy w' row) (hne : some b ≠ row) : TK w' b v c := by
  unfold TK; rw [hg.block b (tk_lt h) hne]; exact h
theorem TS.drewN {w wr : World} {bs : List Int} (h : TS w wr bs) (n : Nat) : TS w (wr.drewN n) bs := by
  obtain ⟨a, cap, h1, h2, h3, h4⟩ := h.x.ex
  exact ⟨h.t, h.o, ⟨a, cap, h1, h2.drewN n, h3, h4⟩, h.c, h.s, ⟨h.b.os, h.b.tape, h.b.output, h.b.size, h.b.block⟩⟩
theorem TS.alloc {w wr : World} {bs : List Int} (h : TS w wr bs) (o : Obj) : TS w (wr.alloc o) bs := by
  have hb : Below wr.heap.size wr (wr.alloc o) := (Below.refl _ _).alloc (Nat.le_refl _) _
  have hg := grown_of_below (row := none) hb
  exact ⟨tk_kept h.t hg (by simp), tk_kept h.o hg (by simp), h.x.old hb, h.c, Nat.le_trans h.s hb.size, h.b.trans (hb.mono (by have := h.s; omega))⟩
theorem TS.other {w wr w5 w6 : World} {bs : List Int} (h : TS w wr bs) {n : Nat} (h5 : (wr.drewN n).grownBy w5 (some (w.heap.size + 1))) (h6 : w5.grownBy w6 (some (w.heap.size + 1))) (ho : TK w6 (w.heap.size + 1) 0 0) : TS w w6 bs := by
  have h := h.drewN n
  have hg := grownBy_trans h5 h6
  exact ⟨tk_kept h.t hg (by simp), ho, h.x.kept hg (by omega) (by omega), h.c, Nat.le_trans h.s hg.size, h.b.trans (below_of_grown hg (by omega) (by have := h.s; omega))⟩
theorem TS.both {w wr w2 w3 : World} {bs bs' : List Int} (h : TS w wr bs) (h2 : wr.grownBy w2 (some w.heap.size)) (h3 : w2.grownBy w3 (some (w.heap.size + 1 + 1))) (ht : TK w2 w.heap.size (valL bs') bs'.length) (hx : RT w3 (w.heap.size + 1 + 1) (w.heap.size + 3) bs') (hc : bs'.length ≤ 9) : TS w w3 bs' := by
  have hs2 := h2.size
  have hs3 := h3.size
  have hs := h.s
  exact ⟨tk_kept ht h3 (by simp; omega), tk_kept (tk_kept h.o h2 (by simp)) h3 (by simp), hx, hc, by omega, h.b.trans ((below_of_grown h2 (Nat.le_refl _) (by omega)).trans (below_of_grown h3 (by omega) (by omega)))⟩

set_option maxRecDepth 100000 in
set_option maxHeartbeats 4000000 in
theorem numTakes_walk (w : World) (a : Option Addr) (n cap : Nat) (xb : Nat → Int) (xr : Nat → Bool) (hs : SegOp w a n xb xr) (hl : n ≤ 140737488355328) :
    Calls Try.prog 3 #[.slice a n cap] w fun e w' => e = .returned (.bool true) ∧ Below w.heap.size w w' := by
  go_enter Try.func3, Try.ntmps3
  go_wp2
  go_loopw [23] (fun i wr => ∃ (k : Nat) (bs : List Int), k ≤ n ∧ i = .int .i64 k ∧ TS w wr bs) (fun i _ => n - (intOf i).toNat)
  case atStart =>
    refine ⟨0, [], Nat.zero_le _, rfl, ?_⟩
    have e1 : (w.alloc (.cells #[.int .u64 0, .int .i64 0] 25)).heap.size = w.heap.size + 1 := by simp
    have e2 : ((w.alloc (.cells #[.int .u64 0, .int .i64 0] 25)).alloc (.cells #[.int .u64 0, .int .i64 0] 25)).heap.size = w.heap.size + 1 + 1 := by simp
    refine ⟨?_, ?_, RT.nil ?_, by simp, by simp, (((Below.refl _ _).alloc (Nat.le_refl _) _).alloc (by simp) _).alloc (by simp; omega) _⟩
    · unfold TK
      rw [Below.heap_alloc _ _ _ (by simp; omega), Below.heap_alloc _ _ _ (by simp)]
      exact heap_alloc_new w _
    · unfold TK
      rw [Below.heap_alloc _ _ _ (by simp)]
      have := heap_alloc_new (w.alloc (.cells #[.int .u64 0, .int .i64 0] 25)) (.cells #[.int .u64 0, .int .i64 0] 25)
      rw [e1] at this
      exact this
    · have := heap_alloc_new ((w.alloc (.cells #[.int .u64 0, .int .i64 0] 25)).alloc (.cells #[.int .u64 0, .int .i64 0] 25)) (.cells #[.slice none 0 0] 28)
      rw [e2] at this
      exact this
  case round =>
    obtain ⟨k, bs, hk, rfl, hts⟩ := hrel
    by_cases hlt : k < n
    · have hlti : (k : Int) < (n : Int) := by omega
      have hsr := hs.old hts.b
      obtain ⟨b, off, rfl, hc0, hc1⟩ := hsr.at_ k hlt
      have hx := hs.bd k hlt
      generalize xb k = x at *
      generalize xr k = r at *
      clear hsr
      cases r with
      | true =>
        have hta := hts.alloc (.cells #[.int .u8 x, .bool true] 30)
        have hst := hts.s
        go_wp2_with fail
        refine (reset_any _ _ _ _ hta.t).mono ?_
        rintro e w2 ⟨rfl, ht2, hg2⟩
        have hx2 := hta.x.kept hg2 (by omega) (by omega)
        obtain ⟨a2, c2, hh2, _, _, _⟩ := hx2.ex
        have hcx2 := cell_of_one hh2
        have hfx2 := free_of_one hh2
        have hts3 : TS w (w2.setCell ⟨w.heap.size + 1 + 1, 0, none⟩ (.slice none 0 0)) [] := hta.both hg2 (grownBy_set (World.grownBy.refl _ _) _) ht2 (RT.nil (one_setCell hh2)) (by simp)
        have hwt := hts3.t
        have hot := hts3.o
        obtain ⟨ax, cx, hxh, hxs, hxn, hxf⟩ := hts3.x.ex
        have hxc := cell_of_one hxh
        have hbl := hts3.b
        clear hxs hxf
        go_wp2
        go_quiet ((go_at_call 9; exact Calls.quiet_of_same (waits_any _ _ _ _ (by exact hwt))))
        by_cases h3 : (k : Int) % 3 = 0
        · have h3b : ((k : Int) % 3 == 0) = true := by simp [h3]
          clear h3
          go_wp2_with fail
          refine (take_more (w.heap.size + 1) 0 0 133 _ (by exact hot) (by omega) (by decide) (by omega) (by omega) (by omega) (by decide)).mono ?_
          rintro e w5 ⟨rfl, ht5, hg5⟩
          go_wp2_with fail
          refine (waits_any _ _ _ _ ht5).mono ?_
          rintro e w6 ⟨rfl, hw6⟩
          subst w6
          go_wp2_with fail
          refine (reset_any _ _ _ _ ht5).mono ?_
          rintro e w6 ⟨rfl, ht6, hg6⟩
          go_wp2
          go_roundw
          case rel => exact ⟨k + 1, [], by omega, by go_num, TS.other hts3 hg5 hg6 ht6⟩
          case measure => simp [intOf]; omega
        · have h3b : ((k : Int) % 3 == 0) = false := by simp [h3]
          clear h3
          go_wp2
          go_roundw
          case rel => exact ⟨k + 1, [], by omega, by go_num, TS.drewN hts3 _⟩
          case measure => simp [intOf]; omega
      | false =>
        have hta := hts.alloc (.cells #[.int .u8 x, .bool false] 30)
        have hst := hts.s
        have hcb := heap_alloc_new wr (.cells #[.int .u8 x, .bool false] 30)
        have hne : w.heap.size ≠ wr.heap.size := by omega
        by_cases he : tkErr bs.length x = 0
        · by_cases h7 : x < 128
          · go_wp2_with fail
            refine (take_ends _ _ _ x _ hta.t (valL_pos bs) (valL_lt bs) hx.1 (by omega) hts.c he).mono ?_
            rintro e w2 ⟨rfl, ht2, hg2⟩
            have hz2 := hg2.size
            have hx2 := hta.x.kept hg2 (by omega) (by omega)
            have hcb2 : w2.cell? ⟨wr.heap.size, 0, none⟩ = some (.int .u8 x) := hg2.cell (two_cell0 hcb) (by simp; omega)
            go_wp2_with fail
            refine (rtake_all _ _ bs x _ hx2 (by omega) (by simp at hz2; omega) hx.1 hx.2 hts.c).mono ?_
            rintro e w3 ⟨hg3, ⟨hb1, _⟩ | ⟨_, hb2, _⟩ | ⟨_, _, rfl, hx3⟩⟩
            · exact absurd he hb1
            · omega
            have hts3 : TS w w3 [] := hta.both hg2 hg3 ht2 hx3 (by simp)
            have hwt := hts3.t
            have hot := hts3.o
            obtain ⟨ax, cx, hxh, hxs, hxn, hxf⟩ := hts3.x.ex
            have hxc := cell_of_one hxh
            have hbl := hts3.b
            clear hxs hxf
            go_wp2
            go_quiet ((go_at_call 9; exact Calls.quiet_of_same (waits_any _ _ _ _ (by exact hwt))))
            by_cases h3 : (k : Int) % 3 = 0
            · have h3b : ((k : Int) % 3 == 0) = true := by simp [h3]
              clear h3
              go_wp2_with fail
              refine (take_more (w.heap.size + 1) 0 0 133 _ (by exact hot) (by omega) (by decide) (by omega) (by omega) (by omega) (by decide)).mono ?_
              rintro e w5 ⟨rfl, ht5, hg5⟩
              go_wp2_with fail
              refine (waits_any _ _ _ _ ht5).mono ?_
              rintro e w6 ⟨rfl, hw6⟩
              subst w6
              go_wp2_with fail
              refine (reset_any _ _ _ _ ht5).mono ?_
              rintro e w6 ⟨rfl, ht6, hg6⟩
              go_wp2
              go_roundw
              case rel => exact ⟨k + 1, [], by omega, by go_num, TS.other hts3 hg5 hg6 ht6⟩
              case measure => simp [intOf]; omega
            · have h3b : ((k : Int) % 3 == 0) = false := by simp [h3]
              clear h3
              go_wp2
              go_roundw
              case rel => exact ⟨k + 1, [], by omega, by go_num, TS.drewN hts3 _⟩
              case measure => simp [intOf]; omega
          · have h8 : 128 ≤ x := by omega
            have hc8 := tk_more_le hts.c he h8
            have HV : valL (bs ++ [x]) = tkVal (valL bs) bs.length x := by rw [valL_snoc]; rfl
            have HVH : Hid (valL (bs ++ [x]) = tkVal (valL bs) bs.length x) := HV
            clear HV
            go_wp2_with fail
            refine (take_more _ _ _ x _ hta.t (valL_pos bs) (valL_lt bs) h8 hx.2 hts.c he).mono ?_
            rintro e w2 ⟨rfl, ht2, hg2⟩
            have hz2 := hg2.size
            have hx2 := hta.x.kept hg2 (by omega) (by omega)
            have hcb2 : w2.cell? ⟨wr.heap.size, 0, none⟩ = some (.int .u8 x) := hg2.cell (two_cell0 hcb) (by simp; omega)
            go_wp2_with fail
            refine (rtake_all _ _ bs x _ hx2 (by omega) (by simp at hz2; omega) hx.1 hx.2 hts.c).mono ?_
            rintro e w3 ⟨hg3, ⟨hb1, _⟩ | ⟨_, _, rfl, hx3⟩ | ⟨_, hb2, _⟩⟩
            · exact absurd he hb1
            rotate_left
            · omega
            have hts3 : TS w w3 (bs ++ [x]) := hta.both hg2 hg3 (by rw [HVH.out, List.length_append]; exact ht2) hx3 (by simp; omega)
            have hwt := hts3.t
            have hot := hts3.o
            obtain ⟨ax, cx, hxh, hxs, hxn, hxf⟩ := hts3.x.ex
            have hxc := cell_of_one hxh
            have hbl := hts3.b
            clear hxs hxf
            go_wp2
            go_quiet ((go_at_call 9; exact Calls.quiet_of_same (waits_any _ _ _ _ (by exact hwt))))
            by_cases h3 : (k : Int) % 3 = 0
            · have h3b : ((k : Int) % 3 == 0) = true := by simp [h3]
              clear h3
              go_wp2_with fail
              refine (take_more (w.heap.size + 1) 0 0 133 _ (by exact hot) (by omega) (by decide) (by omega) (by omega) (by omega) (by decide)).mono ?_
              rintro e w5 ⟨rfl, ht5, hg5⟩
              go_wp2_with fail
              refine (waits_any _ _ _ _ ht5).mono ?_
              rintro e w6 ⟨rfl, hw6⟩
              subst w6
              go_wp2_with fail
              refine (reset_any _ _ _ _ ht5).mono ?_
              rintro e w6 ⟨rfl, ht6, hg6⟩
              go_wp2
              go_roundw
              case rel => exact ⟨k + 1, (bs ++ [x]), by omega, by go_num, TS.other hts3 hg5 hg6 ht6⟩
              case measure => simp [intOf]; omega
            · have h3b : ((k : Int) % 3 == 0) = false := by simp [h3]
              clear h3
              go_wp2
              go_roundw
              case rel => exact ⟨k + 1, (bs ++ [x]), by omega, by go_num, TS.drewN hts3 _⟩
              case measure => simp [intOf]; omega
        · have hne2 : (tkErr bs.length x != 0) = true := by simp [he]
          go_wp2_with fail
          refine (take_bad _ _ _ x _ hta.t hx.1 hx.2 hts.c he).mono ?_
          rintro e w2 ⟨rfl, ht2, hg2⟩
          have hz2 := hg2.size
          have hx2 := hta.x.kept hg2 (by omega) (by omega)
          have hcb2 : w2.cell? ⟨wr.heap.size, 0, none⟩ = some (.int .u8 x) := hg2.cell (two_cell0 hcb) (by simp; omega)
          go_wp2_with fail
          refine (rtake_all _ _ bs x _ hx2 (by omega) (by simp at hz2; omega) hx.1 hx.2 hts.c).mono ?_
          rintro e w3 ⟨hg3, ⟨_, rfl, hx3⟩ | ⟨hb1, _⟩ | ⟨hb1, _⟩⟩
          rotate_left
          · exact absurd hb1 he
          · exact absurd hb1 he
          have hts3 : TS w w3 [] := hta.both hg2 hg3 ht2 hx3 (by simp)
          have hwt := hts3.t
          have hot := hts3.o
          obtain ⟨ax, cx, hxh, hxs, hxn, hxf⟩ := hts3.x.ex
          have hxc := cell_of_one hxh
          have hbl := hts3.b
          clear hxs hxf
          go_wp2
          go_quiet ((go_at_call 9; exact Calls.quiet_of_same (waits_any _ _ _ _ (by exact hwt))))
          by_cases h3 : (k : Int) % 3 = 0
          · have h3b : ((k : Int) % 3 == 0) = true := by simp [h3]
            clear h3
            go_wp2_with fail
            refine (take_more (w.heap.size + 1) 0 0 133 _ (by exact hot) (by omega) (by decide) (by omega) (by omega) (by omega) (by decide)).mono ?_
            rintro e w5 ⟨rfl, ht5, hg5⟩
            go_wp2_with fail
            refine (waits_any _ _ _ _ ht5).mono ?_
            rintro e w6 ⟨rfl, hw6⟩
            subst w6
            go_wp2_with fail
            refine (reset_any _ _ _ _ ht5).mono ?_
            rintro e w6 ⟨rfl, ht6, hg6⟩
            go_wp2
            go_roundw
            case rel => exact ⟨k + 1, [], by omega, by go_num, TS.other hts3 hg5 hg6 ht6⟩
            case measure => simp [intOf]; omega
          · have h3b : ((k : Int) % 3 == 0) = false := by simp [h3]
            clear h3
            go_wp2
            go_roundw
            case rel => exact ⟨k + 1, [], by omega, by go_num, TS.drewN hts3 _⟩
            case measure => simp [intOf]; omega
    · obtain rfl : k = n := by omega
      have hot := hts.o
      clear hlt hk
      go_wp2_with fail
      refine (take_nil 5 _).mono ?_
      rintro e w2 ⟨rfl, hw2⟩
      subst w2
      go_wp2_with fail
      refine (reset_nil _).mono ?_
      rintro e w2 ⟨rfl, hw2⟩
      subst w2
      go_wp2_with fail
      refine (take_ends (w.heap.size + 1) 0 0 9 _ hot (by omega) (by decide) (by omega) (by omega) (by omega) (by decide)).mono ?_
      rintro e w2 ⟨rfl, ht2, hg2⟩
      have ev : tkVal 0 0 9 = 9 := by decide
      rw [ev]
      go_wp2_with fail
      refine (waits_nil _).mono ?_
      rintro e w3 ⟨rfl, hw3⟩
      subst w3
      go_wp2
      go_ret
      exact ⟨rfl, hts.b.trans (below_of_grown hg2 (by omega) (by have := hts.s; omega))⟩
end Go.Proofs.Ytmpbaabmpcejdab
