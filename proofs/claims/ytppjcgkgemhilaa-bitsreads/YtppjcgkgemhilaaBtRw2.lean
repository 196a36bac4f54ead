import Derived.Test.YtppjcgkgemhilaaBtRw
namespace Go.Proofs.Ytppjcgkgemhilaa
open Go.RowKit
set_option linter.unusedVariables false

theorem rput_no (b : Nat) (x : Nat) (n : Int) (w : World) (hx : x < 18446744073709551616) (hn0 : -9223372036854775808 ≤ n) (hn1 : n ≤ 9223372036854775807) (he : errW x n ≠ 0) :
    Calls Try.prog 26 #[.pointer (some ⟨b, 0, none⟩), .int .u64 (x : Int), .int .i64 n] w fun e w' => e = .returned (.int .i64 (errW x n)) ∧ w' = w := by
  rcases errW_cases x n with ⟨h1, h2⟩ | ⟨k, rfl, hk, ⟨h1, h2⟩ | ⟨h1, h2⟩⟩
  · rw [h1]
    rcases h2 with h2 | h2
    · go_enter Try.func26, Try.ntmps26
      go_wp2
      go_ret
      exact ⟨rfl, rfl⟩
    · have h0 : 0 ≤ n := by omega
      go_enter Try.func26, Try.ntmps26
      go_wp2
      go_ret
      exact ⟨rfl, rfl⟩
  · exact absurd h1 he
  · rw [h1]
    have hs := shr_nat x k
    have hp := shr_ne h2
    generalize x / 2 ^ k = q at *
    clear h2 he h1
    have hq : 0 < (q : Int) := by omega
    go_enter Try.func26, Try.ntmps26
    go_wp2
    go_ret
    exact ⟨rfl, rfl⟩
theorem rturned_no (b : Nat) (x : Nat) (n : Int) (w : World) (hx : x < 18446744073709551616) (hn0 : -9223372036854775808 ≤ n) (hn1 : n ≤ 9223372036854775807) (he : errW x n ≠ 0) :
    Calls Try.prog 27 #[.pointer (some ⟨b, 0, none⟩), .int .u64 (x : Int), .int .i64 n] w fun e w' => e = .returned (.int .i64 (errW x n)) ∧ w' = w := by
  rcases errW_cases x n with ⟨h1, h2⟩ | ⟨k, rfl, hk, ⟨h1, h2⟩ | ⟨h1, h2⟩⟩
  · rw [h1]
    rcases h2 with h2 | h2
    · go_enter Try.func27, Try.ntmps27
      go_wp2
      go_ret
      exact ⟨rfl, rfl⟩
    · have h0 : 0 ≤ n := by omega
      go_enter Try.func27, Try.ntmps27
      go_wp2
      go_ret
      exact ⟨rfl, rfl⟩
  · exact absurd h1 he
  · rw [h1]
    have hs := shr_nat x k
    have hp := shr_ne h2
    generalize x / 2 ^ k = q at *
    clear h2 he h1
    have hq : 0 < (q : Int) := by omega
    go_enter Try.func27, Try.ntmps27
    go_wp2
    go_ret
    exact ⟨rfl, rfl⟩

theorem rev_take (x k i : Nat) (h : i < k) : (bN x k).reverse.take (k - i) = (bN x k).reverse.take (k - (i + 1)) ++ [x.testBit i] := by
  have hl : (bN x k).reverse.length = k := rev_len x k
  have hg := rev_get x k (k - (i + 1)) (by omega)
  rw [show k - 1 - (k - (i + 1)) = i by omega] at hg
  rw [List.getElem?_eq_some_iff] at hg
  obtain ⟨hx, hg⟩ := hg
  rw [show k - i = k - (i + 1) + 1 by omega, List.take_succ_eq_append_getElem hx, hg]

set_option maxHeartbeats 2000000 in
theorem rturned_ok (b B : Nat) (v : Value) (L : List Bool) (x k : Nat) (w : World) (h : RwL w b B v L) (hx : x < 2 ^ k) (hk : k ≤ 56) (hl : L.length ≤ 140737488355264) :
    Calls Try.prog 27 #[.pointer (some ⟨b, 0, none⟩), .int .u64 (x : Int), .int .i64 (k : Int)] w fun e w' => e = .returned (.int .i64 0) ∧ ∃ v', RwL w' b B v' (L ++ (bN x k).reverse) ∧ Kp (WS b v) w w' ∧ Fresh w v v' := by
  obtain ⟨i0, hi, hz0, hz1, hz2⟩ := info_parts info_b1
  obtain ⟨a, cap, rfl, h⟩ := h
  have hs0 : (x : Int) / 2 ^ k = 0 := by rw [shr_nat, Nat.div_eq_of_lt hx]; rfl
  have hx2 : x < 18446744073709551616 := by
    have := pow_le_63 (k := k) (by omega)
    omega
  clear hx
  go_enter Try.func27, Try.ntmps27
  go_wp2
  clear hs0
  go_loopw [7] (fun ti wr => ∃ (m : Nat) (a1 : Option Addr) (cap1 : Nat), m ≤ k ∧ ti = .int .i64 ((m : Int) - 1) ∧ RB wr b B 32 [] a1 cap1 (L ++ (bN x k).reverse.take (k - m)) ∧ Kp (WS b (.slice a L.length cap)) w wr ∧ Fresh w (.slice a L.length cap) (.slice a1 (L ++ (bN x k).reverse.take (k - m)).length cap1)) (fun ti _ => (intOf ti + 1).toNat)
  case atStart => exact ⟨k, a, cap, Nat.le_refl _, rfl, by simpa using h, Kp.refl _ _, by simpa using Fresh.refl w (.slice a L.length cap)⟩
  case round =>
    obtain ⟨m, a1, cap1, hik, rfl, hr, hkr, hfr⟩ := hrel
    have hlen : (L ++ (bN x k).reverse.take (k - m)).length = L.length + (k - m) := by rw [List.length_append, List.length_take, rev_len]; omega
    by_cases hlt : 0 < m
    · obtain ⟨i, rfl⟩ : ∃ i, m = i + 1 := ⟨m - 1, by omega⟩
      have hbs := rev_take x k i (by omega)
      have HB : Hid (L ++ (bN x k).reverse.take (k - i) = (L ++ (bN x k).reverse.take (k - (i + 1))) ++ [x.testBit i]) := by show _ = _; rw [hbs, List.append_assoc]
      have hlt1 : (L ++ (bN x k).reverse.take (k - (i + 1))).length + 1 ≤ 140737488355328 := by omega
      have him : (((i + 1 : Nat) : Int) - 1) = (i : Int) := by omega
      rw [him]
      clear hbs hlen him
      generalize L ++ (bN x k).reverse.take (k - (i + 1)) = M at *
      have hq := shr_nat x i
      have hq2 := div_pow_lt (k := i) hx2
      have ha := and_one' (x / 2 ^ i) hq2
      have hb := bit_eq x i
      generalize x / 2 ^ i = q at *
      have hb2 : q % 2 < 2 := by omega
      generalize q % 2 = bb at *
      generalize x.testBit i = y at *
      have hi63 : i ≤ 63 := by omega
      have hd0 := hr.cell0
      have hdf0 := hr.free 0
      have hltr := hr.b_lt
      have hfa : ∀ o, (wr.alloc o).frozen? ⟨b, 0, none⟩ = false := fun o => (((Below.refl wr.heap.size wr).alloc (Nat.le_refl _) o).frozen (p := ⟨b, 0, none⟩) hltr).trans hdf0
      have hca : ∀ o, (wr.alloc o).cell? ⟨b, 0, none⟩ = some (.slice a1 M.length cap1) := fun o => (((Below.refl wr.heap.size wr).alloc (Nat.le_refl _) o).cell (p := ⟨b, 0, none⟩) hltr).trans hd0
      have hown1 := hr.own
      have hbase := hr.bB
      have hne := hr.ne
      go_wp2
      go_region_law
        (refine step_append_lies _ (by rfl) _ _ _ (by rfl) B 4 i0 _ 1 1 Try.underlying30 hi hz0 hz1 hz2 rfl (by omega) (.slice a1 M.length cap1) M.length (M.map Value.bool) (by rfl) ((hown1.alloc _).drew)
            ⟨wr.heap.size, 0, none⟩ 1 1 [.bool y] (by rfl) (by rfl) (World.news_of_block (cs := #[.bool y]) (t := 4) (fr := (0, 0)) (heap_alloc_new wr _)) (by simp [Value.oneCell'])
            (by omega) (by unfold maxLen; omega) (by omega) (by simp; omega) (wr.heap.size + 1) (by simp) ?_; intro gg cap2 w2 hown2 hgrow hat hlt2
         have hx0 := (hgrow.cell_far ⟨b, 0, none⟩ (by simp; omega) (Ne.symm hne)).trans (hca _)
         have hxf := (hgrow.frozen_far ⟨b, 0, none⟩ (by simp; omega) (Ne.symm hne)).trans (hfa _))
      all_goals
        have hpu := hr.pushed hown2 hgrow hat
        generalize w2.setCell ⟨b, 0, none⟩ (.slice (some ⟨gg, 0, none⟩) (M.length + 1) cap2) = w3 at *
        clear hx0 hxf hgrow hown2 hd0 hdf0 hfa hca hown1 hr
        go_wp2
        go_roundw
        case rel => exact ⟨i, _, cap2, by omega, by go_num, by rw [HB.out]; exact hpu.1, hkr.trans hpu.2.1 (fun j hj e => ws_back hfr hj e), by rw [HB.out]; exact hfr.trans hpu.2.2 hkr.size⟩
        case measure => simp [intOf]
    · have hm0 : m = 0 := by omega
      subst hm0
      obtain ⟨M, hM⟩ : ∃ M, M = L ++ (bN x k).reverse.take (k - 0) := ⟨_, rfl⟩
      have hMk : M = L ++ (bN x k).reverse := by rw [hM, List.take_of_length_le (by rw [rev_len]; omega)]
      have HM : Hid (M = L ++ (bN x k).reverse) := hMk
      rw [← hM] at hr hfr
      clear hM hMk hlt hlen
      go_wp2
      go_ret
      rw [← HM.out]
      exact ⟨rfl, _, ⟨a1, cap1, rfl, hr⟩, hkr, hfr⟩

theorem rput_any (b B : Nat) (v : Value) (L : List Bool) (x : Nat) (n : Int) (w : World) (h : RwL w b B v L) (hx : x < 18446744073709551616) (hn0 : -9223372036854775808 ≤ n) (hn1 : n ≤ 9223372036854775807) (hl : L.length ≤ 140737488355264) :
    Calls Try.prog 26 #[.pointer (some ⟨b, 0, none⟩), .int .u64 (x : Int), .int .i64 n] w fun e w' => e = .returned (.int .i64 (errW x n)) ∧ ∃ v', RwL w' b B v' (putL L x n) ∧ Kp (WS b v) w w' ∧ Fresh w v v' := by
  by_cases he : errW x n = 0
  · rcases errW_cases x n with ⟨h1, h2⟩ | ⟨k, rfl, hk, ⟨h1, h2⟩ | ⟨h1, h2⟩⟩
    · omega
    · refine (rput_ok b B v L x k w h h2 hk hl).mono ?_
      rintro e w' ⟨rfl, v', h1', h2', h3'⟩
      unfold putL
      rw [he, if_pos rfl]
      exact ⟨rfl, v', by simpa using h1', h2', h3'⟩
    · omega
  · refine (rput_no b x n w hx hn0 hn1 he).mono ?_
    rintro e w' ⟨rfl, rfl⟩
    unfold putL
    rw [if_neg he]
    exact ⟨rfl, v, h, Kp.refl _ _, fun k e => .inl e⟩
theorem rturned_any (b B : Nat) (v : Value) (L : List Bool) (x : Nat) (n : Int) (w : World) (h : RwL w b B v L) (hx : x < 18446744073709551616) (hn0 : -9223372036854775808 ≤ n) (hn1 : n ≤ 9223372036854775807) (hl : L.length ≤ 140737488355264) :
    Calls Try.prog 27 #[.pointer (some ⟨b, 0, none⟩), .int .u64 (x : Int), .int .i64 n] w fun e w' => e = .returned (.int .i64 (errW x n)) ∧ ∃ v', RwL w' b B v' (turnL L x n) ∧ Kp (WS b v) w w' ∧ Fresh w v v' := by
  by_cases he : errW x n = 0
  · rcases errW_cases x n with ⟨h1, h2⟩ | ⟨k, rfl, hk, ⟨h1, h2⟩ | ⟨h1, h2⟩⟩
    · omega
    · refine (rturned_ok b B v L x k w h h2 hk hl).mono ?_
      rintro e w' ⟨rfl, v', h1', h2', h3'⟩
      unfold turnL
      rw [he, if_pos rfl]
      exact ⟨rfl, v', by simpa using h1', h2', h3'⟩
    · omega
  · refine (rturned_no b x n w hx hn0 hn1 he).mono ?_
    rintro e w' ⟨rfl, rfl⟩
    unfold turnL
    rw [if_neg he]
    exact ⟨rfl, v, h, Kp.refl _ _, fun k e => .inl e⟩
end Go.Proofs.Ytppjcgkgemhilaa
