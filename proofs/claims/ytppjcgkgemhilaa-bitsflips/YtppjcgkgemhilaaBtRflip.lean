import Derived.Test.YtppjcgkgemhilaaBtRef
namespace Go.Proofs.Ytppjcgkgemhilaa
open Go.RowKit
set_option linter.unusedVariables false

set_option maxHeartbeats 1000000 in
theorem rflip_any (v : Nat) (n : Int) (w : World) (hv : v < 18446744073709551616) (hn0 : -9223372036854775808 ≤ n) (hn1 : n ≤ 9223372036854775807) :
    Calls Try.prog 13 #[.int .u64 (v : Int), .int .i64 n] w fun e w' => e = .returned (.int .u64 (flipN v n)) ∧ w' = w := by
  have hm : cnt n = (min n 64).toNat := rfl
  have hf : Hid (flipN v n = num (bN v (cnt n)).reverse) := rfl
  have hc := cnt_le n
  generalize flipN v n = f at *
  generalize cnt n = c at *
  rcases Int.lt_or_le 64 n with h | h
  · have hc64 : c = 64 := by omega
    clear hm
    go_enter Try.func13, Try.ntmps13
    go_wp2
    go_loopw [5, 6] (fun to ti wr => ∃ i o : Nat, i ≤ c ∧ to = .int .u64 (o : Int) ∧ ti = .int .i64 (i : Int) ∧ Hid (o = num ((bN v c).reverse.take i)) ∧ wr = w) (fun _ ti _ => c - (intOf ti).toNat)
    case atStart => exact ⟨0, 0, Nat.zero_le _, rfl, rfl, (by show _ = _; simp [num]), rfl⟩
    case round =>
      obtain ⟨i, o, hi, rfl, rfl, ho, rfl⟩ := hrel
      by_cases hlt : i < c
      · have ho2 : o < 2 ^ i := by rw [ho.out]; exact num_take_lt _ _
        have hg : (bN v c).reverse[i]? = some (v.testBit (63 - i)) := by rw [show 63 - i = c - 1 - i by omega]; exact rev_get v c i hlt
        have HN : Hid (num ((bN v c).reverse.take (i + 1)) = o + 2 ^ i * (v.testBit (63 - i)).toNat) := by
          show _ = _
          rw [List.getElem?_eq_some_iff] at hg
          obtain ⟨hx, hg⟩ := hg
          rw [num_take_succ _ _ hx, hg, ho.out]
        have hq := shr_nat v (63 - i)
        have hq2 := div_pow_lt (k := 63 - i) hv
        have ha := and_one' (v / 2 ^ (63 - i)) hq2
        have hb := bit_eq v (63 - i)
        have HP : Hid (IntKind.u64.wrap ((o : Int) + IntKind.u64.wrap (2 ^ i)) = ((o + 2 ^ i : Nat) : Int)) := add_bit ho2 (by omega)
        have ho3 : o < 9223372036854775808 := by
          have h2 := pow_le_63 (k := i) (by omega)
          omega
        clear ho2 hg
        generalize v / 2 ^ (63 - i) = q at *
        have hb2 : q % 2 < 2 := by omega
        generalize q % 2 = b at *
        have hlt2 : (i : Int) < 64 := by omega
        cases hx : v.testBit (63 - i)
        · rw [hx] at hb HN
          have ha0 : bits .and .u64 (q : Int) 1 = 0 := by rw [ha]; simp at hb; omega
          clear hx ha hb
          go_wp2
          go_roundw
          case rel => exact ⟨i + 1, o, by omega, rfl, by go_num, (by show _ = _; rw [HN.out]; simp), trivial⟩
          case measure => simp [intOf]; omega
        · rw [hx] at hb HN
          have ha0 : bits .and .u64 (q : Int) 1 = 1 := by rw [ha]; simpa using hb
          clear hx ha hb
          go_wp2
          go_roundw
          case rel => exact ⟨i + 1, o + 2 ^ i, by omega, by rw [← HP.out], by go_num, (by show _ = _; rw [HN.out]; simp), trivial⟩
          case measure => simp [intOf]; omega
      · have hic : i = c := by omega
        have hge : 64 ≤ (i : Int) := by omega
        have HIC : Hid (i = c) := hic
        clear hic hlt hi hc64
        go_wp2
        go_ret
        exact ⟨by rw [hf.out, ho.out, HIC.out, List.take_of_length_le (by rw [rev_len]; omega)]; rfl, rfl⟩
  rcases Int.lt_or_le n 0 with h0 | h0
  · have hcn : c = 0 := by omega
    rw [hcn] at hf
    clear hm hcn hc
    go_enter Try.func13, Try.ntmps13
    go_wp2
    go_loopw [5, 6] (fun to ti wr => to = .int .u64 0 ∧ ti = .int .i64 0 ∧ wr = w) (fun _ _ _ => 0)
    case atStart => exact ⟨rfl, rfl, rfl⟩
    case round =>
      obtain ⟨rfl, rfl, rfl⟩ := hrel
      go_wp2
      go_ret
      exact ⟨by rw [hf.out]; rfl, rfl⟩
  · obtain rfl : n = (c : Int) := by omega
    clear hm
    go_enter Try.func13, Try.ntmps13
    go_wp2
    go_loopw [5, 6] (fun to ti wr => ∃ i o : Nat, i ≤ c ∧ to = .int .u64 (o : Int) ∧ ti = .int .i64 (i : Int) ∧ Hid (o = num ((bN v c).reverse.take i)) ∧ wr = w) (fun _ ti _ => c - (intOf ti).toNat)
    case atStart => exact ⟨0, 0, Nat.zero_le _, rfl, rfl, (by show _ = _; simp [num]), rfl⟩
    case round =>
      obtain ⟨i, o, hi, rfl, rfl, ho, rfl⟩ := hrel
      by_cases hlt : i < c
      · have ho2 : o < 2 ^ i := by rw [ho.out]; exact num_take_lt _ _
        have hg : (bN v c).reverse[i]? = some (v.testBit (c - 1 - i)) := by exact rev_get v c i hlt
        have HN : Hid (num ((bN v c).reverse.take (i + 1)) = o + 2 ^ i * (v.testBit (c - 1 - i)).toNat) := by
          show _ = _
          rw [List.getElem?_eq_some_iff] at hg
          obtain ⟨hx, hg⟩ := hg
          rw [num_take_succ _ _ hx, hg, ho.out]
        have hq := shr_nat v (c - 1 - i)
        have hq2 := div_pow_lt (k := c - 1 - i) hv
        have ha := and_one' (v / 2 ^ (c - 1 - i)) hq2
        have hb := bit_eq v (c - 1 - i)
        have HP : Hid (IntKind.u64.wrap ((o : Int) + IntKind.u64.wrap (2 ^ i)) = ((o + 2 ^ i : Nat) : Int)) := add_bit ho2 (by omega)
        have ho3 : o < 9223372036854775808 := by
          have h2 := pow_le_63 (k := i) (by omega)
          omega
        clear ho2 hg
        generalize v / 2 ^ (c - 1 - i) = q at *
        have hb2 : q % 2 < 2 := by omega
        generalize q % 2 = b at *
        have hlt2 : (i : Int) < (c : Int) := by omega
        cases hx : v.testBit (c - 1 - i)
        · rw [hx] at hb HN
          have ha0 : bits .and .u64 (q : Int) 1 = 0 := by rw [ha]; simp at hb; omega
          clear hx ha hb
          go_wp2
          go_roundw
          case rel => exact ⟨i + 1, o, by omega, rfl, by go_num, (by show _ = _; rw [HN.out]; simp), trivial⟩
          case measure => simp [intOf]; omega
        · rw [hx] at hb HN
          have ha0 : bits .and .u64 (q : Int) 1 = 1 := by rw [ha]; simpa using hb
          clear hx ha hb
          go_wp2
          go_roundw
          case rel => exact ⟨i + 1, o + 2 ^ i, by omega, by rw [← HP.out], by go_num, (by show _ = _; rw [HN.out]; simp), trivial⟩
          case measure => simp [intOf]; omega
      · have hic : i = c := by omega
        have hge : (c : Int) ≤ (i : Int) := by omega
        have HIC : Hid (i = c) := hic
        clear hic hlt hi
        go_wp2
        go_ret
        exact ⟨by rw [hf.out, ho.out, HIC.out, List.take_of_length_le (by rw [rev_len]; omega)]; rfl, rfl⟩
end Go.Proofs.Ytppjcgkgemhilaa
