import Derived.Test.YtpodakndckflgaaGreatDoorProg
import Derived.WalkKit
import Derived.Lib.BitFns
import Derived.Laws.BitsAllLaws
import Derived.Test.YtpodakndckflgaaGreatDoorPa
import Derived.WalkSpells
import Derived.WalkLawsBesides
namespace Go.Proofs.YtpodakndckflgaaGreatDoor
open Go.RowKit
set_option linter.unusedVariables false
theorem tab_size : (Lib.len8tab.size : Int) = 256 := by rw [Lib.len8tab_size]; rfl
/-- One way's end: the table's number behind so many bits. -/
theorem len_end (k a : Nat) (y : Int) (h : y.toNat < Lib.len8tab.size) (h0 : 0 ≤ y) (h1 : y ≤ 255) (hk : k ≤ 56) (ha : a = k + Lib.bitLen y.toNat) : wrap64 ((k : Int) + wrap64 ((Lib.len8tab[y.toNat]'h).toNat : Int)) = (a : Int) := by
  have e : ((Lib.len8tab[y.toNat]'h).toNat : Int) = Lib.len8 y := by
    unfold Lib.len8
    rw [getElem?_pos Lib.len8tab y.toNat h]
    rfl
  have l := Lib.bitLen_le8' y h0 h1
  rw [e, Lib.len8_of y h0 h1, ha]
  unfold wrap64
  omega
theorem len_end0 (a : Nat) (y : Int) (h : y.toNat < Lib.len8tab.size) (h0 : 0 ≤ y) (h1 : y ≤ 255) (ha : a = Lib.bitLen y.toNat) : wrap64 (wrap64 ((Lib.len8tab[y.toNat]'h).toNat : Int)) = (a : Int) := by
  have := len_end 0 a y h h0 h1 (by omega) (by omega)
  simpa using this

theorem shift_to (x : Int) (d k : Nat) (h0 : 0 ≤ x) (h : Lib.bitLen x.toNat = k + Lib.bitLen (x.toNat / d)) (y : Int) (hy : y.toNat = x.toNat / d) : Lib.bitLen x.toNat = k + Lib.bitLen y.toNat := by rw [hy]; exact h

set_option maxHeartbeats 1000000 in
set_option maxRecDepth 100000 in
theorem len64_any (x : Int) (w : World) (h0 : 0 ≤ x) (h1 : x ≤ 18446744073709551615) :
    Calls Tryz.prog 91 #[.int .u64 x] w fun e w' => e = .returned (.int .i64 (Lib.bitLen x.toNat)) ∧ w' = w := by
  have hsz := tab_size
  go_enter Tryz.func91, Tryz.ntmps91
  go_wp2
  all_goals (go_ret; refine ⟨congrArg Ending.returned (congrArg (Value.int IntKind.i64) ?_), rfl⟩)
  · exact len_end 56 _ _ _ (by omega) (by omega) (by omega) (shift_to x 72057594037927936 56 h0 (Lib.bitLen_shift56 _ (by omega) (by omega)) _ (by omega))
  · exact len_end 48 _ _ _ (by omega) (by omega) (by omega) (shift_to x 281474976710656 48 h0 (Lib.bitLen_shift48 _ (by omega) (by omega)) _ (by omega))
  · exact len_end 40 _ _ _ (by omega) (by omega) (by omega) (shift_to x 1099511627776 40 h0 (Lib.bitLen_shift40 _ (by omega) (by omega)) _ (by omega))
  · exact len_end 32 _ _ _ (by omega) (by omega) (by omega) (shift_to x 4294967296 32 h0 (Lib.bitLen_shift32 _ (by omega) (by omega)) _ (by omega))
  · exact len_end 24 _ _ _ (by omega) (by omega) (by omega) (shift_to x 16777216 24 h0 (Lib.bitLen_shift24 _ (by omega) (by omega)) _ (by omega))
  · exact len_end 16 _ _ _ (by omega) (by omega) (by omega) (shift_to x 65536 16 h0 (Lib.bitLen_shift16 _ (by omega) (by omega)) _ (by omega))
  · exact len_end 8 _ _ _ (by omega) (by omega) (by omega) (shift_to x 256 8 h0 (Lib.bitLen_shift8 _ (by omega) (by omega)) _ (by omega))
  · exact len_end0 _ _ _ (by omega) (by omega) rfl
end Go.Proofs.YtpodakndckflgaaGreatDoor

namespace Go.Proofs.YtpodakndckflgaaGreatDoor
open Go.RowKit
set_option linter.unusedVariables false
theorem pow128 (c : Nat) : (128 : Int) ^ c = 2 ^ (7 * c) := by
  rw [Int.pow_mul]; rfl
theorem pow128_pos (c : Nat) : (0 : Int) < 128 ^ c := Int.pow_pos (by decide)
theorem pow128_mono {a b : Nat} (h : a ≤ b) : (128 : Int) ^ a ≤ 128 ^ b := by
  have := Nat.pow_le_pow_right (n := 128) (by decide) h
  have e : ∀ k : Nat, (128 : Int) ^ k = ((128 ^ k : Nat) : Int) := fun k => by simp
  rw [e, e]; omega
theorem pow128_8 : (128 : Int) ^ 8 = 72057594037927936 := by decide
theorem pow128_9 : (128 : Int) ^ 9 = 9223372036854775808 := by decide

theorem and127 (x : Int) (h0 : 0 ≤ x) (h1 : x ≤ 255) : bits .and .u8 x 127 = x % 128 := by
  rw [u8_and x 127 h0 (by omega) (by decide) (by decide)]
  have : Int.toNat 127 = 127 := rfl
  rw [this, nat_mask7]
  omega
theorem and128 (x : Int) (h0 : 0 ≤ x) (h1 : x ≤ 255) : bits .and .u8 x 128 = if 128 ≤ x then 128 else 0 := by
  rw [u8_and x 128 h0 (by omega) (by decide) (by decide)]
  have : Int.toNat 128 = 2 ^ 7 := rfl
  rw [this, nat_bit]
  split <;> omega

/-- The number that a byte's seven bits make a greater one. -/
def tkVal (v : Int) (c : Nat) (x : Int) : Int := v + x % 128 * 128 ^ c

theorem tk_fits (c : Nat) (x : Int) (hc : c ≤ 9) (h0 : 0 ≤ x) (h9 : c = 9 → x ≤ 1) : 0 ≤ x % 128 * 128 ^ c ∧ x % 128 * 128 ^ c + 128 ^ c ≤ 18446744073709551616 := by
  have hp := pow128_pos c
  have hm : 0 ≤ x % 128 := by omega
  refine ⟨Int.mul_nonneg hm (Int.le_of_lt hp), ?_⟩
  by_cases e : c = 9
  · subst e
    have := h9 rfl
    rw [pow128_9]
    omega
  · have h8 : (128 : Int) ^ c ≤ 128 ^ 8 := pow128_mono (by omega)
    rw [pow128_8] at h8
    have h2 : x % 128 * 128 ^ c ≤ 127 * 128 ^ c := Int.mul_le_mul_of_nonneg_right (by omega) (Int.le_of_lt hp)
    omega

theorem tk_or (v : Int) (c : Nat) (x : Int) (hv : 0 ≤ v) (hv1 : v < 128 ^ c) (hc : c ≤ 9) (h0 : 0 ≤ x) (h1 : x ≤ 255) (h9 : c = 9 → x ≤ 1) :
    bits .or .u64 v (IntKind.u64.wrap (IntKind.u64.wrap (bits .and .u8 x 127) * 2 ^ (7 * c))) = tkVal v c x := by
  have hf := tk_fits c x hc h0 h9
  have hp := pow128_pos c
  have e1 : IntKind.u64.wrap (bits .and .u8 x 127) = x % 128 := by
    rw [and127 x h0 h1, IntKind.wrap_u64]; exact Int.emod_eq_of_lt (by omega) (by omega)
  have e2 : IntKind.u64.wrap (x % 128 * 128 ^ c) = x % 128 * 128 ^ c := by
    rw [IntKind.wrap_u64]; exact Int.emod_eq_of_lt hf.1 (by omega)
  rw [e1, ← pow128, e2]
  unfold tkVal
  generalize hy : x % 128 * 128 ^ c = y at *
  have hd : y % 128 ^ c = 0 := by rw [← hy]; exact Int.mul_emod_left _ _
  have hc2 : ((128 : Int) ^ c) = ((2 ^ (7 * c) : Nat) : Int) := by rw [pow128]; simp
  rw [hc2] at hd hv1 hf
  obtain ⟨V, rfl⟩ := Int.eq_ofNat_of_zero_le hv
  obtain ⟨Y, rfl⟩ := Int.eq_ofNat_of_zero_le hf.1
  rw [u64_or_nat V Y (by omega) (by omega), Nat.or_comm, nat_join (7 * c) Y V (by omega) (by omega)]
  omega
end Go.Proofs.YtpodakndckflgaaGreatDoor

namespace Go.Proofs.YtpodakndckflgaaGreatDoor
open Go.RowKit
set_option linter.unusedVariables false
/-- A number's shortest form, in at most so many bytes more. -/
def encL : Nat → Int → List Int
  | 0, v => [v]
  | f + 1, v => if 127 < v then (v % 128 + 128) :: encL f (v / 128) else [v]
def encI (v : Int) : List Int := encL 9 v
def encA : List Int → List Int
  | [] => []
  | v :: r => encI v ++ encA r

theorem encA_append (a b : List Int) : encA (a ++ b) = encA a ++ encA b := by
  induction a with
  | nil => rfl
  | cons v r ih => simp [encA, ih]
theorem encA_one (v : Int) : encA [v] = encI v := by simp [encA]
theorem encA_take (zs : List Int) (k : Nat) (h : k < zs.length) : encA (zs.take (k + 1)) = encA (zs.take k) ++ encI (zs.getD k 0) := by
  rw [List.take_succ_eq_append_getElem h, encA_append, encA_one]
  simp [List.getD, h]
theorem encL_len_le : ∀ (f : Nat) (v : Int), 1 ≤ (encL f v).length ∧ (encL f v).length ≤ f + 1
  | 0, v => by simp [encL]
  | f + 1, v => by
    unfold encL
    split
    · have := encL_len_le f (v / 128); simp; omega
    · simp
theorem encI_len (v : Int) : 1 ≤ (encI v).length ∧ (encI v).length ≤ 10 := encL_len_le 9 v
theorem encA_len : ∀ (zs : List Int), zs.length ≤ (encA zs).length ∧ (encA zs).length ≤ 10 * zs.length
  | [] => by simp [encA]
  | v :: r => by
    have := encA_len r
    have := encI_len v
    simp [encA]; omega
theorem encA_take_len (zs : List Int) (k : Nat) : (encA (zs.take k)).length ≤ 10 * k := by
  have := (encA_len (zs.take k)).2
  simp at this
  omega

theorem encL_bd : ∀ (f : Nat) (v : Int), 0 ≤ v → v < 2 * 128 ^ f → ∀ z ∈ encL f v, 0 ≤ z ∧ z ≤ 255
  | 0, v, h0, h1 => by simp [encL]; simp at h1; omega
  | f + 1, v, h0, h1 => by
    have hp := pow128_pos f
    have h2 : v / 128 < 2 * 128 ^ f := by rw [Int.pow_succ] at h1; omega
    have ih := encL_bd f (v / 128) (by omega) h2
    unfold encL
    split
    · intro z hz
      simp at hz
      rcases hz with rfl | hz
      · omega
      · exact ih z hz
    · intro z hz
      simp at hz
      omega
theorem pow9 : (2 : Int) * 128 ^ 9 = 18446744073709551616 := by decide
theorem encI_bd (v : Int) (h0 : 0 ≤ v) (h1 : v ≤ 18446744073709551615) : ∀ z ∈ encI v, 0 ≤ z ∧ z ≤ 255 := encL_bd 9 v h0 (by rw [pow9]; omega)
theorem encA_bd : ∀ (zs : List Int), (∀ v ∈ zs, 0 ≤ v ∧ v ≤ 18446744073709551615) → ∀ z ∈ encA zs, 0 ≤ z ∧ z ≤ 255
  | [], _ => by simp [encA]
  | v :: r, h => by
    intro z hz
    simp [encA] at hz
    rcases hz with hz | hz
    · exact encI_bd v (h v (by simp)).1 (h v (by simp)).2 z hz
    · exact encA_bd r (fun u hu => h u (by simp [hu])) z hz

theorem encL_len : ∀ (n f : Nat) (v : Int), n ≤ f → v < 128 ^ (n + 1) → (n = 0 ∨ 128 ^ n ≤ v) → (encL f v).length = n + 1
  | 0, f, v, hf, h1, _ => by
    cases f with
    | zero => rfl
    | succ f => unfold encL; rw [if_neg (by simp at h1; omega)]; rfl
  | n + 1, 0, v, hf, _, _ => by omega
  | n + 1, f + 1, v, hf, h1, h2 => by
    have h2 : (128 : Int) ^ (n + 1) ≤ v := by rcases h2 with h | h; · omega
                                              · exact h
    have hp := pow128_pos n
    have h3 : (128 : Int) ^ (n + 1) = 128 ^ n * 128 := Int.pow_succ _ _
    have h4 : (128 : Int) ^ (n + 1 + 1) = 128 ^ (n + 1) * 128 := Int.pow_succ _ _
    have hr := encL_len n f (v / 128) (by omega) (by omega) (Or.inr (by omega))
    unfold encL
    rw [if_pos (by omega)]
    simp [hr]

theorem bitLenAux_bd : ∀ (f x : Nat), x < 2 ^ f → x < 2 ^ Lib.bitLenAux f x ∧ (0 < x → 2 ^ Lib.bitLenAux f x ≤ 2 * x)
  | 0, x, h => by simp at h; subst h; simp [Lib.bitLenAux]
  | f + 1, x, h => by
    unfold Lib.bitLenAux
    split
    · rename_i e; subst e; simp
    · rename_i e
      have ih := bitLenAux_bd f (x / 2) (by rw [Nat.pow_succ] at h; omega)
      rw [Nat.add_comm, Nat.pow_succ]
      refine ⟨by omega, fun _ => ?_⟩
      by_cases hx : 0 < x / 2
      · have := ih.2 hx; omega
      · have h1 : x / 2 = 0 := by omega
        rw [h1]
        have : Lib.bitLenAux f 0 = 0 := by cases f <;> simp [Lib.bitLenAux]
        rw [this]; omega

theorem or1 (v : Int) (h0 : 0 ≤ v) (h1 : v ≤ 18446744073709551615) : bits .or .u64 v 1 = v + 1 - v % 2 := by
  rw [u64_or v 1 h0 (by omega) (by decide) (by decide)]
  have e : Int.toNat 1 = 1 := rfl
  rw [e]
  have h2 : v.toNat = 2 * (v.toNat / 2) + v.toNat % 2 := by omega
  have h3 : v.toNat ||| 1 = 2 * (v.toNat / 2) + 1 := by
    apply Nat.eq_of_testBit_eq
    intro i
    cases i with
    | zero => simp
    | succ i =>
      rw [Nat.testBit_or, Nat.testBit_succ, Nat.testBit_succ, Nat.testBit_succ]
      have : (2 * (v.toNat / 2) + 1) / 2 = v.toNat / 2 := by omega
      rw [this]
      simp
  rw [h3]
  omega

/-- The bytes of a number, by its bits. -/
theorem size_len (v : Int) (h0 : 0 ≤ v) (h1 : v ≤ 18446744073709551615) : ((Lib.bitLen (bits .or .u64 v 1).toNat : Int) + 7 - 1) / 7 = ((encI v).length : Int) := by
  rw [or1 v h0 h1]
  have hx : (v + 1 - v % 2).toNat < 2 ^ 64 := by omega
  have hb := bitLenAux_bd 64 (v + 1 - v % 2).toNat hx
  have hle := Lib.bitLen_le _ 64 (by decide) hx
  have hge : 1 ≤ Lib.bitLen (v + 1 - v % 2).toNat := by
    by_cases e : Lib.bitLen (v + 1 - v % 2).toNat = 0
    · have := hb.1
      unfold Lib.bitLen at e
      rw [e] at this
      simp at this; omega
    · omega
  change _ < 2 ^ Lib.bitLen _ ∧ (_ → 2 ^ Lib.bitLen _ ≤ _) at hb
  generalize Lib.bitLen (v + 1 - v % 2).toNat = L at *
  obtain ⟨n, hn⟩ : ∃ n, n = (L - 1) / 7 := ⟨_, rfl⟩
  have hlo : 2 ^ (7 * n) ≤ 2 ^ (L - 1) := Nat.pow_le_pow_right (by decide) (by omega)
  have hhi : 2 ^ L ≤ 2 ^ (7 * (n + 1)) := Nat.pow_le_pow_right (by decide) (by omega)
  have hL : 2 ^ L = 2 ^ (L - 1) * 2 := by rw [← Nat.pow_succ]; congr 1; omega
  have e1 : (128 : Int) ^ (n + 1) = ((2 ^ (7 * (n + 1)) : Nat) : Int) := by rw [pow128]; simp
  have e2 : (128 : Int) ^ n = ((2 ^ (7 * n) : Nat) : Int) := by rw [pow128]; simp
  have hb2 := hb.2 (by omega)
  have key : (encI v).length = n + 1 := by
    refine encL_len n 9 v (by omega) (by rw [e1]; omega) ?_
    by_cases e : n = 0
    · exact Or.inl e
    · refine Or.inr ?_
      have hev : 2 ^ (7 * n) % 2 = 0 := by
        have : 7 * n = (7 * n - 1) + 1 := by omega
        rw [this, Nat.pow_succ]; omega
      rw [e2]; omega
  rw [key]
  omega

theorem enc_byte (u : Int) (h0 : 0 ≤ u) (h1 : u ≤ 18446744073709551615) : bits .and .u64 u 127 = u % 128 := by
  rw [u64_and u 127 h0 (by omega) (by decide) (by decide)]
  have : Int.toNat 127 = 127 := rfl
  rw [this, nat_mask7]
  omega
theorem or128 (x : Int) (h0 : 0 ≤ x) (h1 : x ≤ 127) : bits .or .u8 x 128 = x + 128 := by
  rw [u8_or x 128 h0 (by omega) (by decide) (by decide)]
  have : Int.toNat 128 = 128 := rfl
  rw [this, Nat.or_comm, nat_join 7 128 x.toNat (by decide) (by omega)]
  omega
end Go.Proofs.YtpodakndckflgaaGreatDoor

namespace Go.Proofs.YtpodakndckflgaaGreatDoor
open Go.RowKit
set_option linter.unusedVariables false
set_option maxRecDepth 100000 in
set_option maxHeartbeats 400000 in
theorem size_any (a : Option Addr) (zs : List Int) (cap : Nat) (w : World) (hs : Seg64 w a zs) (hl : zs.length ≤ 17592186044416) :
    Calls Tryz.prog 79 #[.slice a zs.length cap] w fun e w' => e = .returned (.int .i64 (encA zs).length) ∧ w' = w := by
  go_enter Tryz.func79, Tryz.ntmps79
  go_wp2
  go_loop [3, 8] (fun n i => ∃ k : Nat, k ≤ zs.length ∧ i = .int .i64 k ∧ n = .int .i64 (encA (zs.take k)).length) (fun _ i => zs.length - (intOf i).toNat)
  case atStart => exact ⟨0, Nat.zero_le _, rfl, rfl⟩
  case round =>
    obtain ⟨k, hk, rfl, rfl⟩ := hrel
    have hle := encA_take_len zs k
    by_cases hlt : k < zs.length
    · obtain ⟨b, off, rfl, hcell⟩ := hs.at_ k hlt
      have hx := hs.bd k
      have HT : Hid (encA (zs.take (k + 1)) = encA (zs.take k) ++ encI (zs.getD k 0)) := encA_take zs k hlt
      have HS : Hid (((Lib.bitLen (bits .or .u64 (zs.getD k 0) 1).toNat : Int) + 7 - 1) / 7 = ((encI (zs.getD k 0)).length : Int)) := size_len _ hx.1 hx.2
      have ho : 0 ≤ bits .or .u64 (zs.getD k 0) 1 ∧ bits .or .u64 (zs.getD k 0) 1 ≤ 18446744073709551615 := by rw [or1 _ hx.1 hx.2]; omega
      have hlen := encI_len (zs.getD k 0)
      have hbl : Lib.bitLen (bits .or .u64 (zs.getD k 0) 1).toNat ≤ 64 := Lib.bitLen_le _ 64 (by decide) (by omega)
      generalize zs.getD k 0 = x at *
      go_wp2_with (go_at_call 91; refine (len64_any _ _ (by omega) (by omega)).mono ?_; rintro e w' ⟨rfl, rfl⟩)
      go_round
      case rel => exact ⟨k + 1, by omega, by go_num, by rw [HT.out, List.length_append, HS.out]; go_num⟩
      case measure => simp [intOf]; omega
    · obtain rfl : k = zs.length := by omega
      clear hle hlt
      go_wp2
      go_ret
      exact ⟨rfl, rfl⟩

theorem info_u8 : (Tryz.prog.info? 5).map (fun i => (i.zero, i.size, i.bytes)) = some (some (.int .u8 0), 1, 1) := by kernel_rfl

set_option maxRecDepth 100000 in
set_option maxHeartbeats 1000000 in
theorem encode_any (a : Option Addr) (zs : List Int) (cap : Nat) (w : World) (hs : Seg64 w a zs) (hl : zs.length ≤ 8796093022208) :
    Calls Tryz.prog 57 #[.slice a zs.length cap] w fun e w' => ∃ v, e = .returned v ∧ w'.ownsRow w.heap.size 5 1 v (encA zs).length ((encA zs).map (Value.int .u8)) ∧ Below w.heap.size w w' := by
  obtain ⟨i0, hi, hz0, hz1, hz2⟩ := info_parts info_u8
  have hsz := encA_len zs
  go_enter Tryz.func57, Tryz.ntmps57
  go_wp2_with (first
    | (go_at_call 79; refine (size_any a zs cap _ hs (by omega)).mono ?_; rintro e w' ⟨rfl, hw'⟩; subst w')
    | (at_make; refine wpList_make_own _ rfl _ _ 22 rfl w.heap.size 5 i0 (.int .u8 0) 1 Tryz.underlying22 hi hz0 hz1 .i64 .i64 _ (encA zs).length rfl rfl rfl (by rw [hz2]; omega) (by unfold maxLen; omega) (Nat.le_refl _) ?_; intro w1 hown1 hgrow1))
  have hsz1 := hgrow1.size
  go_loopw [3, 11] (fun o i wr => ∃ k : Nat, k ≤ zs.length ∧ i = .int .i64 k ∧ wr.ownsRow w.heap.size 5 1 o (encA (zs.take k)).length ((encA (zs.take k)).map (Value.int .u8)) ∧ Below w.heap.size w wr) (fun _ i _ => zs.length - (intOf i).toNat)
  case atStart => exact ⟨0, Nat.zero_le _, rfl, hown1, (Below.refl _ _).grown hgrow1 (Nat.le_refl _) (by intro k e; cases e)⟩
  case round =>
    obtain ⟨k, hk, rfl, hown, hb⟩ := hrel
    have hle := encA_take_len zs k
    by_cases hlt : k < zs.length
    · have hsr := hs.old hb
      obtain ⟨b, off, rfl, hcell⟩ := hsr.at_ k hlt
      have hx := hs.bd k
      have HT : Hid (encA (zs.take (k + 1)) = encA (zs.take k) ++ encI (zs.getD k 0)) := encA_take zs k hlt
      have hlen := encI_len (zs.getD k 0)
      generalize zs.getD k 0 = x at *
      go_wp2
      obtain ⟨wo, rfl⟩ : ∃ wo : World, wo = wr := ⟨_, rfl⟩
      generalize encA (zs.take k) = E at *
      go_loopw [3, 5] (fun o t wr => ∃ (pre : List Int) (f : Nat) (u : Int), t = .int .u64 u ∧ wr.ownsRow w.heap.size 5 1 o (E ++ pre).length ((E ++ pre).map (Value.int .u8)) ∧ encI x = pre ++ encL f u ∧ pre.length + f = 9 ∧ 0 ≤ u ∧ u < 2 * 128 ^ f ∧ Below w.heap.size w wr) (fun _ t _ => (intOf t).toNat)
      case atStart => exact ⟨[], 9, x, rfl, by simpa using hown, rfl, rfl, hx.1, by rw [pow9]; omega, hb⟩
      case round =>
        obtain ⟨pre, f, u, rfl, hown2, he, hf, hu0, hu1, hb2⟩ := hrel
        have HE : Hid (encI x = pre ++ encL f u) := he
        have hu2 : u ≤ 18446744073709551615 := by
          have h9 : (128 : Int) ^ f ≤ 128 ^ 9 := pow128_mono (by omega)
          have := pow9
          omega
        have hszr := hb2.size
        by_cases h7 : 127 < u
        · obtain ⟨f, rfl⟩ : ∃ g, f = g + 1 := ⟨f - 1, by
            cases f with
            | zero => simp at hu1; omega
            | succ f => rfl⟩
          have e1 := enc_byte u hu0 hu2
          have e2 := or128 (u % 128) (by omega) (by omega)
          have HN : Hid (encI x = (pre ++ [u % 128 + 128]) ++ encL f (u / 128)) := by
            show encI x = _
            rw [he]; simp only [encL, if_pos h7, List.append_assoc, List.singleton_append]
          have hu3 : u / 128 < 2 * 128 ^ f := by rw [Int.pow_succ] at hu1; omega
          clear he
          go_wp2_with (at_builtin; refine wpList_push rfl _ _ 22 rfl w.heap.size 5 i0 (.int .u8 0) 1 Tryz.underlying22 hi hz0 hz1 hz2 rfl wr (.int .u8 (u % 128 + 128)) rfl hown2 rfl rfl (by simp; omega) (by simp; omega) hszr ?_; intro v' w2 hown3 hg3 hb3)
          go_roundw
          case rel => exact ⟨pre ++ [u % 128 + 128], f, u / 128, rfl, by simpa [← Nat.add_assoc] using hown3, HN.out, by simp; omega, by omega, hu3, hb2.trans hb3⟩
          case measure => simp [intOf]; omega
        · have HN : Hid (encI x = pre ++ [u]) := by
            show encI x = _
            rw [he]
            cases f <;> simp [encL, h7]
          clear he
          go_wp2_with (at_builtin; refine wpList_push rfl _ _ 22 rfl w.heap.size 5 i0 (.int .u8 0) 1 Tryz.underlying22 hi hz0 hz1 hz2 rfl wr (.int .u8 u) rfl hown2 rfl rfl (by simp; omega) (by simp; omega) hszr ?_; intro v' w2 hown3 hg3 hb3)
          go_roundw
          case rel => exact ⟨k + 1, by omega, by go_num, by rw [HT.out, HN.out]; simpa [← Nat.add_assoc] using hown3, hb2.trans hb3⟩
          case measure => simp [intOf]; omega
    · obtain rfl : k = zs.length := by omega
      have HT : Hid (zs.take zs.length = zs) := List.take_length
      rw [HT.out] at hown
      clear hle hlt
      go_wp2
      go_ret
      exact ⟨_, rfl, hown, hb⟩
end Go.Proofs.YtpodakndckflgaaGreatDoor

namespace Go.Proofs.YtpodakndckflgaaGreatDoor
open Go.RowKit
set_option linter.unusedVariables false
/-- So many bytes of a number, the least first. -/
def fixL : Nat → Int → List Int
  | 0, _ => []
  | n + 1, v => v % 256 :: fixL n (v / 256)
theorem fixL_len : ∀ (n : Nat) (v : Int), (fixL n v).length = n
  | 0, _ => rfl
  | n + 1, v => by simp [fixL, fixL_len n]
theorem fixL_bd : ∀ (n : Nat) (v : Int), ∀ z ∈ fixL n v, 0 ≤ z ∧ z ≤ 255
  | 0, _ => by simp [fixL]
  | n + 1, v => by
    intro z hz
    simp [fixL] at hz
    rcases hz with rfl | hz
    · omega
    · exact fixL_bd n _ z hz
theorem info_u8f : (Tryz.prog.info? 5).map (fun i => (i.zero, i.size, i.bytes)) = some (some (.int .u8 0), 1, 1) := by kernel_rfl

set_option maxRecDepth 100000 in
theorem isFixed_any (s : Int) (w : World) : Calls Tryz.prog 81 #[.int .i64 s] w fun e w' => e = .returned (.bool (decide (1 ≤ s ∧ s ≤ 8))) ∧ w' = w := by
  by_cases h1 : 1 ≤ s
  · by_cases h8 : s ≤ 8
    · go_enter Tryz.func81, Tryz.ntmps81
      go_wp2
      go_ret
      exact ⟨by simp [h1, h8], rfl⟩
    · have h8' : 8 < s := by omega
      go_enter Tryz.func81, Tryz.ntmps81
      go_wp2
      go_ret
      exact ⟨by simp; omega, rfl⟩
  · have h1' : s < 1 := by omega
    go_enter Tryz.func81, Tryz.ntmps81
    go_wp2
    go_ret
    exact ⟨by simp; omega, rfl⟩

theorem fixL_snoc : ∀ (k : Nat) (v : Int), fixL (k + 1) v = fixL k v ++ [v / 2 ^ (8 * k) % 256]
  | 0, v => by simp [fixL]
  | k + 1, v => by
    have ih := fixL_snoc k (v / 256)
    have e : v / 256 / 2 ^ (8 * k) = v / 2 ^ (8 * (k + 1)) := by
      rw [Int.ediv_ediv_of_nonneg (by decide), show 8 * (k + 1) = 8 + 8 * k by omega, Int.pow_add]
      rfl
    rw [show fixL (k + 1 + 1) v = v % 256 :: fixL (k + 1) (v / 256) from rfl, ih, e]
    rfl
theorem zeros_set (s k : Nat) (v x : Int) (hk : k < s) (hx : x = v / 2 ^ (8 * k) % 256) :
    (((fixL k v ++ List.replicate (s - k) 0).map (Value.int .u8)).set k (.int .u8 x)) = (fixL (k + 1) v ++ List.replicate (s - (k + 1)) 0).map (Value.int .u8) := by
  rw [← List.map_set]
  congr 1
  obtain ⟨m, hm⟩ : ∃ m, s - k = m + 1 := ⟨s - k - 1, by omega⟩
  have hm2 : s - (k + 1) = m := by omega
  rw [hm, hm2, List.replicate_succ, List.set_append, if_neg (by rw [fixL_len]; omega), fixL_len, Nat.sub_self, List.set_cons_zero, fixL_snoc, hx]
  simp

set_option maxRecDepth 100000 in
set_option maxHeartbeats 400000 in
theorem fixed_ok (v : Int) (s : Nat) (w : World) (h1 : 1 ≤ s) (h8 : s ≤ 8) (hv0 : 0 ≤ v) (hv1 : v ≤ 18446744073709551615) (hr : v / 2 ^ (8 * s) = 0) :
    Calls Tryz.prog 63 #[.int .u64 v, .int .i64 s] w fun e w' => e = .returned (.tuple #[.slice (some ⟨w.heap.size, 0, none⟩) s s, .int .i64 0]) ∧
      w'.ownsRow w.heap.size 5 1 (.slice (some ⟨w.heap.size, 0, none⟩) s s) s ((fixL s v).map (Value.int .u8)) ∧ Below w.heap.size w w' := by
  have hd : decide (1 ≤ (s : Int) ∧ (s : Int) ≤ 8) = true := by simp; omega
  have hn : (v / 2 ^ (8 * s) != 0) = false := by rw [hr]; rfl
  clear hr
  obtain ⟨i0, hi, hz0, hz1, hz2⟩ := info_parts info_u8f
  go_enter Tryz.func63, Tryz.ntmps63
  go_wp2_with (first
    | (go_at_call 81; refine (isFixed_any _ _).mono ?_; rintro e w' ⟨rfl, hw'⟩; subst w')
    | (at_make; refine wpList_make_full _ rfl _ _ 22 rfl w.heap.size 5 i0 (.int .u8 0) 1 Tryz.underlying22 hi hz0 hz1 .i64 .i64 _ _ s rfl rfl rfl rfl (by rw [hz2]; omega) (by unfold maxLen; omega) (Nat.le_refl _) ?_; intro w1 hown1 hgrow1))
  have hsz1 := hgrow1.size
  rw [Nat.mul_one, show (Value.int IntKind.u8 0).cells = #[.int .u8 0] from rfl, toList_madeCells_one] at hown1
  go_loopw [20] (fun i wr => ∃ k : Nat, k ≤ s ∧ i = .int .i64 k ∧ wr.ownsRow w.heap.size 5 1 (.slice (some ⟨w.heap.size, 0, none⟩) s s) s ((fixL k v ++ List.replicate (s - k) 0).map (Value.int .u8)) ∧ Below w.heap.size w wr) (fun i _ => s - (intOf i).toNat)
  case atStart => exact ⟨0, Nat.zero_le _, rfl, by simpa [fixL] using hown1, (Below.refl _ _).grown hgrow1 (Nat.le_refl _) (by intro k e; cases e)⟩
  case round =>
    obtain ⟨k, hk, rfl, hown, hb⟩ := hrel
    by_cases hlt : k < s
    · have hlti : (k : Int) < (s : Int) := by omega
      have hc := hown.cellAt k (by omega)
      have hf := hown.frozenAt k
      have hst := hown.stored k (.int .u8 (v / 2 ^ (8 * k) % 256))
      rw [zeros_set s k v _ hlt rfl] at hst
      have hcell : ∃ u, wr.cell? ⟨w.heap.size, k, none⟩ = some u := by
        rw [hc]
        exact ⟨_, List.getElem?_eq_getElem (by simp [fixL_len]; omega)⟩
      obtain ⟨u, hu⟩ := hcell
      clear hc hown1 hgrow1
      go_wp2
      go_roundw
      case rel => exact ⟨k + 1, by omega, by go_num, hst.1, hb.trans ((Below.refl _ _).grown hst.2 hb.size (by intro j e; cases e; exact Nat.le_refl _))⟩
      case measure => simp [intOf]; omega
    · obtain rfl : k = s := by omega
      clear hlt
      go_wp2
      go_ret2
      exact ⟨rfl, by simpa using hown, hb⟩
end Go.Proofs.YtpodakndckflgaaGreatDoor

namespace Go.Proofs.YtpodakndckflgaaGreatDoor
open Go.RowKit
set_option linter.unusedVariables false
set_option linter.unusedSimpArgs false
abbrev W32 := BitVec 32
def genW : W32 := 3988292384#32
def on (w : W32) : W32 := (w >>> 1) ^^^ (if w.getLsbD 0 then genW else 0#32)
def onN : Nat → W32 → W32
  | 0, w => w
  | k + 1, w => on (onN k w)

theorem bxor_left_comm (a b c : W32) : a ^^^ (b ^^^ c) = b ^^^ (a ^^^ c) := by rw [← BitVec.xor_assoc, BitVec.xor_comm a b, BitVec.xor_assoc]
theorem bxor_cancel (a b : W32) : a ^^^ (a ^^^ b) = b := by rw [← BitVec.xor_assoc, BitVec.xor_self, BitVec.zero_xor]
theorem on_xor (a b : W32) : on (a ^^^ b) = on a ^^^ on b := by
  unfold on
  rw [BitVec.ushiftRight_xor_distrib, BitVec.getLsbD_xor]
  cases a.getLsbD 0 <;> cases b.getLsbD 0 <;> simp [BitVec.xor_assoc, BitVec.xor_comm, bxor_left_comm, bxor_cancel]
theorem onN_xor (k : Nat) (a b : W32) : onN k (a ^^^ b) = onN k a ^^^ onN k b := by
  induction k with
  | zero => rfl
  | succ k ih => simp only [onN, ih, on_xor]
theorem onN_add (a b : Nat) (w : W32) : onN (a + b) w = onN a (onN b w) := by
  induction a with
  | zero => simp [onN]
  | succ a ih => rw [Nat.succ_add]; simp only [onN, ih]
theorem on_double (y : W32) (h : y.toNat < 2 ^ 31) : on (y <<< 1) = y := by
  unfold on
  have e0 : (y <<< 1).getLsbD 0 = false := by simp
  rw [e0]
  simp only [Bool.false_eq_true, if_false, BitVec.xor_zero]
  apply BitVec.eq_of_toNat_eq
  simp [Nat.shiftLeft_eq, Nat.shiftRight_eq_div_pow]
  omega
theorem onN_shl (k : Nat) (y : W32) (h : y.toNat < 2 ^ (32 - k)) (hk : k ≤ 32) : onN k (y <<< k) = y := by
  induction k with
  | zero => simp [onN]
  | succ k ih =>
    have e : onN (k + 1) (y <<< (k + 1)) = onN k (on (y <<< (k + 1))) := by
      rw [onN_add k 1]; rfl
    have hp : y.toNat < 2 ^ (32 - k) := Nat.lt_of_lt_of_le h (Nat.pow_le_pow_right (by decide) (by omega))
    have e2 : (y <<< k).toNat < 2 ^ 31 := by
      rw [BitVec.toNat_shiftLeft, Nat.shiftLeft_eq]
      refine Nat.lt_of_le_of_lt (Nat.mod_le _ _) ?_
      have : y.toNat * 2 ^ k < 2 ^ (32 - (k + 1)) * 2 ^ k := Nat.mul_lt_mul_of_pos_right h (Nat.pow_pos (by decide))
      rw [← Nat.pow_add] at this
      rw [show 32 - (k + 1) + k = 31 by omega] at this
      exact this
    rw [e, BitVec.shiftLeft_add, on_double _ e2, ih hp (by omega)]

def halfL : List Int := [0, 498536548, 997073096, 651767980, 1994146192, 1802195444, 1303535960, 1342533948, 3988292384, 4027552580, 3604390888, 3412177804, 2607071920, 2262029012, 2685067896, 3183342108]
theorem half_split (r : W32) : r = ((r >>> 4) <<< 4) ^^^ (r &&& 15#32) := by
  apply BitVec.eq_of_getLsbD_eq
  intro i hi
  by_cases h : i < 4
  · rcases i with _ | _ | _ | _ | i <;> simp_all <;> first | (exfalso; omega) | skip
  · have e : 4 + (i - 4) = i := by omega
    have e2 : (15#32).getLsbD i = false := by
      have : ∀ j : Fin 32, 4 ≤ j.val → (15#32).getLsbD j.val = false := by decide
      exact this ⟨i, hi⟩ (Nat.le_of_not_lt h)
    simp [-BitVec.getLsbD_eq_getElem, h, hi, e, e2]
theorem half_tab : ∀ i : Fin 16, (((onN 4 (BitVec.ofNat 32 i.val)).toNat : Nat) : Int) = halfL.getD i.val 0 := by decide
theorem onN4 (r : W32) : onN 4 r = (r >>> 4) ^^^ onN 4 (r &&& 15#32) := by
  have h : (r >>> 4).toNat < 2 ^ (32 - 4) := by
    rw [BitVec.toNat_ushiftRight, Nat.shiftRight_eq_div_pow]
    have := r.isLt
    omega
  conv => lhs; rw [half_split r]
  rw [onN_xor, onN_shl 4 _ h (by decide)]
theorem and15 (r : W32) : r &&& 15#32 = BitVec.ofNat 32 (r.toNat % 16) := by
  apply BitVec.eq_of_toNat_eq
  have : r.toNat &&& 15 = r.toNat % 16 := Nat.and_two_pow_sub_one_eq_mod _ 4
  simp [this]
  omega
end Go.Proofs.YtpodakndckflgaaGreatDoor

namespace Go.Proofs.YtpodakndckflgaaGreatDoor
open Go.RowKit
set_option linter.unusedVariables false
set_option linter.unusedSimpArgs false
def bW (x : Int) : W32 := BitVec.ofNat 32 x.toNat
def takeW (r : W32) (x : Int) : W32 := onN 8 (r ^^^ bW x)
def runW : W32 → List Int → W32
  | r, [] => r
  | r, x :: l => runW (takeW r x) l
theorem runW_append (r : W32) (l m : List Int) : runW r (l ++ m) = runW (runW r l) m := by
  induction l generalizing r with
  | nil => rfl
  | cons x l ih => exact ih _
theorem runW_snoc (r : W32) (l : List Int) (x : Int) : runW r (l ++ [x]) = takeW (runW r l) x := by rw [runW_append]; rfl
/-- The sum of bytes. -/
def sumW (l : List Int) : W32 := ~~~ (runW (~~~ 0#32) l)
theorem not_not (a : W32) : ~~~ (~~~ a) = a := BitVec.not_not
end Go.Proofs.YtpodakndckflgaaGreatDoor

namespace Go.Proofs.YtpodakndckflgaaGreatDoor
open Go.RowKit
set_option linter.unusedVariables false
set_option linter.unusedSimpArgs false
/-- A word as the model's number. -/
def wI (a : W32) : Int := (a.toNat : Int)
theorem wI_xor (a b : W32) : bits .xor .u32 (wI a) (wI b) = wI (a ^^^ b) := by
  unfold wI
  rw [u32_xor_nat _ _ a.isLt b.isLt, BitVec.toNat_xor]
theorem wI_and (a b : W32) : bits .and .u32 (wI a) (wI b) = wI (a &&& b) := by
  unfold wI
  rw [u32_and_nat _ _ a.isLt b.isLt, BitVec.toNat_and]
theorem wI_shr (a : W32) (k : Nat) : wI a / 2 ^ k = wI (a >>> k) := by
  unfold wI
  rw [BitVec.toNat_ushiftRight, Nat.shiftRight_eq_div_pow]
  simp
end Go.Proofs.YtpodakndckflgaaGreatDoor

namespace Go.Proofs.YtpodakndckflgaaGreatDoor
open Go.RowKit
set_option linter.unusedVariables false
set_option linter.unusedSimpArgs false
/-- The table lies where the program's text lays it. -/
abbrev Tab (w : World) : Prop := SegK .u32 4294967295 w (some ⟨0, 0, none⟩) halfL
theorem Tab.cell {w : World} (h : Tab w) (k : Nat) (hk : k < 16) : w.cell? ⟨0, k, none⟩ = some (.int .u32 (wI (onN 4 (BitVec.ofNat 32 k)))) := by
  obtain ⟨b, off, e, hc⟩ := h.at_ k hk
  cases e
  rw [Nat.zero_add] at hc
  rw [hc, ← half_tab ⟨k, hk⟩]
  rfl
theorem wI_and15 (a : W32) : bits .and .u32 (wI a) 15 = ((a.toNat % 16 : Nat) : Int) := by
  rw [show (15 : Int) = wI 15#32 from rfl, wI_and, and15]
  unfold wI
  simp
  omega
theorem wI_shr4 (a : W32) : wI a / (16 : Int) = wI (a >>> 4) := by
  have := wI_shr a 4
  simpa using this
theorem wI_byte (x : Int) (h0 : 0 ≤ x) (h1 : x ≤ 255) : wI (bW x) = x := by
  unfold wI bW
  simp
  omega

set_option maxRecDepth 100000 in
set_option maxHeartbeats 400000 in
theorem take_any (r : W32) (x : Int) (w : World) (h : Tab w) (h0 : 0 ≤ x) (h1 : x ≤ 255) : Calls Tryz.prog 40 #[.int .u32 (wI r), .int .u8 x] w fun e w' => e = .returned (.int .u32 (wI (takeW r x))) ∧ w' = w := by
  have hx : bits .xor .u32 (wI r) x = wI (r ^^^ bW x) := by
    conv => lhs; rw [← wI_byte x h0 h1]
    exact wI_xor _ _
  generalize hs : r ^^^ bW x = s at *
  have ht : takeW r x = onN 4 (onN 4 s) := by
    unfold takeW
    rw [hs, ← onN_add]
  rw [ht]
  clear ht hs
  have k1 : s.toNat % 16 < 16 := Nat.mod_lt _ (by decide)
  have k2 : (onN 4 s).toNat % 16 < 16 := Nat.mod_lt _ (by decide)
  have a1 := wI_and15 s
  have a2 := wI_and15 (onN 4 s)
  have c1 := h.cell _ k1
  have c2 := h.cell _ k2
  have s1 := wI_shr4 s
  have s2 := wI_shr4 (onN 4 s)
  have x1 : bits .xor .u32 (wI (s >>> 4)) (wI (onN 4 (BitVec.ofNat 32 (s.toNat % 16)))) = wI (onN 4 s) := by
    rw [wI_xor, ← and15, ← onN4]
  have x2 : bits .xor .u32 (wI (onN 4 s >>> 4)) (wI (onN 4 (BitVec.ofNat 32 ((onN 4 s).toNat % 16)))) = wI (onN 4 (onN 4 s)) := by
    rw [wI_xor, ← and15, ← onN4]
  generalize s.toNat % 16 = m1 at *
  generalize (onN 4 s).toNat % 16 = m2 at *
  clear h
  go_enter Tryz.func40, Tryz.ntmps40
  go_wp2
  go_ret
  exact ⟨rfl, rfl⟩
end Go.Proofs.YtpodakndckflgaaGreatDoor

namespace Go.Proofs.YtpodakndckflgaaGreatDoor
open Go.RowKit
set_option linter.unusedVariables false
set_option linter.unusedSimpArgs false
theorem u32_unsigned : IntKind.u32.signed = false := rfl
theorem wI_not (a : W32) : bits .xor .u32 IntKind.u32.max (wI a) = wI (~~~ a) := by
  rw [show IntKind.u32.max = wI (~~~ 0#32) from by decide, wI_xor]
  congr 1

theorem take_snoc {zs : List Int} {k : Nat} (hk : k < zs.length) : zs.take (k + 1) = zs.take k ++ [zs.getD k 0] := by
  rw [List.take_add_one]
  simp [List.getD, hk]

set_option maxRecDepth 100000 in
set_option maxHeartbeats 400000 in
theorem more_any (c : W32) (a : Option Addr) (zs : List Int) (cap : Nat) (w : World) (h : Tab w) (hs : Seg w a zs) (hl : zs.length ≤ 9223372036854775807) :
    Calls Tryz.prog 27 #[.int .u32 (wI c), .slice a zs.length cap] w fun e w' => e = .returned (.int .u32 (wI (~~~ (runW (~~~ c) zs)))) ∧ w' = w := by
  have hsg := u32_unsigned
  have hn := wI_not c
  go_enter Tryz.func27, Tryz.ntmps27
  go_wp2
  clear hn
  go_loopw [5, 12] (fun tr ti wr => ∃ k : Nat, k ≤ zs.length ∧ tr = .int .u32 (wI (runW (~~~ c) (zs.take k))) ∧ ti = .int .i64 k ∧ wr = w) (fun _ ti _ => zs.length - (intOf ti).toNat)
  case atStart => exact ⟨0, Nat.zero_le _, by simp [runW], rfl, rfl⟩
  case round =>
    obtain ⟨k, hk, rfl, rfl, rfl⟩ := hrel
    by_cases hlt : k < zs.length
    · have hlti : (k : Int) < (zs.length : Int) := by omega
      obtain ⟨b, off, rfl, hc⟩ := hs.at_ k hlt
      have hbd := hs.bd k
      have HT : Hid (runW (~~~ c) (zs.take (k + 1)) = takeW (runW (~~~ c) (zs.take k)) (zs.getD k 0)) := by
        show _ = _
        rw [take_snoc hlt, runW_snoc]
      generalize zs.getD k 0 = z at *
      go_wp2_with (go_at_call 40; refine (take_any _ _ _ h (by omega) (by omega)).mono ?_; rintro e w' ⟨rfl, hw'⟩; subst w')
      go_roundw
      case rel => exact ⟨k + 1, by omega, by rw [HT.out], by go_num, trivial⟩
      case measure => simp [intOf]; omega
    · obtain rfl : k = zs.length := by omega
      have e1 : zs.take zs.length = zs := List.take_of_length_le (Nat.le_refl _)
      rw [e1]
      clear hlt e1
      have hn := wI_not (runW (~~~ c) zs)
      go_wp2
      go_ret
      exact ⟨rfl, rfl⟩
end Go.Proofs.YtpodakndckflgaaGreatDoor

namespace Go.Proofs.YtpodakndckflgaaGreatDoor
open Go.RowKit
set_option linter.unusedVariables false
set_option linter.unusedSimpArgs false
/-- A part: where its bytes lie, the bytes, the capacity. -/
structure Part where
  a : Option Addr
  zs : List Int
  cap : Nat
def Part.val (p : Part) : Value := .slice p.a p.zs.length p.cap
def noPart : Part := ⟨none, [], 0⟩
/-- Parts lie where a slice's address leads, and the bytes of each where it leads. -/
structure Parts (w : World) (a : Option Addr) (ps : List Part) : Prop where
  at_ : ∀ i, i < ps.length → ∃ b off, a = some ⟨b, off, none⟩ ∧ w.cell? ⟨b, off + i, none⟩ = some (ps.getD i noPart).val
  seg : ∀ i, i < ps.length → Seg w (ps.getD i noPart).a (ps.getD i noPart).zs
  len : ∀ i, i < ps.length → (ps.getD i noPart).zs.length ≤ 9223372036854775807
def flat (ps : List Part) : List Int := (ps.map (·.zs)).flatten
theorem flat_snoc {ps : List Part} {k : Nat} (hk : k < ps.length) : flat (ps.take (k + 1)) = flat (ps.take k) ++ (ps.getD k noPart).zs := by
  unfold flat
  rw [List.take_add_one, List.map_append, List.flatten_append, List.getElem?_eq_getElem hk]
  simp only [Option.toList, List.map_cons, List.map_nil, List.flatten_cons, List.flatten_nil, List.append_nil]
  rw [List.getD, List.getElem?_eq_getElem hk]
  rfl

set_option maxRecDepth 100000 in
set_option maxHeartbeats 400000 in
theorem sum_any (a : Option Addr) (ps : List Part) (cap : Nat) (w : World) (h : Tab w) (hs : Parts w a ps) (hl : ps.length ≤ 9223372036854775807) :
    Calls Tryz.prog 52 #[.slice a ps.length cap] w fun e w' => e = .returned (.int .u32 (wI (sumW (flat ps)))) ∧ w' = w := by
  have z0 : (0 : Int) = wI (sumW (flat (ps.take 0))) := by simp [flat]; decide
  go_enter Tryz.func52, Tryz.ntmps52
  go_wp2
  go_loopw [3, 8] (fun tr ti wr => ∃ k : Nat, k ≤ ps.length ∧ tr = .int .u32 (wI (sumW (flat (ps.take k)))) ∧ ti = .int .i64 k ∧ wr = w) (fun _ ti _ => ps.length - (intOf ti).toNat)
  case atStart => exact ⟨0, Nat.zero_le _, by rw [← z0], rfl, rfl⟩
  case round =>
    clear z0
    obtain ⟨k, hk, rfl, rfl, rfl⟩ := hrel
    by_cases hlt : k < ps.length
    · have hlti : (k : Int) < (ps.length : Int) := by omega
      obtain ⟨b, off, rfl, hc⟩ := hs.at_ k hlt
      have hsg := hs.seg k hlt
      have hln := hs.len k hlt
      have HT : Hid (~~~ (runW (~~~ (sumW (flat (ps.take k)))) (ps.getD k noPart).zs) = sumW (flat (ps.take (k + 1)))) := by
        show _ = _
        rw [flat_snoc hlt]
        unfold sumW
        rw [not_not, runW_append]
      generalize ps.getD k noPart = p at *
      obtain ⟨pa, pz, pc⟩ := p
      unfold Part.val at hc
      simp only at hc hsg hln HT
      go_wp2_with (go_at_call 27; refine (more_any _ _ _ _ _ h hsg hln).mono ?_; rintro e w' ⟨rfl, hw'⟩; subst w')
      go_roundw
      case rel => exact ⟨k + 1, by omega, by rw [HT.out], by go_num, trivial⟩
      case measure => simp [intOf]; omega
    · obtain rfl : k = ps.length := by omega
      have e1 : ps.take ps.length = ps := List.take_of_length_le (Nat.le_refl _)
      rw [e1]
      clear hlt e1
      go_wp2
      go_ret
      exact ⟨rfl, rfl⟩
end Go.Proofs.YtpodakndckflgaaGreatDoor
