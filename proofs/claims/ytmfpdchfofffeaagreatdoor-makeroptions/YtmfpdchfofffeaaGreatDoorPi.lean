import Derived.Test.YtmfpdchfofffeaaGreatDoorProg
import Derived.Test.YtmfpdchfofffeaaGreatDoorPa
import Derived.WalkKit
import Derived.WalkSpells
import Derived.WalkLawsBesides
import Derived.Laws.BitsAllLaws
import Derived.Lib.SmallJoins
import Derived.Test.YtmfpdchfofffeaaGreatDoorPh
import Derived.Deep.AppendLies
import Derived.ArgAppend
import Derived.Lib.SlBytesConst
import Derived.Below
namespace Go.Proofs.YtmfpdchfofffeaaGreatDoor
open Go.RowKit
set_option linter.unusedVariables false
/-- So many bytes of a number, the least first. -/
def fixL : Nat → Int → List Int
  | 0, _ => []
  | n + 1, v => v % 256 :: fixL n (v / 256)
theorem fixL_len : ∀ (n : Nat) (v : Int), (fixL n v).length = n
  | 0, _ => rfl
  | n + 1, v => by simp [fixL, fixL_len n]
theorem fixL_bd : ∀ (n : Nat) (v : Int), ∀ z ∈ fixL n v, 0 ≤ z ∧ z ≤ 255
  | 0, _ => by simp [fixL]
  | n + 1, v => by
    intro z hz
    simp [fixL] at hz
    rcases hz with rfl | hz
    · omega
    · exact fixL_bd n _ z hz
theorem info_u8f : (Tryz.prog.info? 5).map (fun i => (i.zero, i.size, i.bytes)) = some (some (.int .u8 0), 1, 1) := by kernel_rfl

set_option maxRecDepth 100000 in
theorem isFixed_any (s : Int) (w : World) : Calls Tryz.prog 168 #[.int .i64 s] w fun e w' => e = .returned (.bool (decide (1 ≤ s ∧ s ≤ 8))) ∧ w' = w := by
  by_cases h1 : 1 ≤ s
  · by_cases h8 : s ≤ 8
    · go_enter Tryz.func168, Tryz.ntmps168
      go_wp2
      go_ret
      exact ⟨by simp [h1, h8], rfl⟩
    · have h8' : 8 < s := by omega
      go_enter Tryz.func168, Tryz.ntmps168
      go_wp2
      go_ret
      exact ⟨by simp; omega, rfl⟩
  · have h1' : s < 1 := by omega
    go_enter Tryz.func168, Tryz.ntmps168
    go_wp2
    go_ret
    exact ⟨by simp; omega, rfl⟩

theorem fixL_snoc : ∀ (k : Nat) (v : Int), fixL (k + 1) v = fixL k v ++ [v / 2 ^ (8 * k) % 256]
  | 0, v => by simp [fixL]
  | k + 1, v => by
    have ih := fixL_snoc k (v / 256)
    have e : v / 256 / 2 ^ (8 * k) = v / 2 ^ (8 * (k + 1)) := by
      rw [Int.ediv_ediv_of_nonneg (by decide), show 8 * (k + 1) = 8 + 8 * k by omega, Int.pow_add]
      rfl
    rw [show fixL (k + 1 + 1) v = v % 256 :: fixL (k + 1) (v / 256) from rfl, ih, e]
    rfl
theorem zeros_set (s k : Nat) (v x : Int) (hk : k < s) (hx : x = v / 2 ^ (8 * k) % 256) :
    (((fixL k v ++ List.replicate (s - k) 0).map (Value.int .u8)).set k (.int .u8 x)) = (fixL (k + 1) v ++ List.replicate (s - (k + 1)) 0).map (Value.int .u8) := by
  rw [← List.map_set]
  congr 1
  obtain ⟨m, hm⟩ : ∃ m, s - k = m + 1 := ⟨s - k - 1, by omega⟩
  have hm2 : s - (k + 1) = m := by omega
  rw [hm, hm2, List.replicate_succ, List.set_append, if_neg (by rw [fixL_len]; omega), fixL_len, Nat.sub_self, List.set_cons_zero, fixL_snoc, hx]
  simp

set_option maxRecDepth 100000 in
set_option maxHeartbeats 400000 in
theorem fixed_ok (v : Int) (s : Nat) (w : World) (h1 : 1 ≤ s) (h8 : s ≤ 8) (hv0 : 0 ≤ v) (hv1 : v ≤ 18446744073709551615) (hr : v / 2 ^ (8 * s) = 0) :
    Calls Tryz.prog 131 #[.int .u64 v, .int .i64 s] w fun e w' => e = .returned (.tuple #[.slice (some ⟨w.heap.size, 0, none⟩) s s, .int .i64 0]) ∧
      w'.ownsRow w.heap.size 5 1 (.slice (some ⟨w.heap.size, 0, none⟩) s s) s ((fixL s v).map (Value.int .u8)) ∧ Below w.heap.size w w' := by
  have hd : decide (1 ≤ (s : Int) ∧ (s : Int) ≤ 8) = true := by simp; omega
  have hn : (v / 2 ^ (8 * s) != 0) = false := by rw [hr]; rfl
  clear hr
  obtain ⟨i0, hi, hz0, hz1, hz2⟩ := info_parts info_u8f
  go_enter Tryz.func131, Tryz.ntmps131
  go_wp2_with (first
    | (go_at_call 168; refine (isFixed_any _ _).mono ?_; rintro e w' ⟨rfl, hw'⟩; subst w')
    | (at_make; refine wpList_make_full _ rfl _ _ 36 rfl w.heap.size 5 i0 (.int .u8 0) 1 Tryz.underlying36 hi hz0 hz1 .i64 .i64 _ _ s rfl rfl rfl rfl (by rw [hz2]; omega) (by unfold maxLen; omega) (Nat.le_refl _) ?_; intro w1 hown1 hgrow1))
  have hsz1 := hgrow1.size
  rw [Nat.mul_one, show (Value.int IntKind.u8 0).cells = #[.int .u8 0] from rfl, toList_madeCells_one] at hown1
  go_loopw [20] (fun i wr => ∃ k : Nat, k ≤ s ∧ i = .int .i64 k ∧ wr.ownsRow w.heap.size 5 1 (.slice (some ⟨w.heap.size, 0, none⟩) s s) s ((fixL k v ++ List.replicate (s - k) 0).map (Value.int .u8)) ∧ Below w.heap.size w wr) (fun i _ => s - (intOf i).toNat)
  case atStart => exact ⟨0, Nat.zero_le _, rfl, by simpa [fixL] using hown1, (Below.refl _ _).grown hgrow1 (Nat.le_refl _) (by intro k e; cases e)⟩
  case round =>
    obtain ⟨k, hk, rfl, hown, hb⟩ := hrel
    by_cases hlt : k < s
    · have hlti : (k : Int) < (s : Int) := by omega
      have hc := hown.cellAt k (by omega)
      have hf := hown.frozenAt k
      have hst := hown.stored k (.int .u8 (v / 2 ^ (8 * k) % 256))
      rw [zeros_set s k v _ hlt rfl] at hst
      have hcell : ∃ u, wr.cell? ⟨w.heap.size, k, none⟩ = some u := by
        rw [hc]
        exact ⟨_, List.getElem?_eq_getElem (by simp [fixL_len]; omega)⟩
      obtain ⟨u, hu⟩ := hcell
      clear hc hown1 hgrow1
      go_wp2
      go_roundw
      case rel => exact ⟨k + 1, by omega, by go_num, hst.1, hb.trans ((Below.refl _ _).grown hst.2 hb.size (by intro j e; cases e; exact Nat.le_refl _))⟩
      case measure => simp [intOf]; omega
    · obtain rfl : k = s := by omega
      clear hlt
      go_wp2
      go_ret2
      exact ⟨rfl, by simpa using hown, hb⟩
end Go.Proofs.YtmfpdchfofffeaaGreatDoor

namespace Go.Proofs.YtmfpdchfofffeaaGreatDoor
open Go.RowKit
set_option linter.unusedVariables false
set_option linter.unusedSimpArgs false
abbrev W32 := BitVec 32
def genW : W32 := 3988292384#32
def on (w : W32) : W32 := (w >>> 1) ^^^ (if w.getLsbD 0 then genW else 0#32)
def onN : Nat → W32 → W32
  | 0, w => w
  | k + 1, w => on (onN k w)

theorem bxor_left_comm (a b c : W32) : a ^^^ (b ^^^ c) = b ^^^ (a ^^^ c) := by rw [← BitVec.xor_assoc, BitVec.xor_comm a b, BitVec.xor_assoc]
theorem bxor_cancel (a b : W32) : a ^^^ (a ^^^ b) = b := by rw [← BitVec.xor_assoc, BitVec.xor_self, BitVec.zero_xor]
theorem on_xor (a b : W32) : on (a ^^^ b) = on a ^^^ on b := by
  unfold on
  rw [BitVec.ushiftRight_xor_distrib, BitVec.getLsbD_xor]
  cases a.getLsbD 0 <;> cases b.getLsbD 0 <;> simp [BitVec.xor_assoc, BitVec.xor_comm, bxor_left_comm, bxor_cancel]
theorem onN_xor (k : Nat) (a b : W32) : onN k (a ^^^ b) = onN k a ^^^ onN k b := by
  induction k with
  | zero => rfl
  | succ k ih => simp only [onN, ih, on_xor]
theorem onN_add (a b : Nat) (w : W32) : onN (a + b) w = onN a (onN b w) := by
  induction a with
  | zero => simp [onN]
  | succ a ih => rw [Nat.succ_add]; simp only [onN, ih]
theorem on_double (y : W32) (h : y.toNat < 2 ^ 31) : on (y <<< 1) = y := by
  unfold on
  have e0 : (y <<< 1).getLsbD 0 = false := by simp
  rw [e0]
  simp only [Bool.false_eq_true, if_false, BitVec.xor_zero]
  apply BitVec.eq_of_toNat_eq
  simp [Nat.shiftLeft_eq, Nat.shiftRight_eq_div_pow]
  omega
theorem onN_shl (k : Nat) (y : W32) (h : y.toNat < 2 ^ (32 - k)) (hk : k ≤ 32) : onN k (y <<< k) = y := by
  induction k with
  | zero => simp [onN]
  | succ k ih =>
    have e : onN (k + 1) (y <<< (k + 1)) = onN k (on (y <<< (k + 1))) := by
      rw [onN_add k 1]; rfl
    have hp : y.toNat < 2 ^ (32 - k) := Nat.lt_of_lt_of_le h (Nat.pow_le_pow_right (by decide) (by omega))
    have e2 : (y <<< k).toNat < 2 ^ 31 := by
      rw [BitVec.toNat_shiftLeft, Nat.shiftLeft_eq]
      refine Nat.lt_of_le_of_lt (Nat.mod_le _ _) ?_
      have : y.toNat * 2 ^ k < 2 ^ (32 - (k + 1)) * 2 ^ k := Nat.mul_lt_mul_of_pos_right h (Nat.pow_pos (by decide))
      rw [← Nat.pow_add] at this
      rw [show 32 - (k + 1) + k = 31 by omega] at this
      exact this
    rw [e, BitVec.shiftLeft_add, on_double _ e2, ih hp (by omega)]

def halfL : List Int := [0, 498536548, 997073096, 651767980, 1994146192, 1802195444, 1303535960, 1342533948, 3988292384, 4027552580, 3604390888, 3412177804, 2607071920, 2262029012, 2685067896, 3183342108]
theorem half_split (r : W32) : r = ((r >>> 4) <<< 4) ^^^ (r &&& 15#32) := by
  apply BitVec.eq_of_getLsbD_eq
  intro i hi
  by_cases h : i < 4
  · rcases i with _ | _ | _ | _ | i <;> simp_all <;> first | (exfalso; omega) | skip
  · have e : 4 + (i - 4) = i := by omega
    have e2 : (15#32).getLsbD i = false := by
      have : ∀ j : Fin 32, 4 ≤ j.val → (15#32).getLsbD j.val = false := by decide
      exact this ⟨i, hi⟩ (Nat.le_of_not_lt h)
    simp [-BitVec.getLsbD_eq_getElem, h, hi, e, e2]
theorem half_tab : ∀ i : Fin 16, (((onN 4 (BitVec.ofNat 32 i.val)).toNat : Nat) : Int) = halfL.getD i.val 0 := by decide
theorem onN4 (r : W32) : onN 4 r = (r >>> 4) ^^^ onN 4 (r &&& 15#32) := by
  have h : (r >>> 4).toNat < 2 ^ (32 - 4) := by
    rw [BitVec.toNat_ushiftRight, Nat.shiftRight_eq_div_pow]
    have := r.isLt
    omega
  conv => lhs; rw [half_split r]
  rw [onN_xor, onN_shl 4 _ h (by decide)]
theorem and15 (r : W32) : r &&& 15#32 = BitVec.ofNat 32 (r.toNat % 16) := by
  apply BitVec.eq_of_toNat_eq
  have : r.toNat &&& 15 = r.toNat % 16 := Nat.and_two_pow_sub_one_eq_mod _ 4
  simp [this]
  omega
end Go.Proofs.YtmfpdchfofffeaaGreatDoor

namespace Go.Proofs.YtmfpdchfofffeaaGreatDoor
open Go.RowKit
set_option linter.unusedVariables false
set_option linter.unusedSimpArgs false
def bW (x : Int) : W32 := BitVec.ofNat 32 x.toNat
def takeW (r : W32) (x : Int) : W32 := onN 8 (r ^^^ bW x)
def runW : W32 → List Int → W32
  | r, [] => r
  | r, x :: l => runW (takeW r x) l
theorem runW_append (r : W32) (l m : List Int) : runW r (l ++ m) = runW (runW r l) m := by
  induction l generalizing r with
  | nil => rfl
  | cons x l ih => exact ih _
theorem runW_snoc (r : W32) (l : List Int) (x : Int) : runW r (l ++ [x]) = takeW (runW r l) x := by rw [runW_append]; rfl
/-- The sum of bytes. -/
def sumW (l : List Int) : W32 := ~~~ (runW (~~~ 0#32) l)
theorem not_not (a : W32) : ~~~ (~~~ a) = a := BitVec.not_not
end Go.Proofs.YtmfpdchfofffeaaGreatDoor

namespace Go.Proofs.YtmfpdchfofffeaaGreatDoor
open Go.RowKit
set_option linter.unusedVariables false
set_option linter.unusedSimpArgs false
/-- A word as the model's number. -/
def wI (a : W32) : Int := (a.toNat : Int)
theorem wI_xor (a b : W32) : bits .xor .u32 (wI a) (wI b) = wI (a ^^^ b) := by
  unfold wI
  rw [u32_xor_nat _ _ a.isLt b.isLt, BitVec.toNat_xor]
theorem wI_and (a b : W32) : bits .and .u32 (wI a) (wI b) = wI (a &&& b) := by
  unfold wI
  rw [u32_and_nat _ _ a.isLt b.isLt, BitVec.toNat_and]
theorem wI_shr (a : W32) (k : Nat) : wI a / 2 ^ k = wI (a >>> k) := by
  unfold wI
  rw [BitVec.toNat_ushiftRight, Nat.shiftRight_eq_div_pow]
  simp
end Go.Proofs.YtmfpdchfofffeaaGreatDoor

namespace Go.Proofs.YtmfpdchfofffeaaGreatDoor
open Go.RowKit
set_option linter.unusedVariables false
set_option linter.unusedSimpArgs false
/-- The table lies where the program's text lays it. -/
abbrev Tab (w : World) : Prop := SegK .u32 4294967295 w (some ⟨0, 0, none⟩) halfL
theorem Tab.cell {w : World} (h : Tab w) (k : Nat) (hk : k < 16) : w.cell? ⟨0, k, none⟩ = some (.int .u32 (wI (onN 4 (BitVec.ofNat 32 k)))) := by
  obtain ⟨b, off, e, hc⟩ := h.at_ k hk
  cases e
  rw [Nat.zero_add] at hc
  rw [hc, ← half_tab ⟨k, hk⟩]
  rfl
theorem wI_and15 (a : W32) : bits .and .u32 (wI a) 15 = ((a.toNat % 16 : Nat) : Int) := by
  rw [show (15 : Int) = wI 15#32 from rfl, wI_and, and15]
  unfold wI
  simp
  omega
theorem wI_shr4 (a : W32) : wI a / (16 : Int) = wI (a >>> 4) := by
  have := wI_shr a 4
  simpa using this
theorem wI_byte (x : Int) (h0 : 0 ≤ x) (h1 : x ≤ 255) : wI (bW x) = x := by
  unfold wI bW
  simp
  omega

set_option maxRecDepth 100000 in
set_option maxHeartbeats 400000 in
theorem take_any (r : W32) (x : Int) (w : World) (h : Tab w) (h0 : 0 ≤ x) (h1 : x ≤ 255) : Calls Tryz.prog 71 #[.int .u32 (wI r), .int .u8 x] w fun e w' => e = .returned (.int .u32 (wI (takeW r x))) ∧ w' = w := by
  have hx : bits .xor .u32 (wI r) x = wI (r ^^^ bW x) := by
    conv => lhs; rw [← wI_byte x h0 h1]
    exact wI_xor _ _
  generalize hs : r ^^^ bW x = s at *
  have ht : takeW r x = onN 4 (onN 4 s) := by
    unfold takeW
    rw [hs, ← onN_add]
  rw [ht]
  clear ht hs
  have k1 : s.toNat % 16 < 16 := Nat.mod_lt _ (by decide)
  have k2 : (onN 4 s).toNat % 16 < 16 := Nat.mod_lt _ (by decide)
  have a1 := wI_and15 s
  have a2 := wI_and15 (onN 4 s)
  have c1 := h.cell _ k1
  have c2 := h.cell _ k2
  have s1 := wI_shr4 s
  have s2 := wI_shr4 (onN 4 s)
  have x1 : bits .xor .u32 (wI (s >>> 4)) (wI (onN 4 (BitVec.ofNat 32 (s.toNat % 16)))) = wI (onN 4 s) := by
    rw [wI_xor, ← and15, ← onN4]
  have x2 : bits .xor .u32 (wI (onN 4 s >>> 4)) (wI (onN 4 (BitVec.ofNat 32 ((onN 4 s).toNat % 16)))) = wI (onN 4 (onN 4 s)) := by
    rw [wI_xor, ← and15, ← onN4]
  generalize s.toNat % 16 = m1 at *
  generalize (onN 4 s).toNat % 16 = m2 at *
  clear h
  go_enter Tryz.func71, Tryz.ntmps71
  go_wp2
  go_ret
  exact ⟨rfl, rfl⟩
end Go.Proofs.YtmfpdchfofffeaaGreatDoor

namespace Go.Proofs.YtmfpdchfofffeaaGreatDoor
open Go.RowKit
set_option linter.unusedVariables false
set_option linter.unusedSimpArgs false
theorem u32_unsigned : IntKind.u32.signed = false := rfl
theorem wI_not (a : W32) : bits .xor .u32 IntKind.u32.max (wI a) = wI (~~~ a) := by
  rw [show IntKind.u32.max = wI (~~~ 0#32) from by decide, wI_xor]
  congr 1

theorem take_snoc {zs : List Int} {k : Nat} (hk : k < zs.length) : zs.take (k + 1) = zs.take k ++ [zs.getD k 0] := by
  rw [List.take_add_one]
  simp [List.getD, hk]

set_option maxRecDepth 100000 in
set_option maxHeartbeats 400000 in
theorem more_any (c : W32) (a : Option Addr) (zs : List Int) (cap : Nat) (w : World) (h : Tab w) (hs : Seg w a zs) (hl : zs.length ≤ 9223372036854775807) :
    Calls Tryz.prog 44 #[.int .u32 (wI c), .slice a zs.length cap] w fun e w' => e = .returned (.int .u32 (wI (~~~ (runW (~~~ c) zs)))) ∧ w' = w := by
  have hsg := u32_unsigned
  have hn := wI_not c
  go_enter Tryz.func44, Tryz.ntmps44
  go_wp2
  clear hn
  go_loopw [5, 12] (fun tr ti wr => ∃ k : Nat, k ≤ zs.length ∧ tr = .int .u32 (wI (runW (~~~ c) (zs.take k))) ∧ ti = .int .i64 k ∧ wr = w) (fun _ ti _ => zs.length - (intOf ti).toNat)
  case atStart => exact ⟨0, Nat.zero_le _, by simp [runW], rfl, rfl⟩
  case round =>
    obtain ⟨k, hk, rfl, rfl, rfl⟩ := hrel
    by_cases hlt : k < zs.length
    · have hlti : (k : Int) < (zs.length : Int) := by omega
      obtain ⟨b, off, rfl, hc⟩ := hs.at_ k hlt
      have hbd := hs.bd k
      have HT : Hid (runW (~~~ c) (zs.take (k + 1)) = takeW (runW (~~~ c) (zs.take k)) (zs.getD k 0)) := by
        show _ = _
        rw [take_snoc hlt, runW_snoc]
      generalize zs.getD k 0 = z at *
      go_wp2_with (go_at_call 71; refine (take_any _ _ _ h (by omega) (by omega)).mono ?_; rintro e w' ⟨rfl, hw'⟩; subst w')
      go_roundw
      case rel => exact ⟨k + 1, by omega, by rw [HT.out], by go_num, trivial⟩
      case measure => simp [intOf]; omega
    · obtain rfl : k = zs.length := by omega
      have e1 : zs.take zs.length = zs := List.take_of_length_le (Nat.le_refl _)
      rw [e1]
      clear hlt e1
      have hn := wI_not (runW (~~~ c) zs)
      go_wp2
      go_ret
      exact ⟨rfl, rfl⟩
end Go.Proofs.YtmfpdchfofffeaaGreatDoor

namespace Go.Proofs.YtmfpdchfofffeaaGreatDoor
open Go.RowKit
set_option linter.unusedVariables false
set_option linter.unusedSimpArgs false
/-- A part: where its bytes lie, the bytes, the capacity. -/
structure Part where
  a : Option Addr
  zs : List Int
  cap : Nat
def Part.val (p : Part) : Value := .slice p.a p.zs.length p.cap
def noPart : Part := ⟨none, [], 0⟩
/-- Parts lie where a slice's address leads, and the bytes of each where it leads. -/
structure Parts (w : World) (a : Option Addr) (ps : List Part) : Prop where
  at_ : ∀ i, i < ps.length → ∃ b off, a = some ⟨b, off, none⟩ ∧ w.cell? ⟨b, off + i, none⟩ = some (ps.getD i noPart).val
  seg : ∀ i, i < ps.length → Seg w (ps.getD i noPart).a (ps.getD i noPart).zs
  len : ∀ i, i < ps.length → (ps.getD i noPart).zs.length ≤ 9223372036854775807
def flat (ps : List Part) : List Int := (ps.map (·.zs)).flatten
theorem flat_snoc {ps : List Part} {k : Nat} (hk : k < ps.length) : flat (ps.take (k + 1)) = flat (ps.take k) ++ (ps.getD k noPart).zs := by
  unfold flat
  rw [List.take_add_one, List.map_append, List.flatten_append, List.getElem?_eq_getElem hk]
  simp only [Option.toList, List.map_cons, List.map_nil, List.flatten_cons, List.flatten_nil, List.append_nil]
  rw [List.getD, List.getElem?_eq_getElem hk]
  rfl

set_option maxRecDepth 100000 in
set_option maxHeartbeats 400000 in
theorem sum_any (a : Option Addr) (ps : List Part) (cap : Nat) (w : World) (h : Tab w) (hs : Parts w a ps) (hl : ps.length ≤ 9223372036854775807) :
    Calls Tryz.prog 28 #[.slice a ps.length cap] w fun e w' => e = .returned (.int .u32 (wI (sumW (flat ps)))) ∧ w' = w := by
  have z0 : (0 : Int) = wI (sumW (flat (ps.take 0))) := by simp [flat]; decide
  go_enter Tryz.func28, Tryz.ntmps28
  go_wp2
  go_loopw [3, 8] (fun tr ti wr => ∃ k : Nat, k ≤ ps.length ∧ tr = .int .u32 (wI (sumW (flat (ps.take k)))) ∧ ti = .int .i64 k ∧ wr = w) (fun _ ti _ => ps.length - (intOf ti).toNat)
  case atStart => exact ⟨0, Nat.zero_le _, by rw [← z0], rfl, rfl⟩
  case round =>
    clear z0
    obtain ⟨k, hk, rfl, rfl, rfl⟩ := hrel
    by_cases hlt : k < ps.length
    · have hlti : (k : Int) < (ps.length : Int) := by omega
      obtain ⟨b, off, rfl, hc⟩ := hs.at_ k hlt
      have hsg := hs.seg k hlt
      have hln := hs.len k hlt
      have HT : Hid (~~~ (runW (~~~ (sumW (flat (ps.take k)))) (ps.getD k noPart).zs) = sumW (flat (ps.take (k + 1)))) := by
        show _ = _
        rw [flat_snoc hlt]
        unfold sumW
        rw [not_not, runW_append]
      generalize ps.getD k noPart = p at *
      obtain ⟨pa, pz, pc⟩ := p
      unfold Part.val at hc
      simp only at hc hsg hln HT
      go_wp2_with (go_at_call 44; refine (more_any _ _ _ _ _ h hsg hln).mono ?_; rintro e w' ⟨rfl, hw'⟩; subst w')
      go_roundw
      case rel => exact ⟨k + 1, by omega, by rw [HT.out], by go_num, trivial⟩
      case measure => simp [intOf]; omega
    · obtain rfl : k = ps.length := by omega
      have e1 : ps.take ps.length = ps := List.take_of_length_le (Nat.le_refl _)
      rw [e1]
      clear hlt e1
      go_wp2
      go_ret
      exact ⟨rfl, rfl⟩
end Go.Proofs.YtmfpdchfofffeaaGreatDoor

namespace Go.Proofs.YtmfpdchfofffeaaGreatDoor
open Go.RowKit
set_option linter.unusedVariables false
set_option linter.unusedSimpArgs false
theorem seg_lit (w : World) (zs : List Int) (t : TypeId) (fr : Nat × Nat) (h : ∀ z ∈ zs, 0 ≤ z ∧ z ≤ 255) : Seg (w.alloc (.cells (zs.map (Value.int .u8)).toArray t fr)) (some ⟨w.heap.size, 0, none⟩) zs := by
  refine ⟨fun i hi => ⟨w.heap.size, 0, rfl, ?_⟩, by decide, getD_bd (by decide) h⟩
  have e : zs.getD i 0 = zs[i] := by simp [List.getD, hi]
  rw [e, Nat.zero_add, World.cell?_alloc_mark]
  simp [hi]
theorem parts_one (w : World) (g n : Nat) (a : Option Addr) (zs : List Int) (cap : Nat) (t : TypeId) (h : Seg w a zs) (hg : g = w.heap.size) (hn : n = zs.length) (hl : zs.length ≤ 9223372036854775807) :
    Parts (w.alloc (.cells #[.slice a n cap] t)) (some ⟨g, 0, none⟩) [⟨a, zs, cap⟩] := by
  subst hg hn
  refine ⟨fun i hi => ⟨w.heap.size, 0, rfl, ?_⟩, fun i hi => ?_, fun i hi => ?_⟩ <;> (obtain rfl : i = 0 := by simpa using hi)
  · rw [World.cell?_alloc_mark]
    rfl
  · exact h.alloc _
  · exact hl
theorem flat_one (a : Option Addr) (zs : List Int) (cap : Nat) : flat [⟨a, zs, cap⟩] = zs := by simp [flat]
theorem none_sum : wI (sumW []) = 0 := by decide +kernel

/-- The sum of one part. -/
theorem sum_one (w : World) (g n : Nat) (a : Option Addr) (zs : List Int) (cap c : Nat) (t : TypeId) (ht : Tab w) (h : Seg w a zs) (hg : g = w.heap.size) (hn : n = zs.length) (hl : zs.length ≤ 9223372036854775807) :
    Calls Tryz.prog 28 #[.slice (some ⟨g, 0, none⟩) 1 c] (w.alloc (.cells #[.slice a n cap] t)) fun e w' => e = .returned (.int .u32 (wI (sumW zs))) ∧ w' = w.alloc (.cells #[.slice a n cap] t) := by
  refine (sum_any (some ⟨g, 0, none⟩) [⟨a, zs, cap⟩] c _ (ht.alloc _) (parts_one w g n a zs cap t h hg hn hl) (by simp)).mono ?_
  rintro e w' ⟨rfl, hw'⟩
  rw [flat_one]
  exact ⟨rfl, hw'⟩
end Go.Proofs.YtmfpdchfofffeaaGreatDoor

namespace Go.Proofs.YtmfpdchfofffeaaGreatDoor
open Go.RowKit Go.Shelf
set_option linter.unusedVariables false
theorem wpList_app18 {P : Program} {ops : Array Oper} {rest : List Oper} {o : Oper} {a : Act} {Q : Exit → Act → World → Prop} {w : World} (hg : o.guard = none) (s x : Operand) (t : TypeId)
    (hop : o.op = Op.call { callee := Callee.builtin Builtin.append, args := #[s, x], argTypes := #[t, t] }) {u v v' : Value} {w' : World} (hs : a.eval s = u) (hx : a.eval x = v) (hr : (Builtin.append_ #[t, t] o.type #[u, v]).run P w = .ok v' w')
    (h : wpList P ops Q rest (a.put o.dst v') w') : wpList P ops Q (o :: rest) a w := by
  refine wpList_plain hg fun K hK' => ?_
  exact operwp_app16 s x t hop hs hx hr (hK' _ _ h)
theorem info_u64f : (Tryz.prog.info? 203).map (fun i => (i.zero, i.size, i.bytes)) = some (some (.int .u64 0), 1, 8) := by kernel_rfl
theorem info_u8g : (Tryz.prog.info? 5).map (fun i => (i.zero, i.size, i.bytes)) = some (some (.int .u8 0), 1, 1) := by kernel_rfl
theorem own_sl18 {w : World} {base n sz : Nat} {e : TypeId} {v : Value} {xs : List Value} (h : w.ownsRow base e sz v n xs) : ∃ p c, v = .slice p n c := by
  rcases h.2 with ⟨h1, h2⟩ | ⟨g, cap, cur, h1, _⟩
  · exact ⟨none, 0, by rw [h1, h2]⟩
  · exact ⟨_, _, h1⟩
/-- One number more. -/
theorem appv18 (V : World) {base : Nat} {v : Value} {n : Nat} {xs : List Value} (x : Int) (hown : V.ownsRow base 203 1 v n xs) (hn : n + 1 ≤ 17592186044416) (hbase : base ≤ V.heap.size) :
    ∃ g rc w', (Builtin.append_ #[198, 198] 198 #[v, .slice (some ⟨V.heap.size, 0, none⟩) 1 1]).run Tryz.prog (V.alloc (.cells #[.int .u64 x] 203)) = .ok (.slice (some ⟨g, 0, none⟩) (n + 1) rc) w' ∧
      w'.ownsRow base 203 1 (.slice (some ⟨g, 0, none⟩) (n + 1) rc) (n + 1) (xs ++ [.int .u64 x]) ∧ Kp (fun k => v.ownBlock = some k) V w' := by
  obtain ⟨i0, hi, hz0, hz1, hz2⟩ := info_parts info_u64f
  obtain ⟨g, rc, w', hr, h1, h2, h3, h4⟩ := run_append_lies (P := Tryz.prog) (V.alloc (.cells #[.int .u64 x] 203)) 198 198 base 203 i0 _ 1 8 Tryz.underlying198 hi hz0 hz1 hz2 rfl (by omega) v n xs (hown.alloc _) ⟨V.heap.size, 0, none⟩ 1 1 [.int .u64 x] rfl
    (World.news_of_block (heap_alloc_new V (.cells #[.int .u64 x] 203 (0, 0)))) (by intro u hu; simp at hu; rcases hu with rfl; rfl) (by omega) (by unfold maxLen; omega) (by omega) (by simp; omega) (V.heap.size + 1) (by simp)
  exact ⟨g, rc, w', hr, h1, (Kp.alloc V _).trans (Kp.grown (S := fun k => v.ownBlock = some k) h2 (fun i e => e)) (fun _ _ e => e)⟩
/-- A row of bytes behind another one. -/
theorem appe18 (V : World) {base base2 : Nat} {v v2 : Value} {n m : Nat} {xs : List Value} {ys : List Int} (hown : V.ownsRow base 5 1 v n xs) (h2 : V.ownsRow base2 5 1 v2 m (ys.map (Value.int .u8))) (hm : 0 < m) (hn : n + m ≤ 140737488355328) (hbase : base ≤ V.heap.size) :
    ∃ g rc w', (Builtin.append_ #[36, 36] 36 #[v, v2]).run Tryz.prog V = .ok (.slice (some ⟨g, 0, none⟩) (n + m) rc) w' ∧
      w'.ownsRow base 5 1 (.slice (some ⟨g, 0, none⟩) (n + m) rc) (n + m) (xs ++ ys.map (Value.int .u8)) ∧ Kp (fun k => v.ownBlock = some k) V w' := by
  obtain ⟨i0, hi, hz0, hz1, hz2⟩ := info_parts info_u8g
  rcases h2.2 with ⟨_, h0⟩ | ⟨g2, cp, cur, hv, _⟩
  · omega
  subst hv
  have hl : ys.length = m := by simpa using h2.1
  obtain ⟨g, rc, w', hr, h1, h3, _, _⟩ := run_append_lies (P := Tryz.prog) V 36 36 base 5 i0 _ 1 1 Tryz.underlying36 hi hz0 hz1 hz2 rfl (by omega) v n xs hown ⟨g2, 0, none⟩ m cp (ys.map (Value.int .u8)) (by simp [hl])
    (fun j u hu => h2.cells (g := g2) rfl j u hu) (ints_oneCell _ _) hm (by unfold maxLen; omega) (by omega) hbase V.heap.size rfl
  exact ⟨g, rc, w', hr, h1, Kp.grown (S := fun k => v.ownBlock = some k) h3 (fun i e => e)⟩
def hv18 (h : Hd18) : List Int := [h.o, h.n, h.wi, h.lo]
def RwQ18 (w : World) (L : List Int) (e : Ending) (w' : World) : Prop := ∃ p c, e = .returned (.slice p L.length c) ∧ w'.ownsRow w.heap.size 5 1 (.slice p L.length c) L.length (L.map (Value.int .u8)) ∧ Below w.heap.size w w'
set_option maxRecDepth 100000 in
set_option maxHeartbeats 8000000 in
theorem pwri18 (B hb : Nat) (h : Hd18) (w : World) (hF : Fl18 B w) (hq : w.heap[hb]? = some (.cells h.cs 51 (0, 0))) (hk : h.Ok) :
    Calls Tryz.prog 94 #[.slice (some ⟨B + 8, 0, none⟩) 4 4, .pointer (some ⟨hb, 0, none⟩)] w (RwQ18 w (encA (hv18 h))) := by
  obtain ⟨i0, hi, hz0, hz1, hz2⟩ := info_parts info_u64f
  have HF : Hid (∀ V, Below w.heap.size w V → Fl18 B V) := fun V hV => hF.old hV
  have HQ : Hid (∀ V, Below w.heap.size w V → V.heap[hb]? = some (.cells h.cs 51 (0, 0))) := fun V hV => (hV.block _ (Array.getElem?_eq_some_iff.1 hq).1).trans hq
  have HK : Hid h.Ok := hk
  clear hF hq hk
  go_enter Tryz.func94, Tryz.ntmps94
  go_wp2_with (first
    | (at_make; refine wpList_make_own _ rfl _ _ 198 rfl w.heap.size 203 i0 (.int .u64 0) 1 Tryz.underlying198 hi hz0 hz1 .i64 .i64 _ 4 rfl rfl (by omega) (by rw [hz2]; omega) (by unfold maxLen; omega) (Nat.le_refl _) ?_; intro w1 hown1 hgrow1))
  go_loopw [5, 13] (fun t5 t13 V => ∃ i : Nat, i ≤ 4 ∧ t13 = .int .i64 (i : Int) ∧ V.ownsRow w.heap.size 203 1 t5 i (((hv18 h).take i).map (Value.int .u64)) ∧ Below w.heap.size w V) (fun _ t13 _ => 4 - (intOf t13).toNat)
  case atStart => exact ⟨0, by omega, rfl, hown1, (Below.refl _ _).grown hgrow1 (Nat.le_refl _) (by intro k e; cases e)⟩
  case round =>
    obtain ⟨i, hi4, rfl, own, hB⟩ := hrel
    clear hown1 hgrow1
    have HB : Hid (Below w.heap.size w wr) := hB
    have hFl := HF.out wr hB
    clear hB
    obtain ⟨pv, cv, hv⟩ := own_sl18 own
    subst hv
    rcases (by omega : i = 0 ∨ i = 1 ∨ i = 2 ∨ i = 3 ∨ i = 4) with rfl | rfl | rfl | rfl | rfl
    · have f0 : wr.cell? ⟨B + 8, 0, none⟩ = some (.func (.func 126) #[] #[]) := cell18 hFl.fl rfl
      have f1 : wr.cell? ⟨B + 8, 1, none⟩ = some (.func (.func 167) #[] #[.pointer (some ⟨B, 0, none⟩), .pointer (some ⟨B + 1, 0, none⟩)]) := cell18 hFl.fl rfl
      obtain ⟨wB, hwB⟩ : ∃ wB, wB = wr.alloc (.cells #[.func (.func 126) #[] #[], .func (.func 167) #[] #[.pointer (some ⟨B, 0, none⟩), .pointer (some ⟨B + 1, 0, none⟩)]] 202) := ⟨_, rfl⟩
      have cB := cb16 wr #[.func (.func 126) #[] #[], .func (.func 167) #[] #[.pointer (some ⟨B, 0, none⟩), .pointer (some ⟨B + 1, 0, none⟩)]] 202
      rw [← hwB] at cB
      have BB : Below w.heap.size w wB := HB.out.trans (cB.bl.mono HB.out.size)
      have q := HQ.out wB BB
      have CA := phf18_1 hb wB ⟨_, cell18 (k := 0) q rfl⟩
      have cv' : wB.cell? ⟨hb, 0, none⟩ = some (.int .i64 h.o) := cell18 q rfl
      have hbd : 0 ≤ h.o ∧ h.o ≤ 16777216 := by
        obtain ⟨x0, x1, x2, x3⟩ := HK.out
        omega
      obtain ⟨g, rc, wE, hr, ow, k1⟩ := appv18 wB h.o (own_kp own (Kp.of_below (S := fun _ => False) cB.bl) (fun _ _ x => x)) (by omega) BB.size
      have HO : Hid (wE.ownsRow w.heap.size 203 1 (.slice (some ⟨g, 0, none⟩) (0 + 1) rc) 1 (((hv18 h).take 1).map (Value.int .u64))) := ow
      have HE : Hid (Below w.heap.size w wE) := BB.trans (k1.below (fun k x => (own.lt k x).1) BB.size)
      have HWB : Hid (wr.alloc (.cells #[.func (.func 126) #[] #[], .func (.func 167) #[] #[.pointer (some ⟨B, 0, none⟩), .pointer (some ⟨B + 1, 0, none⟩)]] 202) = wB) := hwB.symm
      clear hwB cB hFl BB q own ow k1
      generalize h.o = v at *
      have hwv : IntKind.u64.wrap v = v := IntWalk.u64_in _ (by omega)
      go_wp2_with fail
      rw [HWB.out]
      refine CA.mono ?_
      rintro e2 w2 ⟨rfl, hw2⟩
      subst w2
      go_wp2_with (first | (at_builtin; refine wpList_app18 rfl (.tmp 17) (.tmp 25) 198 rfl rfl rfl hr ?_))
      go_roundw
      case rel => exact ⟨1, by omega, rfl, HO.out, HE.out⟩
      case measure => simp [intOf]
    · have f0 : wr.cell? ⟨B + 8, 2, none⟩ = some (.func (.func 128) #[] #[]) := cell18 hFl.fl rfl
      have f1 : wr.cell? ⟨B + 8, 3, none⟩ = some (.func (.func 167) #[] #[.pointer (some ⟨B + 2, 0, none⟩), .pointer (some ⟨B + 3, 0, none⟩)]) := cell18 hFl.fl rfl
      obtain ⟨wB, hwB⟩ : ∃ wB, wB = wr.alloc (.cells #[.func (.func 128) #[] #[], .func (.func 167) #[] #[.pointer (some ⟨B + 2, 0, none⟩), .pointer (some ⟨B + 3, 0, none⟩)]] 202) := ⟨_, rfl⟩
      have cB := cb16 wr #[.func (.func 128) #[] #[], .func (.func 167) #[] #[.pointer (some ⟨B + 2, 0, none⟩), .pointer (some ⟨B + 3, 0, none⟩)]] 202
      rw [← hwB] at cB
      have BB : Below w.heap.size w wB := HB.out.trans (cB.bl.mono HB.out.size)
      have q := HQ.out wB BB
      have CA := phf18_2 hb wB ⟨_, cell18 (k := 0) q rfl⟩
      have cv' : wB.cell? ⟨hb, 1, none⟩ = some (.int .i64 h.n) := cell18 q rfl
      have hbd : 0 ≤ h.n ∧ h.n ≤ 16777216 := by
        obtain ⟨x0, x1, x2, x3⟩ := HK.out
        omega
      obtain ⟨g, rc, wE, hr, ow, k1⟩ := appv18 wB h.n (own_kp own (Kp.of_below (S := fun _ => False) cB.bl) (fun _ _ x => x)) (by omega) BB.size
      have HO : Hid (wE.ownsRow w.heap.size 203 1 (.slice (some ⟨g, 0, none⟩) (1 + 1) rc) 2 (((hv18 h).take 2).map (Value.int .u64))) := ow
      have HE : Hid (Below w.heap.size w wE) := BB.trans (k1.below (fun k x => (own.lt k x).1) BB.size)
      have HWB : Hid (wr.alloc (.cells #[.func (.func 128) #[] #[], .func (.func 167) #[] #[.pointer (some ⟨B + 2, 0, none⟩), .pointer (some ⟨B + 3, 0, none⟩)]] 202) = wB) := hwB.symm
      clear hwB cB hFl BB q own ow k1
      generalize h.n = v at *
      have hwv : IntKind.u64.wrap v = v := IntWalk.u64_in _ (by omega)
      go_wp2_with fail
      rw [HWB.out]
      refine CA.mono ?_
      rintro e2 w2 ⟨rfl, hw2⟩
      subst w2
      go_wp2_with (first | (at_builtin; refine wpList_app18 rfl (.tmp 17) (.tmp 25) 198 rfl rfl rfl hr ?_))
      go_roundw
      case rel => exact ⟨2, by omega, rfl, HO.out, HE.out⟩
      case measure => simp [intOf]
    · have f0 : wr.cell? ⟨B + 8, 4, none⟩ = some (.func (.func 129) #[] #[]) := cell18 hFl.fl rfl
      have f1 : wr.cell? ⟨B + 8, 5, none⟩ = some (.func (.func 167) #[] #[.pointer (some ⟨B + 4, 0, none⟩), .pointer (some ⟨B + 5, 0, none⟩)]) := cell18 hFl.fl rfl
      obtain ⟨wB, hwB⟩ : ∃ wB, wB = wr.alloc (.cells #[.func (.func 129) #[] #[], .func (.func 167) #[] #[.pointer (some ⟨B + 4, 0, none⟩), .pointer (some ⟨B + 5, 0, none⟩)]] 202) := ⟨_, rfl⟩
      have cB := cb16 wr #[.func (.func 129) #[] #[], .func (.func 167) #[] #[.pointer (some ⟨B + 4, 0, none⟩), .pointer (some ⟨B + 5, 0, none⟩)]] 202
      rw [← hwB] at cB
      have BB : Below w.heap.size w wB := HB.out.trans (cB.bl.mono HB.out.size)
      have q := HQ.out wB BB
      have CA := phf18_3 hb wB ⟨_, cell18 (k := 0) q rfl⟩
      have cv' : wB.cell? ⟨hb, 4, none⟩ = some (.int .i64 h.wi) := cell18 q rfl
      have hbd : 0 ≤ h.wi ∧ h.wi ≤ 16777216 := by
        obtain ⟨x0, x1, x2, x3⟩ := HK.out
        omega
      obtain ⟨g, rc, wE, hr, ow, k1⟩ := appv18 wB h.wi (own_kp own (Kp.of_below (S := fun _ => False) cB.bl) (fun _ _ x => x)) (by omega) BB.size
      have HO : Hid (wE.ownsRow w.heap.size 203 1 (.slice (some ⟨g, 0, none⟩) (2 + 1) rc) 3 (((hv18 h).take 3).map (Value.int .u64))) := ow
      have HE : Hid (Below w.heap.size w wE) := BB.trans (k1.below (fun k x => (own.lt k x).1) BB.size)
      have HWB : Hid (wr.alloc (.cells #[.func (.func 129) #[] #[], .func (.func 167) #[] #[.pointer (some ⟨B + 4, 0, none⟩), .pointer (some ⟨B + 5, 0, none⟩)]] 202) = wB) := hwB.symm
      clear hwB cB hFl BB q own ow k1
      generalize h.wi = v at *
      have hwv : IntKind.u64.wrap v = v := IntWalk.u64_in _ (by omega)
      go_wp2_with fail
      rw [HWB.out]
      refine CA.mono ?_
      rintro e2 w2 ⟨rfl, hw2⟩
      subst w2
      go_wp2_with (first | (at_builtin; refine wpList_app18 rfl (.tmp 17) (.tmp 25) 198 rfl rfl rfl hr ?_))
      go_roundw
      case rel => exact ⟨3, by omega, rfl, HO.out, HE.out⟩
      case measure => simp [intOf]
    · have f0 : wr.cell? ⟨B + 8, 6, none⟩ = some (.func (.func 130) #[] #[]) := cell18 hFl.fl rfl
      have f1 : wr.cell? ⟨B + 8, 7, none⟩ = some (.func (.func 167) #[] #[.pointer (some ⟨B + 6, 0, none⟩), .pointer (some ⟨B + 7, 0, none⟩)]) := cell18 hFl.fl rfl
      obtain ⟨wB, hwB⟩ : ∃ wB, wB = wr.alloc (.cells #[.func (.func 130) #[] #[], .func (.func 167) #[] #[.pointer (some ⟨B + 6, 0, none⟩), .pointer (some ⟨B + 7, 0, none⟩)]] 202) := ⟨_, rfl⟩
      have cB := cb16 wr #[.func (.func 130) #[] #[], .func (.func 167) #[] #[.pointer (some ⟨B + 6, 0, none⟩), .pointer (some ⟨B + 7, 0, none⟩)]] 202
      rw [← hwB] at cB
      have BB : Below w.heap.size w wB := HB.out.trans (cB.bl.mono HB.out.size)
      have q := HQ.out wB BB
      have CA := phf18_4 hb wB ⟨_, cell18 (k := 0) q rfl⟩
      have cv' : wB.cell? ⟨hb, 5, none⟩ = some (.int .i64 h.lo) := cell18 q rfl
      have hbd : 0 ≤ h.lo ∧ h.lo ≤ 16777216 := by
        obtain ⟨x0, x1, x2, x3⟩ := HK.out
        omega
      obtain ⟨g, rc, wE, hr, ow, k1⟩ := appv18 wB h.lo (own_kp own (Kp.of_below (S := fun _ => False) cB.bl) (fun _ _ x => x)) (by omega) BB.size
      have HO : Hid (wE.ownsRow w.heap.size 203 1 (.slice (some ⟨g, 0, none⟩) (3 + 1) rc) 4 (((hv18 h).take 4).map (Value.int .u64))) := ow
      have HE : Hid (Below w.heap.size w wE) := BB.trans (k1.below (fun k x => (own.lt k x).1) BB.size)
      have HWB : Hid (wr.alloc (.cells #[.func (.func 130) #[] #[], .func (.func 167) #[] #[.pointer (some ⟨B + 6, 0, none⟩), .pointer (some ⟨B + 7, 0, none⟩)]] 202) = wB) := hwB.symm
      clear hwB cB hFl BB q own ow k1
      generalize h.lo = v at *
      have hwv : IntKind.u64.wrap v = v := IntWalk.u64_in _ (by omega)
      go_wp2_with fail
      rw [HWB.out]
      refine CA.mono ?_
      rintro e2 w2 ⟨rfl, hw2⟩
      subst w2
      go_wp2_with (first | (at_builtin; refine wpList_app18 rfl (.tmp 17) (.tmp 25) 198 rfl rfl rfl hr ?_))
      go_roundw
      case rel => exact ⟨4, by omega, rfl, HO.out, HE.out⟩
      case measure => simp [intOf]
    · have hvb : ∀ z ∈ hv18 h, 0 ≤ z ∧ z ≤ 18446744073709551615 := by
        obtain ⟨x0, x1, x2, x3⟩ := HK.out
        intro z hz
        simp [hv18] at hz
        omega
      obtain ⟨-, a, c2, hv, sg, -, -, -⟩ := own_seg (zs := hv18 h) own (M := 18446744073709551615) (by decide) hvb
      injection hv with h1 h2 h3
      subst h1
      have EN := encode_any pv (hv18 h) cv wr sg (by simp [hv18])
      have EN : Hid (Calls Tryz.prog 125 #[.slice pv 4 cv] wr fun e w' => ∃ v, e = .returned v ∧ w'.ownsRow wr.heap.size 5 1 v (encA (hv18 h)).length ((encA (hv18 h)).map (Value.int .u8)) ∧ Below wr.heap.size wr w') := EN
      clear own sg hvb h3 h2
      go_wp2_with fail
      refine EN.out.mono ?_
      rintro e1 w2 ⟨v, rfl, o2, b2⟩
      obtain ⟨p2, c2', hv2⟩ := own_sl18 o2
      subst hv2
      have HQ2 : Hid (RwQ18 w (encA (hv18 h)) (.returned (.slice p2 (encA (hv18 h)).length c2')) w2) := ⟨p2, c2', rfl, own_base o2 HB.out.size, HB.out.trans (b2.mono HB.out.size)⟩
      clear o2 b2
      go_wp2_with fail
      go_ret
      exact HQ2.out
set_option maxRecDepth 100000 in
theorem pword18 (v : Int) (w : World) (h0 : 0 ≤ v) (h1 : v ≤ 4294967295) : Calls Tryz.prog 96 #[.int .u32 v] w fun e w' => e = .returned (.slice (some ⟨w.heap.size, 0, none⟩) 4 4) ∧
      w'.ownsRow w.heap.size 5 1 (.slice (some ⟨w.heap.size, 0, none⟩) 4 4) 4 ((fixL 4 v).map (Value.int .u8)) ∧ Below w.heap.size w w' := by
  have hw : IntKind.u64.wrap v = v := IntWalk.u64_in _ (by omega)
  have C := fixed_ok v 4 w (by omega) (by omega) h0 (by omega) (by show v / 4294967296 = 0; omega)
  go_enter Tryz.func96, Tryz.ntmps96
  go_wp2_with fail
  refine C.mono ?_
  rintro e w' ⟨rfl, o, b⟩
  go_wp2_with fail
  go_ret
  exact ⟨rfl, o, b⟩
/-- Bytes, and their sum behind them. -/
def sum18 (L : List Int) : List Int := L ++ fixL 4 (wI (sumW L))
theorem wI_bd18 (a : W32) : 0 ≤ wI a ∧ wI a ≤ 4294967295 := by
  have := a.isLt
  unfold wI
  omega
set_option maxRecDepth 100000 in
theorem psum18 (p : Option Addr) (c base : Nat) (L : List Int) (w : World) (ht : Tab w) (ho : w.ownsRow base 5 1 (.slice p L.length c) L.length (L.map (Value.int .u8))) (hb : ∀ z ∈ L, 0 ≤ z ∧ z ≤ 255) (hl : L.length ≤ 70368744177664) (hbs : base ≤ w.heap.size) :
    Calls Tryz.prog 65 #[.slice p L.length c] w fun e w' => ∃ q d, e = .returned (.slice q (sum18 L).length d) ∧ w'.ownsRow base 5 1 (.slice q (sum18 L).length d) (sum18 L).length ((sum18 L).map (Value.int .u8)) ∧ Below base w w' := by
  obtain ⟨-, a, c2, hv, sg, -, -, -⟩ := own_seg ho (M := 255) (by decide) hb
  injection hv with h1 h2 h3
  subst h1
  obtain ⟨wA, hwA⟩ : ∃ wA, wA = w.alloc (.cells #[.slice p L.length c] 36) := ⟨_, rfl⟩
  have SM := sum_one w w.heap.size L.length p L c 1 36 ht sg rfl rfl (by omega)
  have cA := cb16 w #[.slice p L.length c] 36
  rw [← hwA] at SM cA
  have WD := pword18 (wI (sumW L)) wA (wI_bd18 _).1 (wI_bd18 _).2
  have HO : Hid (∀ V, Below wA.heap.size wA V → V.ownsRow base 5 1 (.slice p L.length c) L.length (L.map (Value.int .u8))) := fun V hV => own_below ho (cA.bl.trans (hV.mono cA.bl.size))
  have HS : Hid ((sum18 L).length = L.length + 4 ∧ (sum18 L).map (Value.int .u8) = L.map (Value.int .u8) ++ (fixL 4 (wI (sumW L))).map (Value.int .u8)) := ⟨by unfold sum18; rw [List.length_append, fixL_len], by unfold sum18; rw [List.map_append]⟩
  have HA : Hid (Below base w wA) := cA.bl.mono hbs
  have HZ : Hid (base ≤ wA.heap.size) := by
    show _ ≤ _
    rw [cA.sz]; omega
  have HLT : Hid (∀ k, (Value.slice p L.length c).ownBlock = some k → base ≤ k) := fun k x => (ho.lt k x).1
  have HWA : Hid (w.alloc (.cells #[.slice p L.length c] 36) = wA) := hwA.symm
  generalize wI (sumW L) = sv at *
  clear hwA cA ho sg h2 h3 hb ht
  have HLL : Hid (L.length ≤ 70368744177664) := hl
  clear hl
  go_enter Tryz.func65, Tryz.ntmps65
  go_wp2_with fail
  rw [HWA.out]
  refine SM.mono ?_
  rintro e1 w1 ⟨rfl, hw1⟩
  subst w1
  clear SM
  go_wp2_with fail
  refine WD.mono ?_
  rintro e2 w2 ⟨rfl, o2, b2⟩
  obtain ⟨g, rc, wE, hr, ow, k1⟩ := appe18 w2 (HO.out w2 b2) o2 (by omega) (by have := HLL.out; omega) (Nat.le_trans HZ.out b2.size)
  have HE : Hid (Below base w wE) := (HA.out.trans (b2.mono HZ.out)).trans (k1.below (fun k x => HLT.out k x) (Nat.le_trans HZ.out b2.size))
  have HOW : Hid (wE.ownsRow base 5 1 (.slice (some ⟨g, 0, none⟩) (sum18 L).length rc) (sum18 L).length ((sum18 L).map (Value.int .u8))) := by
    show World.ownsRow _ _ _ _ _ _ _
    rw [HS.out.2, HS.out.1]; exact ow
  rw [← HS.out.1] at hr
  clear WD o2 b2 ow k1 HLL
  obtain ⟨sl, hsl⟩ : ∃ sl, sl = (sum18 L).length := ⟨_, rfl⟩
  have HSL : Hid (sl = (sum18 L).length) := hsl
  rw [← hsl] at hr
  clear hsl
  go_wp2_with (first | (at_builtin; refine wpList_app18 rfl (.tmp 3) (.tmp 7) 36 rfl rfl rfl hr ?_))
  go_ret
  exact ⟨some ⟨g, 0, none⟩, rc, by rw [← HSL.out]; rfl, HOW.out, HE.out⟩
end Go.Proofs.YtmfpdchfofffeaaGreatDoor

namespace Go.Proofs.YtmfpdchfofffeaaGreatDoor
open Go.RowKit Go.Shelf
set_option linter.unusedVariables false
def mag18 : List Int := [83, 65, 80, 82, 1]
def hd18 (h : Hd18) : List Int := ((mag18 ++ encA (hv18 h)) ++ fixL 4 h.so) ++ fixL 4 h.sn
open Classical in
noncomputable def hh18 (h : Hd18) : List Int := if h.Ok then sum18 (hd18 h) else []
open Classical in
noncomputable def he18 (h : Hd18) : Int := if h.Ok then 0 else 180
theorem hv18_bd {h : Hd18} (hk : h.Ok) : ∀ z ∈ hv18 h, 0 ≤ z ∧ z ≤ 18446744073709551615 := by
  obtain ⟨x0, x1, x2, x3⟩ := hk
  intro z hz
  simp [hv18] at hz
  omega
theorem hd18_bd {h : Hd18} (hk : h.Ok) : ∀ z ∈ hd18 h, 0 ≤ z ∧ z ≤ 255 := by
  intro z hz
  unfold hd18 at hz
  rcases List.mem_append.1 hz with hz | hz
  · rcases List.mem_append.1 hz with hz | hz
    · rcases List.mem_append.1 hz with hz | hz
      · simp [mag18] at hz; omega
      · exact encA_bd _ (hv18_bd hk) z hz
    · exact fixL_bd _ _ z hz
  · exact fixL_bd _ _ z hz
theorem sum18_bd {L : List Int} (hb : ∀ z ∈ L, 0 ≤ z ∧ z ≤ 255) : ∀ z ∈ sum18 L, 0 ≤ z ∧ z ≤ 255 := by
  intro z hz
  rcases List.mem_append.1 hz with hz | hz
  · exact hb z hz
  · exact fixL_bd _ _ z hz
theorem encA_hv18 (h : Hd18) : 4 ≤ (encA (hv18 h)).length ∧ (encA (hv18 h)).length ≤ 40 := by
  have := encA_len (hv18 h)
  simp only [hv18, List.length_cons, List.length_nil] at this
  exact ⟨this.1, this.2⟩
theorem hd18_len (h : Hd18) : (hd18 h).length = 13 + (encA (hv18 h)).length := by
  unfold hd18
  simp only [List.length_append, fixL_len, mag18, List.length_cons, List.length_nil]
  omega
def HdQ18 (w : World) (L : List Int) (er : Int) (e : Ending) (w' : World) : Prop := ∃ p c, e = .returned (.tuple #[.slice p L.length c, .int .i64 er]) ∧ w'.ownsRow w.heap.size 5 1 (.slice p L.length c) L.length (L.map (Value.int .u8)) ∧ Below w.heap.size w w'
/-- Bytes behind the magic. -/
theorem appm18 (V : World) {g base2 m : Nat} {v2 : Value} {ys : List Int} (hs : Seg V (some ⟨g, 0, none⟩) mag18) (h2 : V.ownsRow base2 5 1 v2 m (ys.map (Value.int .u8))) (hm : 0 < m) (hn : m ≤ 100000) :
    ∃ p c w', (Builtin.append_ #[36, 36] 36 #[.slice (some ⟨g, 0, none⟩) 5 5, v2]).run Tryz.prog V = .ok (.slice p (5 + m) c) w' ∧ w'.ownsRow V.heap.size 5 1 (.slice p (5 + m) c) (5 + m) ((mag18 ++ ys).map (Value.int .u8)) ∧ Below V.heap.size V w' := by
  obtain ⟨i0, hi, hz0, hz1, hz2⟩ := info_parts info_u8g
  rcases h2.2 with ⟨_, h0⟩ | ⟨g2, cp, cur, hv, _⟩
  · omega
  subst hv
  have hl : ys.length = m := by simpa using h2.1
  obtain ⟨v', w', hr, ho, hg⟩ := run_append_arg_grows (P := Tryz.prog) (w := V) 36 36 5 i0 _ 1 1 Tryz.underlying36 hi hz0 hz1 hz2 rfl (by omega) ⟨g, 0, none⟩ 5 5 (mag18.map (Value.int .u8)) rfl
    (fun j u hu => by
      obtain ⟨b, off, e, hc⟩ := hs.at_ j (by have := (List.getElem?_eq_some_iff.1 hu).1; simpa using this)
      cases e
      have e2 : (⟨g, 0, none⟩ : Addr).add j = ⟨g, 0 + j, none⟩ := by unfold Addr.add; split <;> simp_all
      rw [e2, hc]
      rw [List.getElem?_map] at hu
      obtain ⟨y, hy, rfl⟩ := Option.map_eq_some_iff.1 hu
      simp [List.getD, hy])
    ⟨g2, 0, none⟩ m cp (ys.map (Value.int .u8)) (by simp [hl]) (fun j u hu => h2.cells (g := g2) rfl j u hu) (by omega) (by unfold maxLen; omega) (by omega)
  obtain ⟨p, c, rfl⟩ := own_sl18 ho
  refine ⟨p, c, w', hr, by rw [List.map_append]; exact ho, ?_⟩
  exact (Below.refl _ _).grown hg (Nat.le_refl _) (by intro k e; cases e)
theorem mag18_seg (w : World) : Seg (w.alloc (.cells #[.int .u8 83, .int .u8 65, .int .u8 80, .int .u8 82, .int .u8 1] 5 (5, 6))) (some ⟨w.heap.size, 0, none⟩) mag18 :=
  seg_lit w mag18 5 (5, 6) (by decide)
/-- Bytes behind others, by their lists. -/
theorem appL18 (V : World) {base base2 m c : Nat} {p : Option Addr} {v2 : Value} {L M N : List Int} (hN : N = L ++ M) (ho : V.ownsRow base 5 1 (.slice p L.length c) L.length (L.map (Value.int .u8))) (h2 : V.ownsRow base2 5 1 v2 m (M.map (Value.int .u8))) (hm : 0 < m) (hl : L.length + m ≤ 140737488355328) (hb : base ≤ V.heap.size) :
    ∃ g rc w', (Builtin.append_ #[36, 36] 36 #[.slice p L.length c, v2]).run Tryz.prog V = .ok (.slice (some ⟨g, 0, none⟩) N.length rc) w' ∧ w'.ownsRow base 5 1 (.slice (some ⟨g, 0, none⟩) N.length rc) N.length (N.map (Value.int .u8)) ∧ Below base V w' := by
  obtain ⟨g, rc, w', hr, ow, k1⟩ := appe18 V ho h2 hm hl hb
  have hM : M.length = m := by simpa using h2.1
  subst hN
  rw [List.length_append, hM, List.map_append]
  exact ⟨g, rc, w', hr, ow, k1.below (fun k x => (ho.lt k x).1) hb⟩
set_option maxRecDepth 100000 in
set_option maxHeartbeats 8000000 in
theorem phead18_ok (h : Hd18) (w : World) (ht : Tab w) (hk : h.Ok) (hso : 0 ≤ h.so ∧ h.so ≤ 4294967295) (hsn : 0 ≤ h.sn ∧ h.sn ≤ 4294967295) :
    Calls Tryz.prog 62 #[.agg #[.int .i64 h.o, .int .i64 h.n, .int .u32 h.so, .int .u32 h.sn, .int .i64 h.wi, .int .i64 h.lo]] w (HdQ18 w (sum18 (hd18 h)) 0) := by
  have cA := cb16 w h.cs 51
  obtain ⟨wA, hwA⟩ : ∃ wA, wA = w.alloc (.cells h.cs 51) := ⟨_, rfl⟩
  rw [← hwA] at cA
  obtain ⟨b4, hb4⟩ : ∃ b4, b4 = w.heap.size := ⟨_, rfl⟩
  have HWA : Hid (w.alloc (.cells #[.int .i64 h.o, .int .i64 h.n, .int .u32 h.so, .int .u32 h.sn, .int .i64 h.wi, .int .i64 h.lo] 51) = wA) := hwA.symm
  have HB4 : Hid (w.heap.size = b4) := hb4.symm
  have q : wA.heap[b4]? = some (.cells h.cs 51 (0, 0)) := by rw [hb4]; exact cA.cl
  have HQ : Hid (∀ V, Below wA.heap.size wA V → V.heap[b4]? = some (.cells h.cs 51 (0, 0))) := fun V hV => (hV.block _ (Array.getElem?_eq_some_iff.1 q).1).trans q
  have HC : Hid (∀ V, Below wA.heap.size wA V → V.cell? ⟨b4, 2, none⟩ = some (.int .u32 h.so) ∧ V.cell? ⟨b4, 3, none⟩ = some (.int .u32 h.sn)) := fun V hV => ⟨cell18 (HQ.out V hV) rfl, cell18 (HQ.out V hV) rfl⟩
  have HA : Hid (Below w.heap.size w wA) := cA.bl
  have HT : Hid (∀ V, Below wA.heap.size wA V → Tab V) := fun V hV => (ht.old cA.bl).old hV
  have CK := pchk18 h wA
  rw [if_pos hk] at CK
  have l0 : wA.cell? ⟨b4, 0, none⟩ = some (.int .i64 h.o) := cell18 q rfl
  have HK : Hid h.Ok := hk
  have HLE := encA_hv18 h
  have HLE : Hid (4 ≤ (encA (hv18 h)).length ∧ (encA (hv18 h)).length ≤ 40) := HLE
  have HSO : Hid ((0 ≤ h.so ∧ h.so ≤ 4294967295) ∧ (0 ≤ h.sn ∧ h.sn ≤ 4294967295)) := ⟨hso, hsn⟩
  have l1 : wA.cell? ⟨b4, 1, none⟩ = some (.int .i64 h.n) := cell18 q rfl
  have l2 : wA.cell? ⟨b4, 2, none⟩ = some (.int .u32 h.so) := cell18 q rfl
  have l3 : wA.cell? ⟨b4, 3, none⟩ = some (.int .u32 h.sn) := cell18 q rfl
  have l4 : wA.cell? ⟨b4, 4, none⟩ = some (.int .i64 h.wi) := cell18 q rfl
  have l5 : wA.cell? ⟨b4, 5, none⟩ = some (.int .i64 h.lo) := cell18 q rfl
  rw [hwA] at l0 l1 l2 l3 l4 l5
  rw [hb4] at l0 l1 l2 l3 l4 l5
  clear hwA hb4 cA q ht hk hso hsn
  go_enter Tryz.func62, Tryz.ntmps62
  go_wp2_with fail
  rw [HWA.out, HB4.out]
  clear l0 l1 l2 l3 l4 l5
  refine CK.mono ?_
  rintro e1 w1 ⟨rfl, b1⟩
  have HB1 : Hid (Below wA.heap.size wA w1) := b1
  clear b1 CK
  have hcv := Lib.run_convert_bytes_const (P := Tryz.prog) w1 36 5 #[.int .u8 83, .int .u8 65, .int .u8 80, .int .u8 82, .int .u8 1] 5 5 Tryz.underlying36 Tryz.underlying5
  have hsM := mag18_seg w1
  obtain ⟨wM, hwM⟩ : ∃ wM, wM = w1.alloc (.cells #[.int .u8 83, .int .u8 65, .int .u8 80, .int .u8 82, .int .u8 1] 5 (5, 6)) := ⟨_, rfl⟩
  have bM : Below w1.heap.size w1 wM := by rw [hwM]; exact (Below.refl _ _).alloc (Nat.le_refl _) _
  rw [← hwM] at hsM
  have HWM : Hid (w1.alloc (.cells #[.int .u8 83, .int .u8 65, .int .u8 80, .int .u8 82, .int .u8 1] 5 (5, 6)) = wM) := hwM.symm
  obtain ⟨gM, hgM⟩ : ∃ gM, gM = w1.heap.size := ⟨_, rfl⟩
  have HGM : Hid (w1.heap.size = gM) := hgM.symm
  rw [← hgM] at hsM
  have HBM : Hid (Below wA.heap.size wA wM) := HB1.out.trans (bM.mono HB1.out.size)
  have HSM : Hid (Seg wM (some ⟨gM, 0, none⟩) mag18) := hsM
  clear bM hwM hsM hgM
  obtain ⟨L1, hL1⟩ : ∃ L1, L1 = mag18 ++ encA (hv18 h) := ⟨_, rfl⟩
  obtain ⟨L2, hL2⟩ : ∃ L2, L2 = L1 ++ fixL 4 h.so := ⟨_, rfl⟩
  obtain ⟨L3, hL3⟩ : ∃ L3, L3 = L2 ++ fixL 4 h.sn := ⟨_, rfl⟩
  have HL3 : Hid (hd18 h = L3) := by rw [hL3, hL2, hL1]; rfl
  have HL1 : Hid (L1 = mag18 ++ encA (hv18 h) ∧ L1.length = 5 + (encA (hv18 h)).length) := ⟨hL1, by rw [hL1, List.length_append]; rfl⟩
  have HL2 : Hid (L2 = L1 ++ fixL 4 h.so ∧ L2.length = L1.length + 4) := ⟨hL2, by rw [hL2, List.length_append, fixL_len]⟩
  have HL3' : Hid (L3 = L2 ++ fixL 4 h.sn ∧ L3.length = L2.length + 4) := ⟨hL3, by rw [hL3, List.length_append, fixL_len]⟩
  have HBD : Hid (∀ z ∈ L3, 0 ≤ z ∧ z ≤ 255) := by rw [← HL3.out]; exact hd18_bd HK.out
  clear hL1 hL2 hL3
  go_wp2_with fail
  rw [HWM.out, HGM.out]
  clear hcv
  refine (phf18 wM).mono ?_
  rintro e2 w2 ⟨rfl, hF, b2⟩
  have HB2 : Hid (Below wA.heap.size wA w2) := HBM.out.trans (b2.mono HBM.out.size)
  have WR := pwri18 wM.heap.size b4 h w2 hF (HQ.out w2 HB2.out) HK.out
  have HS2 : Hid (Seg w2 (some ⟨gM, 0, none⟩) mag18) := HSM.out.old b2
  clear b2 hF
  go_wp2_with fail
  refine WR.mono ?_
  rintro e3 w3 ⟨p3, c3, rfl, o3, b3⟩
  have HB3 : Hid (Below wA.heap.size wA w3) := HB2.out.trans (b3.mono HB2.out.size)
  obtain ⟨p4, c4, w4, hr4, o4, b4'⟩ := appm18 w3 (HS2.out.old b3) o3 (by have := HLE.out; omega) (by have := HLE.out; omega)
  rw [← HL1.out.1, ← HL1.out.2] at o4
  rw [← HL1.out.2] at hr4
  have HB4' : Hid (Below wA.heap.size wA w4) := HB3.out.trans (b4'.mono HB3.out.size)
  have H34 : Hid (Below w3.heap.size w3 w4) := b4'
  obtain ⟨x2, x3⟩ := HC.out w4 HB4'.out
  have WD := pword18 h.so w4 HSO.out.1.1 HSO.out.1.2
  have HO4 : Hid (w4.ownsRow w3.heap.size 5 1 (.slice p4 L1.length c4) L1.length (L1.map (Value.int .u8))) := o4
  clear o3 b3 o4 b4' WR
  generalize (encA (hv18 h)).length = lE at *
  go_wp2_with (first | (at_builtin; refine wpList_app18 rfl (.tmp 12) (.tmp 14) 36 rfl rfl rfl hr4 ?_))
  refine WD.mono ?_
  rintro e5 w5 ⟨rfl, o5, b5⟩
  have H35 : Hid (Below w3.heap.size w3 w5) := H34.out.trans (b5.mono H34.out.size)
  obtain ⟨g6, c6, w6, hr6, o6, b6⟩ := appL18 w5 HL2.out.1 (own_below HO4.out b5) o5 (by omega) (by have := HL1.out.2; have := HLE.out; omega) H35.out.size
  have H36 : Hid (Below w3.heap.size w3 w6) := H35.out.trans b6
  have HB6 : Hid (Below wA.heap.size wA w6) := HB3.out.trans (H36.out.mono HB3.out.size)
  have WD2 := pword18 h.sn w6 HSO.out.2.1 HSO.out.2.2
  have HO6 : Hid (w6.ownsRow w3.heap.size 5 1 (.slice (some ⟨g6, 0, none⟩) L2.length c6) L2.length (L2.map (Value.int .u8))) := o6
  clear x2 x3 WD o5 b5 o6 b6 hr4
  obtain ⟨x2, x3⟩ := HC.out w6 HB6.out
  go_wp2_with (first | (at_builtin; refine wpList_app18 rfl (.tmp 16) (.tmp 19) 36 rfl rfl rfl hr6 ?_))
  refine WD2.mono ?_
  rintro e7 w7 ⟨rfl, o7, b7⟩
  have H37 : Hid (Below w3.heap.size w3 w7) := H36.out.trans (b7.mono H36.out.size)
  obtain ⟨g8, c8, w8, hr8, o8, b8⟩ := appL18 w7 HL3'.out.1 (own_below HO6.out b7) o7 (by omega) (by have := HL1.out.2; have := HL2.out.2; have := HLE.out; omega) H37.out.size
  have H38 : Hid (Below w3.heap.size w3 w8) := H37.out.trans b8
  have HB8 : Hid (Below wA.heap.size wA w8) := HB3.out.trans (H38.out.mono HB3.out.size)
  have SU := psum18 (some ⟨g8, 0, none⟩) c8 w3.heap.size L3 w8 (HT.out w8 HB8.out) o8 HBD.out (by have := HL1.out.2; have := HL2.out.2; have := HL3'.out.2; have := HLE.out; omega) H38.out.size
  clear x2 x3 WD2 o7 b7 o8 b8 hr6
  go_wp2_with (first | (at_builtin; refine wpList_app18 rfl (.tmp 21) (.tmp 24) 36 rfl rfl rfl hr8 ?_))
  refine SU.mono ?_
  rintro e9 w9 ⟨p9, c9, rfl, o9, b9⟩
  have H39 : Below w3.heap.size w3 w9 := H38.out.trans b9
  have HB9 : Below wA.heap.size wA w9 := HB3.out.trans (H39.mono HB3.out.size)
  have HQQ : Hid (HdQ18 w (sum18 L3) 0 (.returned (.tuple #[.slice p9 (sum18 L3).length c9, .int .i64 0])) w9) := ⟨p9, c9, rfl, own_base o9 (Nat.le_trans HA.out.size HB3.out.size), HA.out.trans (HB9.mono HA.out.size)⟩
  clear SU o9 b9 H39 HB9
  go_wp2_with fail
  go_ret2
  rw [HL3.out]
  exact HQQ.out
set_option maxRecDepth 100000 in
theorem phead18_no (h : Hd18) (w : World) (hk : ¬ h.Ok) :
    Calls Tryz.prog 62 #[.agg #[.int .i64 h.o, .int .i64 h.n, .int .u32 h.so, .int .u32 h.sn, .int .i64 h.wi, .int .i64 h.lo]] w (HdQ18 w [] 180) := by
  have cA := cb16 w h.cs 51
  obtain ⟨wA, hwA⟩ : ∃ wA, wA = w.alloc (.cells h.cs 51) := ⟨_, rfl⟩
  rw [← hwA] at cA
  obtain ⟨b4, hb4⟩ : ∃ b4, b4 = w.heap.size := ⟨_, rfl⟩
  have HWA : Hid (w.alloc (.cells #[.int .i64 h.o, .int .i64 h.n, .int .u32 h.so, .int .u32 h.sn, .int .i64 h.wi, .int .i64 h.lo] 51) = wA) := hwA.symm
  have HB4 : Hid (w.heap.size = b4) := hb4.symm
  have q : wA.heap[b4]? = some (.cells h.cs 51 (0, 0)) := by rw [hb4]; exact cA.cl
  have HA : Hid (Below w.heap.size w wA) := cA.bl
  have CK := pchk18 h wA
  rw [if_neg hk] at CK
  have l0 : wA.cell? ⟨b4, 0, none⟩ = some (.int .i64 h.o) := cell18 q rfl
  have l1 : wA.cell? ⟨b4, 1, none⟩ = some (.int .i64 h.n) := cell18 q rfl
  have l2 : wA.cell? ⟨b4, 2, none⟩ = some (.int .u32 h.so) := cell18 q rfl
  have l3 : wA.cell? ⟨b4, 3, none⟩ = some (.int .u32 h.sn) := cell18 q rfl
  have l4 : wA.cell? ⟨b4, 4, none⟩ = some (.int .i64 h.wi) := cell18 q rfl
  have l5 : wA.cell? ⟨b4, 5, none⟩ = some (.int .i64 h.lo) := cell18 q rfl
  rw [hwA] at l0 l1 l2 l3 l4 l5
  rw [hb4] at l0 l1 l2 l3 l4 l5
  clear hwA hb4 cA q hk
  go_enter Tryz.func62, Tryz.ntmps62
  go_wp2_with fail
  rw [HWA.out, HB4.out]
  refine CK.mono ?_
  rintro e1 w1 ⟨rfl, b1⟩
  have HQQ : Hid (HdQ18 w [] 180 (.returned (.tuple #[.slice none 0 0, .int .i64 180])) w1) := ⟨none, 0, rfl, ⟨rfl, .inl ⟨rfl, rfl⟩⟩, HA.out.trans (b1.mono HA.out.size)⟩
  clear b1 CK
  go_wp2_with fail
  go_ret2
  exact HQQ.out
/-- HEAD. -/
theorem phead18 (h : Hd18) (w : World) (ht : Tab w) (hso : 0 ≤ h.so ∧ h.so ≤ 4294967295) (hsn : 0 ≤ h.sn ∧ h.sn ≤ 4294967295) :
    Calls Tryz.prog 62 #[.agg #[.int .i64 h.o, .int .i64 h.n, .int .u32 h.so, .int .u32 h.sn, .int .i64 h.wi, .int .i64 h.lo]] w (HdQ18 w (hh18 h) (he18 h)) := by
  unfold hh18 he18
  by_cases hk : h.Ok
  · rw [if_pos hk, if_pos hk]; exact phead18_ok h w ht hk hso hsn
  · rw [if_neg hk, if_neg hk]; exact phead18_no h w hk
end Go.Proofs.YtmfpdchfofffeaaGreatDoor

namespace Go.Proofs.YtmfpdchfofffeaaGreatDoor
open Go.RowKit Go.Shelf
set_option linter.unusedVariables false
structure Bx18 (w : World) (h : Hd18) (wA : World) (b4 : Nat) : Prop where
  wa : w.alloc (.cells #[.int .i64 h.o, .int .i64 h.n, .int .u32 h.so, .int .u32 h.sn, .int .i64 h.wi, .int .i64 h.lo] 51) = wA
  b : w.heap.size = b4
  q : wA.heap[b4]? = some (.cells h.cs 51 (0, 0))
  bl : Below w.heap.size w wA
  sz : wA.heap.size = w.heap.size + 1
theorem bx18 (w : World) (h : Hd18) : ∃ wA b4, Bx18 w h wA b4 := by
  have cA := cb16 w h.cs 51
  exact ⟨_, _, rfl, rfl, cA.cl, cA.bl, cA.sz⟩
structure Cl18 (V : World) (b4 : Nat) (h : Hd18) : Prop where
  c0 : V.cell? ⟨b4, 0, none⟩ = some (.int .i64 h.o)
  c1 : V.cell? ⟨b4, 1, none⟩ = some (.int .i64 h.n)
  c2 : V.cell? ⟨b4, 2, none⟩ = some (.int .u32 h.so)
  c3 : V.cell? ⟨b4, 3, none⟩ = some (.int .u32 h.sn)
  c4 : V.cell? ⟨b4, 4, none⟩ = some (.int .i64 h.wi)
  c5 : V.cell? ⟨b4, 5, none⟩ = some (.int .i64 h.lo)
theorem cl18 {V : World} {b4 : Nat} {h : Hd18} (q : V.heap[b4]? = some (.cells h.cs 51 (0, 0))) : Cl18 V b4 h := ⟨cell18 q rfl, cell18 q rfl, cell18 q rfl, cell18 q rfl, cell18 q rfl, cell18 q rfl⟩
theorem Bx18.cl {w wA : World} {h : Hd18} {b4 : Nat} (x : Bx18 w h wA b4) {V : World} (hV : Below wA.heap.size wA V) : Cl18 V b4 h := cl18 ((hV.block _ (Array.getElem?_eq_some_iff.1 x.q).1).trans x.q)
open Classical in
noncomputable def win18 (h : Hd18) : Int := if h.Ok then (h.n + h.wi - 1) / h.wi else 0
set_option maxRecDepth 100000 in
theorem pwin18 (h : Hd18) (w : World) : Calls Tryz.prog 68 #[.agg #[.int .i64 h.o, .int .i64 h.n, .int .u32 h.so, .int .u32 h.sn, .int .i64 h.wi, .int .i64 h.lo]] w fun e w' => e = .returned (.int .i64 (win18 h)) ∧ Below w.heap.size w w' := by
  obtain ⟨wA, b4, X⟩ := bx18 w h
  have HX : Hid (Bx18 w h wA b4) := X
  have CK := pchk18 h wA
  obtain ⟨a0, a1, a2, a3, a4, a5⟩ := X.cl (Below.refl _ _)
  rw [← X.wa] at a0 a1 a2 a3 a4 a5
  rw [← X.b] at a0 a1 a2 a3 a4 a5
  unfold win18
  by_cases hk : h.Ok
  · rw [if_pos hk]
    rw [if_pos hk] at CK
    obtain ⟨x0, x1, x2, x3⟩ := hk
    have HCL : Hid (∀ V, Below wA.heap.size wA V → Cl18 V b4 h) := fun V hV => X.cl hV
    clear X
    have hw1 : IntKind.i64.wrap (h.n + h.wi) = h.n + h.wi := IntWalk.i64_in _ (by omega)
    have hw2 : IntKind.i64.wrap (h.n + h.wi - 1) = h.n + h.wi - 1 := IntWalk.i64_in _ (by omega)
    have hne : ¬ h.wi = 0 := by omega
    have hne2 : (h.wi == 0) = false := by simp [hne]
    have hd0 : 0 ≤ h.n + h.wi - 1 := by omega
    have hdv : Int.tdiv (h.n + h.wi - 1) h.wi = (h.n + h.wi - 1) / h.wi := by rw [Int.tdiv_eq_ediv_of_nonneg hd0]
    have hq : IntKind.i64.wrap ((h.n + h.wi - 1) / h.wi) = (h.n + h.wi - 1) / h.wi := IntWalk.i64_in _ (by
      have := Int.ediv_nonneg hd0 (show 0 ≤ h.wi by omega)
      have := Int.ediv_le_self (a := h.n + h.wi - 1) h.wi hd0
      omega)
    clear x0 x1 x2 x3
    go_enter Tryz.func68, Tryz.ntmps68
    go_wp2_with fail
    rw [HX.out.wa, HX.out.b]
    refine CK.mono ?_
    rintro e1 w1 ⟨rfl, b1⟩
    clear a0 a1 a2 a3 a4 a5
    obtain ⟨a0, a1, a2, a3, a4, a5⟩ := HCL.out w1 b1
    go_wp2_with fail
    go_ret
    exact ⟨rfl, HX.out.bl.trans (b1.mono HX.out.bl.size)⟩
  · rw [if_neg hk]
    rw [if_neg hk] at CK
    clear X hk
    go_enter Tryz.func68, Tryz.ntmps68
    go_wp2_with fail
    rw [HX.out.wa, HX.out.b]
    refine CK.mono ?_
    rintro e1 w1 ⟨rfl, b1⟩
    go_wp2_with fail
    go_ret
    exact ⟨rfl, HX.out.bl.trans (b1.mono HX.out.bl.size)⟩
end Go.Proofs.YtmfpdchfofffeaaGreatDoor

namespace Go.Proofs.YtmfpdchfofffeaaGreatDoor
set_option linter.unusedVariables false
structure Tok7 where
  lit : Int
  len : Int
  dist : Int
def may7 (t : Tok7) : Prop := if t.len = 0 then t.dist = 0 else 3 ≤ t.len ∧ t.len ≤ 258 ∧ 1 ≤ t.dist ∧ t.dist ≤ 32768 ∧ t.lit = 0
instance (t : Tok7) : Decidable (may7 t) := by unfold may7; infer_instance
def wid7 (t : Tok7) : Nat := if may7 t then (if t.len = 0 then 1 else t.len.toNat) else 0
def siz7 : List Tok7 → Nat
  | [] => 0
  | t :: r => wid7 t + siz7 r
def far7 (win : Int) (tot : Nat) (t : Tok7) : Prop := 0 < t.len ∧ (win < t.dist ∨ (tot : Int) < t.dist)
instance (win : Int) (tot : Nat) (t : Tok7) : Decidable (far7 win tot t) := by unfold far7; infer_instance
/-- The tokens are in order, where tot bytes stand ahead. -/
def ok7 (win : Int) : List Tok7 → Nat → Prop
  | [], _ => True
  | t :: r, tot => may7 t ∧ ¬ far7 win tot t ∧ ok7 win r (tot + wid7 t)
/-- n bytes, each the one that stands d ahead. -/
def cp7 (b : List Int) (d : Nat) : Nat → List Int
  | 0 => b
  | n + 1 => cp7 b d n ++ [(cp7 b d n).getD ((cp7 b d n).length - d) 0]
def tok7 (b : List Int) (t : Tok7) : List Int := if t.len = 0 then b ++ [t.lit] else cp7 b t.dist.toNat t.len.toNat
def exp7 (b : List Int) : List Tok7 → List Int
  | [] => b
  | t :: r => exp7 (tok7 b t) r
end Go.Proofs.YtmfpdchfofffeaaGreatDoor
