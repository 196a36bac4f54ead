import Derived.Test.YtjoghmdjnkdokaaDoorPg
import Derived.Test.YtjoghmdjnkdokaaDoorProg
import Derived.WalkKit
import Derived.WalkSpells
import Derived.WalkLawsBesides
import Derived.Test.YtjoghmdjnkdokaaDoorPa
import Derived.Lib.SmallJoins
import Derived.Test.YtjoghmdjnkdokaaDoorPe
namespace Go.Proofs.YtjoghmdjnkdokaaDoor
open Go.RowKit
set_option linter.unusedVariables false
set_option linter.unusedSimpArgs false

/-! The product of two words' polynomials. -/
def oneW : W32 := 2147483648#32
def actN (a : W32) : Nat → W32 → W32
  | 0, _ => 0#32
  | i + 1, b => actN a i b ^^^ (if a.getLsbD (31 - i) then onN i b else 0#32)
def act (a b : W32) : W32 := actN a 32 b

theorem xor4 (a b c d : W32) : (a ^^^ b) ^^^ (c ^^^ d) = (a ^^^ c) ^^^ (b ^^^ d) := by
  simp only [BitVec.xor_assoc, bxor_left_comm]
theorem actN_xor (a : W32) (i : Nat) (b c : W32) : actN a i (b ^^^ c) = actN a i b ^^^ actN a i c := by
  induction i with
  | zero => simp [actN]
  | succ i ih =>
    simp only [actN, ih, onN_xor]
    split
    · rw [xor4]
    · simp
theorem actN_zero (a : W32) (i : Nat) : actN a i 0#32 = 0#32 := by
  induction i with
  | zero => rfl
  | succ i ih => simp only [actN, ih, onN_zero]; split <;> simp
theorem actN_on (a : W32) (i : Nat) (b : W32) : actN a i (on b) = on (actN a i b) := by
  induction i with
  | zero => simp [actN, on_zero]
  | succ i ih =>
    have e : onN i (on b) = on (onN i b) := onN_comm i 1 b
    simp only [actN, ih, on_xor, e]
    split
    · rfl
    · rw [on_zero]
theorem actN_onN (a : W32) (i k : Nat) (b : W32) : actN a i (onN k b) = onN k (actN a i b) := by
  induction k with
  | zero => rfl
  | succ k ih => simp only [onN, actN_on, ih]
theorem actN_comm (a b : W32) (m n : Nat) (c : W32) : actN a m (actN b n c) = actN b n (actN a m c) := by
  induction m with
  | zero => simp only [actN, actN_zero]
  | succ m ih =>
    simp only [actN, actN_xor, ih]
    split
    · rw [actN_onN]
    · rw [actN_zero]
theorem onN_one : ∀ i : Fin 32, onN i.val oneW = BitVec.twoPow 32 (31 - i.val) := by decide +kernel
theorem actN_one (a : W32) (n : Nat) (hn : n ≤ 32) (j : Nat) (hj : j < 32) : (actN a n oneW).getLsbD j = (decide (31 - j < n) && a.getLsbD j) := by
  induction n with
  | zero => simp [actN]
  | succ n ih =>
    have e := onN_one ⟨n, by omega⟩
    simp only at e
    simp only [actN, BitVec.getLsbD_xor, ih (by omega), e]
    by_cases h : j = 31 - n
    · subst h
      have h1 : ¬ (31 - (31 - n) < n) := by omega
      have h2 : 31 - (31 - n) < n + 1 := by omega
      cases ha : a.getLsbD (31 - n)
      · simp
      · simp only [h1, h2, decide_true, decide_false, Bool.false_and, Bool.true_and, if_true, BitVec.getLsbD_twoPow, hj]
        rfl
    · have h1 : decide (31 - j < n + 1) = decide (31 - j < n) := by simp only [decide_eq_decide]; omega
      rw [h1]
      split
      · rw [BitVec.getLsbD_twoPow]
        have : decide (31 - n = j) = false := by simp; omega
        rw [this]
        simp
      · simp
theorem act_one (a : W32) : act a oneW = a := by
  apply BitVec.eq_of_getLsbD_eq
  intro j hj
  rw [act, actN_one a 32 (by decide) j hj]
  have : 31 - j < 32 := by omega
  simp only [this, decide_true, Bool.true_and]
theorem act_comm (a b : W32) : act a b = act b a := by
  conv => lhs; rw [← act_one b]
  conv => rhs; rw [← act_one a]
  exact actN_comm _ _ _ _ _
theorem act_pow (a : W32) (k : Nat) : act a (onN k oneW) = onN k a := by
  rw [act, actN_onN]
  exact congrArg _ (act_one a)
theorem act_pow' (k : Nat) (b : W32) : act (onN k oneW) b = onN k b := by
  rw [act_comm, act_pow]

/-! The register's way over bytes. -/
def bW (x : Int) : W32 := BitVec.ofNat 32 x.toNat
def takeW (r : W32) (x : Int) : W32 := onN 8 (r ^^^ bW x)
def runW : W32 → List Int → W32
  | r, [] => r
  | r, x :: l => runW (takeW r x) l
theorem runW_append (r : W32) (l m : List Int) : runW r (l ++ m) = runW (runW r l) m := by
  induction l generalizing r with
  | nil => rfl
  | cons x l ih => exact ih _
theorem runW_snoc (r : W32) (l : List Int) (x : Int) : runW r (l ++ [x]) = takeW (runW r l) x := by rw [runW_append]; rfl
theorem runW_xor (r s : W32) (l : List Int) : runW (r ^^^ s) l = onN (8 * l.length) r ^^^ runW s l := by
  induction l generalizing r s with
  | nil => rfl
  | cons x l ih =>
    have e : takeW (r ^^^ s) x = onN 8 r ^^^ takeW s x := by
      unfold takeW
      rw [← onN_xor, BitVec.xor_assoc]
    show runW (takeW (r ^^^ s) x) l = _
    rw [e, ih, ← onN_add]
    show _ = _ ^^^ runW (takeW s x) l
    congr 2
theorem runW_lin (r : W32) (l : List Int) : runW r l = onN (8 * l.length) r ^^^ runW 0#32 l := by
  have := runW_xor r 0#32 l
  rwa [BitVec.xor_zero] at this
theorem runW_zeros (r : W32) (n : Nat) : runW r (List.replicate n 0) = onN (8 * n) r := by
  induction n generalizing r with
  | zero => rfl
  | succ n ih =>
    have e : takeW r 0 = onN 8 r := by
      unfold takeW bW
      simp
    rw [List.replicate_succ]
    show runW (takeW r 0) _ = _
    rw [e, ih, ← onN_add]
    congr 1
/-- The sum of bytes. -/
def sumW (l : List Int) : W32 := ~~~ (runW (~~~ 0#32) l)
theorem not_not (a : W32) : ~~~ (~~~ a) = a := BitVec.not_not
theorem sumW_append (l m : List Int) : sumW (l ++ m) = onN (8 * m.length) (sumW l) ^^^ sumW m := by
  unfold sumW
  rw [runW_append]
  generalize hr : runW (~~~ 0#32) l = r
  have e : r = (~~~ r) ^^^ (~~~ 0#32) := by
    apply BitVec.eq_of_getLsbD_eq
    intro i hi
    simp only [BitVec.getLsbD_xor, BitVec.getLsbD_not, hi, decide_true, Bool.true_and, BitVec.getLsbD_zero]
    cases r.getLsbD i <;> rfl
  conv => lhs; rw [e]
  rw [runW_xor]
  apply BitVec.eq_of_getLsbD_eq
  intro i hi
  simp [-BitVec.getLsbD_eq_getElem, hi]
end Go.Proofs.YtjoghmdjnkdokaaDoor

namespace Go.Proofs.YtjoghmdjnkdokaaDoor
open Go.RowKit
set_option linter.unusedVariables false
set_option linter.unusedSimpArgs false

/-- A word as the model's number. -/
def wI (a : W32) : Int := (a.toNat : Int)
theorem wI_bd (a : W32) : 0 ≤ wI a ∧ wI a < 4294967296 := by
  have := a.isLt
  unfold wI
  omega
theorem wI_of {x : Int} (h0 : 0 ≤ x) (h1 : x < 4294967296) : ∃ a : W32, x = wI a := by
  refine ⟨BitVec.ofNat 32 x.toNat, ?_⟩
  unfold wI
  simp
  omega
theorem wI_inj {a b : W32} (h : wI a = wI b) : a = b := by
  apply BitVec.eq_of_toNat_eq
  unfold wI at h
  omega
theorem wI_xor (a b : W32) : bits .xor .u32 (wI a) (wI b) = wI (a ^^^ b) := by
  unfold wI
  rw [u32_xor_nat _ _ a.isLt b.isLt, BitVec.toNat_xor]
theorem wI_and (a b : W32) : bits .and .u32 (wI a) (wI b) = wI (a &&& b) := by
  unfold wI
  rw [u32_and_nat _ _ a.isLt b.isLt, BitVec.toNat_and]
theorem wI_or (a b : W32) : bits .or .u32 (wI a) (wI b) = wI (a ||| b) := by
  unfold wI
  rw [u32_or_nat _ _ a.isLt b.isLt, BitVec.toNat_or]
theorem wI_shr (a : W32) (k : Nat) : wI a / 2 ^ k = wI (a >>> k) := by
  unfold wI
  rw [BitVec.toNat_ushiftRight, Nat.shiftRight_eq_div_pow]
  simp
theorem wI_zero : wI 0#32 = 0 := rfl
theorem wI_lsb (a : W32) : a.getLsbD 0 = decide (wI a % 2 = 1) := by
  unfold wI
  rw [BitVec.getLsbD, Nat.testBit_zero]
  simp only [decide_eq_decide]
  omega
theorem ret_u32 {a b : Int} (h : a = b) : Ending.returned (.int .u32 a) = .returned (.int .u32 b) := by rw [h]

theorem wI_ne (a : W32) : (wI a != 0) = (a != 0#32) := by
  rw [Bool.eq_iff_iff, bne_iff_ne, bne_iff_ne]
  constructor
  · intro h e; apply h; rw [e]; rfl
  · intro h e; exact h (wI_inj (e.trans wI_zero.symm))
theorem and_two (a : W32) (k : Nat) (hk : k < 32) : (a &&& BitVec.twoPow 32 k != 0#32) = a.getLsbD k := by
  rw [BitVec.and_twoPow]
  cases h : a.getLsbD k
  · simp
  · simp only [if_true]
    rw [bne_iff_ne]
    intro e
    have := congrArg (·.getLsbD k) e
    simp [BitVec.getLsbD_twoPow, hk] at this
theorem wI_bit (a : W32) (k : Nat) (hk : k < 32) : (bits .and .u32 (wI a) (wI (BitVec.twoPow 32 k)) != 0) = a.getLsbD k := by
  rw [wI_and, wI_ne, and_two a k hk]
theorem wI_half (a : W32) : wI a / (2 : Int) = wI (a >>> 1) := by
  have := wI_shr a 1
  simpa using this
theorem on_pos (a : W32) (h : a.getLsbD 0 = true) : bits .xor .u32 (wI a / 2) 3988292384 = wI (on a) := by
  rw [wI_half, show (3988292384 : Int) = wI genW from rfl, wI_xor]
  unfold on
  rw [h, if_pos rfl]
theorem on_neg (a : W32) (h : a.getLsbD 0 = false) : wI a / 2 = wI (on a) := by
  rw [wI_half]
  unfold on
  rw [h]
  simp

theorem one_shr : ∀ i : Fin 33, oneW >>> i.val = if i.val < 32 then BitVec.twoPow 32 (31 - i.val) else 0#32 := by decide +kernel
theorem actN_next (a b : W32) (i : Nat) : actN a (i + 1) b = actN a i b ^^^ (if a.getLsbD (31 - i) then onN i b else 0#32) := rfl

end Go.Proofs.YtjoghmdjnkdokaaDoor

namespace Go.Proofs.YtjoghmdjnkdokaaDoor
open Go.RowKit
set_option linter.unusedVariables false
set_option linter.unusedSimpArgs false

/-- The table lies where the program's text lays it. -/
abbrev Tab (w : World) : Prop := SegK .u32 4294967295 w (some ⟨1, 0, none⟩) halfL
theorem Tab.cell {w : World} (h : Tab w) (k : Nat) (hk : k < 16) : w.cell? ⟨1, k, none⟩ = some (.int .u32 (wI (onN 4 (BitVec.ofNat 32 k)))) := by
  obtain ⟨b, off, e, hc⟩ := h.at_ k hk
  cases e
  rw [Nat.zero_add] at hc
  rw [hc, ← half_tab ⟨k, hk⟩]
  rfl
theorem wI_and15 (a : W32) : bits .and .u32 (wI a) 15 = ((a.toNat % 16 : Nat) : Int) := by
  rw [show (15 : Int) = wI 15#32 from rfl, wI_and, and15]
  unfold wI
  simp
  omega
theorem wI_shr4 (a : W32) : wI a / (16 : Int) = wI (a >>> 4) := by
  have := wI_shr a 4
  simpa using this
theorem wI_byte (x : Int) (h0 : 0 ≤ x) (h1 : x ≤ 255) : wI (bW x) = x := by
  unfold wI bW
  simp
  omega

set_option maxRecDepth 100000 in
set_option maxHeartbeats 400000 in
theorem take_any (r : W32) (x : Int) (w : World) (h : Tab w) (h0 : 0 ≤ x) (h1 : x ≤ 255) : Calls Tryd.prog 87 #[.int .u32 (wI r), .int .u8 x] w fun e w' => e = .returned (.int .u32 (wI (takeW r x))) ∧ w' = w := by
  have hx : bits .xor .u32 (wI r) x = wI (r ^^^ bW x) := by
    conv => lhs; rw [← wI_byte x h0 h1]
    exact wI_xor _ _
  generalize hs : r ^^^ bW x = s at *
  have ht : takeW r x = onN 4 (onN 4 s) := by
    unfold takeW
    rw [hs, ← onN_add]
  rw [ht]
  clear ht hs
  have k1 : s.toNat % 16 < 16 := Nat.mod_lt _ (by decide)
  have k2 : (onN 4 s).toNat % 16 < 16 := Nat.mod_lt _ (by decide)
  have a1 := wI_and15 s
  have a2 := wI_and15 (onN 4 s)
  have c1 := h.cell _ k1
  have c2 := h.cell _ k2
  have s1 := wI_shr4 s
  have s2 := wI_shr4 (onN 4 s)
  have x1 : bits .xor .u32 (wI (s >>> 4)) (wI (onN 4 (BitVec.ofNat 32 (s.toNat % 16)))) = wI (onN 4 s) := by
    rw [wI_xor, ← and15, ← onN4]
  have x2 : bits .xor .u32 (wI (onN 4 s >>> 4)) (wI (onN 4 (BitVec.ofNat 32 ((onN 4 s).toNat % 16)))) = wI (onN 4 (onN 4 s)) := by
    rw [wI_xor, ← and15, ← onN4]
  generalize s.toNat % 16 = m1 at *
  generalize (onN 4 s).toNat % 16 = m2 at *
  clear h
  go_enter Tryd.func87, Tryd.ntmps87
  go_wp2
  go_ret
  exact ⟨rfl, rfl⟩
end Go.Proofs.YtjoghmdjnkdokaaDoor

namespace Go.Proofs.YtjoghmdjnkdokaaDoor
open Go.RowKit
set_option linter.unusedVariables false
set_option linter.unusedSimpArgs false

theorem u32_unsigned : IntKind.u32.signed = false := rfl
theorem wI_not (a : W32) : bits .xor .u32 IntKind.u32.max (wI a) = wI (~~~ a) := by
  rw [show IntKind.u32.max = wI (~~~ 0#32) from by decide, wI_xor]
  congr 1

theorem take_snoc {zs : List Int} {k : Nat} (hk : k < zs.length) : zs.take (k + 1) = zs.take k ++ [zs.getD k 0] := by
  rw [List.take_add_one]
  simp [List.getD, hk]

set_option maxRecDepth 100000 in
set_option maxHeartbeats 400000 in
theorem more_any (c : W32) (a : Option Addr) (zs : List Int) (cap : Nat) (w : World) (h : Tab w) (hs : Seg w a zs) (hl : zs.length ≤ 9223372036854775807) :
    Calls Tryd.prog 81 #[.int .u32 (wI c), .slice a zs.length cap] w fun e w' => e = .returned (.int .u32 (wI (~~~ (runW (~~~ c) zs)))) ∧ w' = w := by
  have hsg := u32_unsigned
  have hn := wI_not c
  go_enter Tryd.func81, Tryd.ntmps81
  go_wp2
  clear hn
  go_loopw [5, 12] (fun tr ti wr => ∃ k : Nat, k ≤ zs.length ∧ tr = .int .u32 (wI (runW (~~~ c) (zs.take k))) ∧ ti = .int .i64 k ∧ wr = w) (fun _ ti _ => zs.length - (intOf ti).toNat)
  case atStart => exact ⟨0, Nat.zero_le _, by simp [runW], rfl, rfl⟩
  case round =>
    obtain ⟨k, hk, rfl, rfl, rfl⟩ := hrel
    by_cases hlt : k < zs.length
    · have hlti : (k : Int) < (zs.length : Int) := by omega
      obtain ⟨b, off, rfl, hc⟩ := hs.at_ k hlt
      have hbd := hs.bd k
      have HT : Hid (runW (~~~ c) (zs.take (k + 1)) = takeW (runW (~~~ c) (zs.take k)) (zs.getD k 0)) := by
        show _ = _
        rw [take_snoc hlt, runW_snoc]
      generalize zs.getD k 0 = z at *
      go_wp2_with (go_at_call 87; refine (take_any _ _ _ h (by omega) (by omega)).mono ?_; rintro e w' ⟨rfl, hw'⟩; subst w')
      go_roundw
      case rel => exact ⟨k + 1, by omega, by rw [HT.out], by go_num, trivial⟩
      case measure => simp [intOf]; omega
    · obtain rfl : k = zs.length := by omega
      have e1 : zs.take zs.length = zs := List.take_of_length_le (Nat.le_refl _)
      rw [e1]
      clear hlt e1
      have hn := wI_not (runW (~~~ c) zs)
      go_wp2
      go_ret
      exact ⟨rfl, rfl⟩
end Go.Proofs.YtjoghmdjnkdokaaDoor

namespace Go.Proofs.YtjoghmdjnkdokaaDoor
open Go.RowKit
set_option linter.unusedVariables false
set_option linter.unusedSimpArgs false

/-- A part: where its bytes lie, the bytes, the capacity. -/
structure Part where
  a : Option Addr
  zs : List Int
  cap : Nat
def Part.val (p : Part) : Value := .slice p.a p.zs.length p.cap
def noPart : Part := ⟨none, [], 0⟩
/-- Parts lie where a slice's address leads, and the bytes of each where it leads. -/
structure Parts (w : World) (a : Option Addr) (ps : List Part) : Prop where
  at_ : ∀ i, i < ps.length → ∃ b off, a = some ⟨b, off, none⟩ ∧ w.cell? ⟨b, off + i, none⟩ = some (ps.getD i noPart).val
  seg : ∀ i, i < ps.length → Seg w (ps.getD i noPart).a (ps.getD i noPart).zs
  len : ∀ i, i < ps.length → (ps.getD i noPart).zs.length ≤ 9223372036854775807
def flat (ps : List Part) : List Int := (ps.map (·.zs)).flatten
theorem flat_snoc {ps : List Part} {k : Nat} (hk : k < ps.length) : flat (ps.take (k + 1)) = flat (ps.take k) ++ (ps.getD k noPart).zs := by
  unfold flat
  rw [List.take_add_one, List.map_append, List.flatten_append, List.getElem?_eq_getElem hk]
  simp only [Option.toList, List.map_cons, List.map_nil, List.flatten_cons, List.flatten_nil, List.append_nil]
  rw [List.getD, List.getElem?_eq_getElem hk]
  rfl

set_option maxRecDepth 100000 in
set_option maxHeartbeats 400000 in
theorem sum_any (a : Option Addr) (ps : List Part) (cap : Nat) (w : World) (h : Tab w) (hs : Parts w a ps) (hl : ps.length ≤ 9223372036854775807) :
    Calls Tryd.prog 68 #[.slice a ps.length cap] w fun e w' => e = .returned (.int .u32 (wI (sumW (flat ps)))) ∧ w' = w := by
  have z0 : (0 : Int) = wI (sumW (flat (ps.take 0))) := by simp [flat]; decide
  go_enter Tryd.func68, Tryd.ntmps68
  go_wp2
  go_loopw [3, 8] (fun tr ti wr => ∃ k : Nat, k ≤ ps.length ∧ tr = .int .u32 (wI (sumW (flat (ps.take k)))) ∧ ti = .int .i64 k ∧ wr = w) (fun _ ti _ => ps.length - (intOf ti).toNat)
  case atStart => exact ⟨0, Nat.zero_le _, by rw [← z0], rfl, rfl⟩
  case round =>
    clear z0
    obtain ⟨k, hk, rfl, rfl, rfl⟩ := hrel
    by_cases hlt : k < ps.length
    · have hlti : (k : Int) < (ps.length : Int) := by omega
      obtain ⟨b, off, rfl, hc⟩ := hs.at_ k hlt
      have hsg := hs.seg k hlt
      have hln := hs.len k hlt
      have HT : Hid (~~~ (runW (~~~ (sumW (flat (ps.take k)))) (ps.getD k noPart).zs) = sumW (flat (ps.take (k + 1)))) := by
        show _ = _
        rw [flat_snoc hlt]
        unfold sumW
        rw [not_not, runW_append]
      generalize ps.getD k noPart = p at *
      obtain ⟨pa, pz, pc⟩ := p
      unfold Part.val at hc
      simp only at hc hsg hln HT
      go_wp2_with (go_at_call 81; refine (more_any _ _ _ _ _ h hsg hln).mono ?_; rintro e w' ⟨rfl, hw'⟩; subst w')
      go_roundw
      case rel => exact ⟨k + 1, by omega, by rw [HT.out], by go_num, trivial⟩
      case measure => simp [intOf]; omega
    · obtain rfl : k = ps.length := by omega
      have e1 : ps.take ps.length = ps := List.take_of_length_le (Nat.le_refl _)
      rw [e1]
      clear hlt e1
      go_wp2
      go_ret
      exact ⟨rfl, rfl⟩
end Go.Proofs.YtjoghmdjnkdokaaDoor

namespace Go.Proofs.YtjoghmdjnkdokaaDoor
open Go.RowKit
set_option linter.unusedVariables false
set_option linter.unusedSimpArgs false

theorem seg_lit (w : World) (zs : List Int) (t : TypeId) (fr : Nat × Nat) (h : ∀ z ∈ zs, 0 ≤ z ∧ z ≤ 255) : Seg (w.alloc (.cells (zs.map (Value.int .u8)).toArray t fr)) (some ⟨w.heap.size, 0, none⟩) zs := by
  refine ⟨fun i hi => ⟨w.heap.size, 0, rfl, ?_⟩, by decide, getD_bd (by decide) h⟩
  have e : zs.getD i 0 = zs[i] := by simp [List.getD, hi]
  rw [e, Nat.zero_add, World.cell?_alloc_mark]
  simp [hi]
theorem parts_nil (w : World) (a : Option Addr) : Parts w a [] := ⟨fun i h => by simp at h, fun i h => by simp at h, fun i h => by simp at h⟩
theorem parts_one (w : World) (g n : Nat) (a : Option Addr) (zs : List Int) (cap : Nat) (t : TypeId) (h : Seg w a zs) (hg : g = w.heap.size) (hn : n = zs.length) (hl : zs.length ≤ 9223372036854775807) :
    Parts (w.alloc (.cells #[.slice a n cap] t)) (some ⟨g, 0, none⟩) [⟨a, zs, cap⟩] := by
  subst hg hn
  refine ⟨fun i hi => ⟨w.heap.size, 0, rfl, ?_⟩, fun i hi => ?_, fun i hi => ?_⟩ <;> (obtain rfl : i = 0 := by simpa using hi)
  · rw [World.cell?_alloc_mark]
    rfl
  · exact h.alloc _
  · exact hl
theorem flat_one (a : Option Addr) (zs : List Int) (cap : Nat) : flat [⟨a, zs, cap⟩] = zs := by simp [flat]
def nine : List Int := [49, 50, 51, 52, 53, 54, 55, 56, 57]
theorem nine_sum : wI (sumW nine) = 3421780262 := by decide +kernel
theorem none_sum : wI (sumW []) = 0 := by decide +kernel

/-- The sum of one part. -/
theorem sum_one (w : World) (g n : Nat) (a : Option Addr) (zs : List Int) (cap c : Nat) (t : TypeId) (ht : Tab w) (h : Seg w a zs) (hg : g = w.heap.size) (hn : n = zs.length) (hl : zs.length ≤ 9223372036854775807) :
    Calls Tryd.prog 68 #[.slice (some ⟨g, 0, none⟩) 1 c] (w.alloc (.cells #[.slice a n cap] t)) fun e w' => e = .returned (.int .u32 (wI (sumW zs))) ∧ w' = w.alloc (.cells #[.slice a n cap] t) := by
  refine (sum_any (some ⟨g, 0, none⟩) [⟨a, zs, cap⟩] c _ (ht.alloc _) (parts_one w g n a zs cap t h hg hn hl) (by simp)).mono ?_
  rintro e w' ⟨rfl, hw'⟩
  rw [flat_one]
  exact ⟨rfl, hw'⟩
theorem balloc {w w' : World} (h : Below w.heap.size w w') (o : Obj) : Below w.heap.size w (w'.alloc o) := h.alloc h.size o
theorem nine_bd : ∀ z ∈ nine, 0 ≤ z ∧ z ≤ 255 := by decide
end Go.Proofs.YtjoghmdjnkdokaaDoor

namespace Go.Proofs.YtjoghmdjnkdokaaDoor
open Go.RowKit Go.Shelf
set_option linter.unusedVariables false
set_option linter.unusedSimpArgs false

/-! The landed flash's Save: bytes behind bytes; sumOf. -/
theorem own_sl21 {w : World} {base n sz : Nat} {e : TypeId} {v : Value} {xs : List Value} (h : w.ownsRow base e sz v n xs) : ∃ p c, v = .slice p n c := by
  rcases h.2 with ⟨h1, h2⟩ | ⟨g, cap, cur, h1, _⟩
  · exact ⟨none, 0, by rw [h1, h2]⟩
  · exact ⟨_, _, h1⟩
theorem own_below21 {w w' : World} {base n sz : Nat} {e : TypeId} {v : Value} {xs : List Value} (h : w.ownsRow base e sz v n xs) (hb : Below w.heap.size w w') : w'.ownsRow base e sz v n xs := by
  refine ⟨h.1, ?_⟩
  rcases h.2 with q | ⟨g, cap, cur, q1, q2, q3, q4⟩
  · exact .inl q
  · exact .inr ⟨g, cap, cur, q1, q2, (hb.block g (Array.getElem?_eq_some_iff.1 q3).1).trans q3, q4⟩
theorem own_base21 {w : World} {base base' n sz : Nat} {e : TypeId} {v : Value} {xs : List Value} (h : w.ownsRow base e sz v n xs) (hb : base' ≤ base) : w.ownsRow base' e sz v n xs := by
  refine ⟨h.1, ?_⟩
  rcases h.2 with q | ⟨g, cap, cur, q1, q2, q3⟩
  · exact .inl q
  · exact .inr ⟨g, cap, cur, q1, Nat.le_trans hb q2, q3⟩
theorem own_kp21 {w w' : World} {base n sz : Nat} {e : TypeId} {v : Value} {xs : List Value} (h : w.ownsRow base e sz v n xs) (hk : ∀ k, v.ownBlock = some k → w'.heap[k]? = w.heap[k]?) : w'.ownsRow base e sz v n xs := by
  refine ⟨h.1, ?_⟩
  rcases h.2 with q | ⟨g, cap, cur, q1, q2, q3, q4⟩
  · exact .inl q
  · exact .inr ⟨g, cap, cur, q1, q2, (hk g (by rw [q1]; rfl)).trans q3, q4⟩
/-- A row of bytes behind another one; where they come from is all the same. -/
theorem app21g (V : World) {base m c c2 : Nat} {p : Option Addr} {p2 : Option Addr} {L M N : List Int} (hN : N = L ++ M) (ho : V.ownsRow base 5 1 (.slice p L.length c) L.length (L.map (Value.int .u8))) (h2 : Seg V p2 M) (hm : M.length = m) (hp : 0 < m) (hl : L.length + m ≤ 140737488355328) (hb : base ≤ V.heap.size) :
    ∃ g rc w', (Builtin.append_ #[22, 22] 22 #[.slice p L.length c, .slice p2 m c2]).run Tryd.prog V = .ok (.slice (some ⟨g, 0, none⟩) N.length rc) w' ∧ w'.ownsRow base 5 1 (.slice (some ⟨g, 0, none⟩) N.length rc) N.length (N.map (Value.int .u8)) ∧ Below base V w' ∧ Kp (fun k => (Value.slice p L.length c).ownBlock = some k) V w' ∧ ((Value.slice p L.length c).ownBlock = some g ∨ V.heap.size ≤ g) := by
  obtain ⟨i0, hi, hz0, hz1, hz2⟩ := info_parts info_y21
  subst hm
  obtain ⟨sg, soff, rfl, _⟩ := h2.at_ 0 (by omega)
  obtain ⟨g, rc, w', hr, h1, h3, h4, _⟩ := run_append_lies (P := Tryd.prog) V 22 22 base 5 i0 _ 1 1 Tryd.underlying22 hi hz0 hz1 hz2 rfl (by omega) _ _ _ ho ⟨sg, soff, none⟩ M.length c2 (M.map (Value.int .u8)) (by simp)
    (seg_cells h2) (ints_oneCell _ _) hp (by unfold maxLen; omega) (by omega) hb V.heap.size rfl
  have k1 := Kp.grown (S := fun k => (Value.slice p L.length c).ownBlock = some k) h3 (fun i e => e)
  subst hN
  rw [List.length_append, List.map_append]
  exact ⟨g, rc, w', hr, h1, k1.below (fun k x => (ho.lt k x).1) hb, k1, h4.imp_right (fun e => Nat.le_of_eq e.symm)⟩
theorem app21 (V : World) {base m c c2 : Nat} {p : Option Addr} {p2 : Option Addr} {L M N : List Int} (hN : N = L ++ M) (ho : V.ownsRow base 5 1 (.slice p L.length c) L.length (L.map (Value.int .u8))) (h2 : Seg V p2 M) (hm : M.length = m) (hp : 0 < m) (hl : L.length + m ≤ 140737488355328) (hb : base ≤ V.heap.size) :
    ∃ g rc w', (Builtin.append_ #[22, 22] 22 #[.slice p L.length c, .slice p2 m c2]).run Tryd.prog V = .ok (.slice (some ⟨g, 0, none⟩) N.length rc) w' ∧ w'.ownsRow base 5 1 (.slice (some ⟨g, 0, none⟩) N.length rc) N.length (N.map (Value.int .u8)) ∧ Below base V w' ∧ Kp (fun k => (Value.slice p L.length c).ownBlock = some k) V w' := by
  obtain ⟨g, rc, w', h1, h2, h3, h4, _⟩ := app21g V (c2 := c2) hN ho h2 hm hp hl hb
  exact ⟨g, rc, w', h1, h2, h3, h4⟩
theorem wpList_app21 {P : Program} {ops : Array Oper} {rest : List Oper} {o : Oper} {a : Act} {Q : Exit → Act → World → Prop} {w : World} (hgd : o.guard = none) (s x : Operand) (t : TypeId)
    (ho : o.op = Op.call { callee := Callee.builtin Builtin.append, args := #[s, x], argTypes := #[t, t] }) {u v v' : Value} {w' : World} (hs : a.eval s = u) (hx : a.eval x = v) (hr : (Builtin.append_ #[t, t] o.type #[u, v]).run P w = .ok v' w')
    (h : wpList P ops Q rest (a.put o.dst v') w') : wpList P ops Q (o :: rest) a w := by
  subst hs hx
  refine wpList_plain hgd fun K hK => ?_
  unfold Oper.wp execOp
  simp only [ho, resolve, invoke, builtin, Sem.run_bind, Sem.run_pure, Result.andThen_ok, List.map_toArray, List.map_cons, List.map_nil, hr]
  exact hK _ _ h
def sm21 (L : List Int) : List Int := fixL 4 (wI (sumW L))
theorem wI_bd21 (a : W32) : 0 ≤ wI a ∧ wI a ≤ 4294967295 := by
  have := a.isLt
  unfold wI
  omega
theorem sm21_len (L : List Int) : (sm21 L).length = 4 := fixL_len _ _
theorem sm21_bd (L : List Int) : ∀ z ∈ sm21 L, 0 ≤ z ∧ z ≤ 255 := fixL_bd _ _
/-- Four bytes of a row of their own. -/
def Sm21 (w : World) (L : List Int) (e : Ending) (w' : World) : Prop := ∃ g, e = .returned (.slice (some ⟨g, 0, none⟩) 4 4) ∧ w'.ownsRow w.heap.size 5 1 (.slice (some ⟨g, 0, none⟩) 4 4) 4 (L.map (Value.int .u8)) ∧ Seg w' (some ⟨g, 0, none⟩) L ∧ Below w.heap.size w w'
set_option maxRecDepth 100000 in
set_option maxHeartbeats 2000000 in
theorem psumof21 (a : Option Addr) (zs : List Int) (n cap : Nat) (w : World) (ht : Tab w) (hs : Seg w a zs) (hn : Hid (zs.length = n)) (hl : n ≤ 140737488355328) :
    Calls Tryd.prog 46 #[.slice a n cap] w fun e w' => Sm21 w (sm21 zs) e w' := by
  have e0 := hn.out
  subst e0
  obtain ⟨wA, hwA⟩ : ∃ wA, wA = w.alloc (.cells #[.slice a zs.length cap] 22) := ⟨_, rfl⟩
  have SM := sum_one w w.heap.size zs.length a zs cap 1 22 ht hs rfl rfl (by omega)
  have bA : Below w.heap.size w wA := by rw [hwA]; exact (Below.refl _ _).alloc (Nat.le_refl _) _
  rw [← hwA] at SM
  have HWA : Hid (w.alloc (.cells #[.slice a zs.length cap] 22) = wA) := hwA.symm
  have HBA : Hid (Below w.heap.size w wA) := bA
  have b0 := wI_bd21 (sumW zs)
  have HC : Hid (∀ v : Int, v = wI (sumW zs) → Calls Tryd.prog 67 #[.int .u64 v, .int .i64 4] wA fun e w' => e = .returned (.tuple #[.slice (some ⟨wA.heap.size, 0, none⟩) 4 4, .int .i64 0]) ∧
      w'.ownsRow wA.heap.size 5 1 (.slice (some ⟨wA.heap.size, 0, none⟩) 4 4) 4 ((fixL 4 v).map (Value.int .u8)) ∧ Below wA.heap.size wA w') := fun v hv => fixed_ok v 4 wA (by omega) (by omega) (by omega) (by omega) (by show v / 4294967296 = 0; omega)
  have HM : Hid (sm21 zs = fixL 4 (wI (sumW zs))) := rfl
  rw [HM.out]
  have hw : IntKind.u64.wrap (wI (sumW zs)) = wI (sumW zs) := IntWalk.u64_in _ (by omega)
  generalize hv : wI (sumW zs) = sv at *
  have C := HC.out sv rfl
  clear hwA ht hs hn hl b0 bA HM HC hv
  go_enter Tryd.func46, Tryd.ntmps46
  go_wp2_with fail
  rw [HWA.out]
  refine SM.mono ?_
  rintro e1 w1 ⟨rfl, hw1⟩
  subst w1
  clear SM
  go_wp2_with fail
  refine C.mono ?_
  rintro e2 w2 ⟨rfl, o2, b2⟩
  have HO : Hid (w2.ownsRow wA.heap.size 5 1 (.slice (some ⟨wA.heap.size, 0, none⟩) 4 4) 4 ((fixL 4 sv).map (Value.int .u8)) ∧ Below wA.heap.size wA w2) := ⟨o2, b2⟩
  clear o2 b2 C
  go_wp2_with fail
  go_ret
  obtain ⟨-, a', c', hv, sg, -⟩ := own_seg (M := 255) HO.out.1 (by decide) (fixL_bd _ _)
  injection hv with h1 h2 h3
  subst h1
  exact ⟨wA.heap.size, rfl, own_base21 HO.out.1 HBA.out.size, sg, HBA.out.trans (HO.out.2.mono HBA.out.size)⟩
end Go.Proofs.YtjoghmdjnkdokaaDoor

namespace Go.Proofs.YtjoghmdjnkdokaaDoor
open Go.RowKit Go.Shelf
set_option linter.unusedVariables false
set_option linter.unusedSimpArgs false

/-! The landed flash: Cut, Log. -/
section
variable {w w' : World} {b m c tc lc : Nat} {f : Int → Int → Option Value} {ta la : Option Addr} {V V' : Nat → Prop} {S S' : Fs21} {F : Nat → Prop}
theorem Fi21.wid (h : Fi21 w b m c f ta tc la lc V S) (hV : ∀ k, V k → V' k) (vb : ¬ V' b) (vm : ¬ V' m) (vl : ∀ k, (Value.slice la S.lg.length lc).ownBlock = some k → ¬ V' k) (vs : ∀ k, V' k → k < w.heap.size) : Fi21 w b m c f ta tc la lc V' S := by
  refine ⟨h.hp, h.hm, fun x y => ?_, h.ht.kp (fun _ _ => rfl) hV, h.hl, h.hc, vb, vm, vl, vs⟩
  rcases h.hf x y with q | ⟨s, v, q1, q2, q3⟩
  · exact .inl q
  · exact .inr ⟨s, v, q1, q2, q3.kp (fun _ _ => rfl) hV⟩
def cuE21 (S : Fs21) (n : Int) (l : Nat) : Int := if S.on = false then 213 else if n < 0 ∨ S.pg < l then 1 else 0
def cuS21 (S : Fs21) (n : Int) (L : List Int) : Fs21 := if S.on = false then S else if n < 0 ∨ S.pg < L.length then S else { S with lf := n, tn := if 0 < n then L else [] }
set_option maxRecDepth 100000 in
set_option maxHeartbeats 4000000 in
theorem pcut21 (hF : Fl21 w b F S) (hO : Ok21 S) (n : Int) (a : Option Addr) (L : List Int) (l cap : Nat) (hs : Seg w a L) (hl : Hid (L.length = l)) (hnil : a = none → cap = 0) :
    Calls Tryd.prog 21 #[.pointer (some ⟨b, 0, none⟩), .int .i64 n, .slice a l cap] w fun e w' => e = .returned (.int .i64 (cuE21 S n l)) ∧ Fn21 w w' b F (cuS21 S n L) := by
  obtain ⟨c0, c1, c2, c3, c4, cf⟩ := hF.cells
  have HST := pstop21 b S.pg S.on w c0 hO.pg.1 c3
  have HFl : Hid (Fl21 w b F S) := hF
  have HE : Hid (cuE21 S n l = if S.on = false then 213 else if n < 0 ∨ S.pg < l then 1 else 0) := rfl
  have HS : Hid (cuS21 S n L = if S.on = false then S else if n < 0 ∨ S.pg < l then S else { S with lf := n, tn := if 0 < n then L else [] }) := by show cuS21 S n L = _; rw [← hl.out]; rfl
  rw [HE.out, HS.out]
  have f6 := cf 6
  have f7 := cf 7
  by_cases hon : S.on = false
  · rw [hon] at HST
    rw [if_pos hon, if_pos hon]
    clear hF cf c1 c2 c3 c4
    go_enter Tryd.func21, Tryd.ntmps21
    go_wp2_with fail
    refine HST.mono ?_
    rintro e w1 ⟨rfl, hw⟩
    subst w1
    go_wp2_with fail
    go_ret
    exact ⟨rfl, HFl.out.stay (Below.refl _ _)⟩
  · have hon' : S.on = true := by simpa using hon
    rw [hon'] at HST
    rw [if_neg hon, if_neg hon]
    by_cases h1 : n < 0
    · rw [if_pos (show n < 0 ∨ S.pg < l from .inl h1), if_pos (show n < 0 ∨ S.pg < l from .inl h1)]
      clear hF cf c1 c2 c3 c4
      go_enter Tryd.func21, Tryd.ntmps21
      go_wp2_with fail
      refine HST.mono ?_
      rintro e w1 ⟨rfl, hw⟩
      subst w1
      go_wp2_with fail
      go_ret
      exact ⟨rfl, HFl.out.stay (Below.refl _ _)⟩
    · by_cases h2 : S.pg < l
      · rw [if_pos (show n < 0 ∨ S.pg < l from .inr h2), if_pos (show n < 0 ∨ S.pg < l from .inr h2)]
        have h2' : (S.pg : Int) < (l : Int) := by omega
        clear hF cf c1 c2 c3 c4
        go_enter Tryd.func21, Tryd.ntmps21
        go_wp2_with fail
        refine HST.mono ?_
        rintro e w1 ⟨rfl, hw⟩
        subst w1
        go_wp2_with fail
        go_ret
        exact ⟨rfl, HFl.out.stay (Below.refl _ _)⟩
      · rw [if_neg (show ¬ (n < 0 ∨ S.pg < l) by omega), if_neg (show ¬ (n < 0 ∨ S.pg < l) by omega)]
        have h2' : ¬ (S.pg : Int) < (l : Int) := by omega
        obtain ⟨m, c, f, ta, tc, la, lc, V, hI, hFb, hFm, hFl, hFV, hFs⟩ := hF
        have c6 := hI.cel (i := 6) rfl
        have c7 := hI.cel (i := 7) rfl
        obtain ⟨w1, hw1⟩ : ∃ w1, w1 = (w.setCell ⟨b, 6, none⟩ (.int .i64 0)).setCell ⟨b, 7, none⟩ (.slice none 0 0) := ⟨_, rfl⟩
        have HW1 : Hid ((w.setCell ⟨b, 6, none⟩ (.int .i64 0)).setCell ⟨b, 7, none⟩ (.slice none 0 0) = w1) := hw1.symm
        have k1 : Kp (fun k => k = b) w w1 := by rw [hw1]; exact (Kp.set (S := fun k => k = b) rfl _).trans (Kp.set (S := fun k => k = b) rfl _) (fun _ _ e => e)
        have hI1 : Fi21 w1 b m c f none 0 la lc V { S with lf := 0, tn := [] } := hI.re (S' := { S with lf := 0, tn := [] }) k1 rfl rfl ⟨SegK.nil (by decide) _ _, .inl rfl, fun _ => rfl, by simp⟩ (by rw [hw1]; simp [World.setCell, Array.getElem?_modify, hI.hp])
        have hsz : w1.heap.size = w.heap.size := by rw [hw1]; simp
        by_cases h3 : 0 < n
        · rw [if_pos h3]
          have hsb : ∀ k off, a = some ⟨k, off, none⟩ → 0 < L.length → k ≠ b := fun k off e hp e' => by
            obtain ⟨g', off', hx, hc⟩ := hs.at_ 0 hp
            rw [e] at hx
            cases hx
            subst e'
            rw [Nat.add_zero] at hc
            simp only [World.cell?, hI.hp] at hc
            rcases off with _ | _ | _ | _ | _ | _ | _ | _ | _ | off <;> simp at hc
          have hs1 : Seg w1 a L := hs.kp k1 (fun k off e hp => hsb k off e hp)
          have HC := pcl21 a L l cap w1 hs1 hl hnil (by have := hO.pg.2; omega)
          have d0 : w1.cell? ⟨b, 0, none⟩ = some (.int .i64 (S.pg : Int)) := hI1.cel (i := 0) rfl
          have HI1 : Hid (Fi21 w1 b m c f none 0 la lc V { S with lf := 0, tn := [] }) := hI1
          have HKS : Hid (Kp (fun k => k = b) w w1 ∧ w1.heap.size = w.heap.size) := ⟨k1, hsz⟩
          clear hs1 hs hI1 k1 hw1 hI cf c1 c2 c3 c4 hsz hsb
          go_enter Tryd.func21, Tryd.ntmps21
          go_wp2_with fail
          refine HST.mono ?_
          rintro e w1' ⟨rfl, hw⟩
          subst w1'
          go_wp2_with fail
          rw [HW1.out]
          refine HC.mono ?_
          rintro e w2 ⟨⟨ra, rc, rfl, hcl⟩, b2⟩
          have hI2 := HI1.out.old b2
          have e6 := hI2.cel (i := 6) rfl
          have e7 := hI2.cel (i := 7) rfl
          have g6 := hI2.fr 6
          have g7 := hI2.fr 7
          have HI2 : Hid (Fi21 w2 b m c f none 0 la lc V { S with lf := 0, tn := [] }) := hI2
          have HCL : Hid (Cl21 w2 ra L rc w1.heap.size) := hcl
          clear hI2 hcl
          go_wp2_with fail
          go_ret
          obtain ⟨q1, q2, q3, q4⟩ := HCL.out
          have hz := HKS.out.2
          have hVk : ∀ k, (V k ∨ ra = some ⟨k, 0, none⟩) → F k ∨ w.heap.size ≤ k := fun k e => by
            rcases e with e | e
            · exact .inl (hFV k e)
            · rcases q2 with q2 | ⟨k', q2, q5, q6⟩
              · rw [q2] at e; cases e
              · rw [q2] at e; cases e; exact .inr (by omega)
          have hra : ∀ k, ra = some ⟨k, 0, none⟩ → w.heap.size ≤ k ∧ k < w2.heap.size := fun k e => by
            rcases q2 with q2 | ⟨k', q2, q5, q6⟩
            · rw [q2] at e; cases e
            · rw [q2] at e; cases e; exact ⟨by omega, q6⟩
          have hbw := hFs b hFb
          have hmw := hFs m hFm
          have hI3 := HI2.out.wid (V' := fun k => V k ∨ ra = some ⟨k, 0, none⟩) (fun k e => .inl e) (by rintro (e | e); (exact HI2.out.vb e); (have := hra _ e; omega)) (by rintro (e | e); (exact HI2.out.vm e); (have := hra _ e; omega)) (by
            intro k e h
            rcases h with h | h
            · exact HI2.out.vl k e h
            · have := hFs k (hFl k e); have := hra _ h; omega) (by
            rintro k (e | e)
            · exact HI2.out.vs k e
            · exact (hra k e).2)
          have hp2 := hI3.hp
          refine ⟨rfl, fun k => F k ∨ ra = some ⟨k, 0, none⟩, ⟨m, c, f, ra, rc, la, lc, fun k => V k ∨ ra = some ⟨k, 0, none⟩, hI3.re (S' := { S with lf := n, tn := L }) ?_ rfl rfl ⟨q1, ?_, q3, q4⟩ ?_, .inl hFb, .inl hFm, fun k e => .inl (hFl k e), ?_, ?_⟩, ?_, ?_⟩
          · exact (Kp.set (S := fun k => k = b) rfl _).trans (Kp.set (S := fun k => k = b) rfl _) (fun _ _ e => e)
          · rcases q2 with q2 | ⟨k', q2, q5, q6⟩
            · exact .inl q2
            · exact .inr ⟨k', q2, .inr q2⟩
          · have := hl.out
            simp [World.setCell, Array.getElem?_modify, hp2, this]
          · rintro k (e | e)
            · exact .inl (hFV k e)
            · exact .inr e
          · have := b2.size
            rintro k (e | e)
            · have := hFs k e; simp; omega
            · have := hra k e; simp; omega
          · rintro k (e | e)
            · exact .inl e
            · exact .inr (hra k e).1
          · exact (((HKS.out.1.mono (S' := F) (fun i _ e => e ▸ hFb)).trans (Kp.of_below (S := F) b2) (fun _ _ e => e)).trans (Kp.set (S := F) hFb _) (fun _ _ e => e)).trans (Kp.set (S := F) hFb _) (fun _ _ e => e)
        · rw [if_neg h3]
          obtain rfl : n = 0 := by omega
          have hFN : Fn21 w w1 b F { S with lf := 0, tn := [] } := ⟨F, ⟨m, c, f, none, 0, la, lc, V, hI1, hFb, hFm, hFl, hFV, fun k e => by rw [hsz]; exact hFs k e⟩, fun _ e => .inl e, k1.mono (fun i _ e => e ▸ hFb)⟩
          have HFN : Hid (Fn21 w w1 b F { S with lf := 0, tn := [] }) := hFN
          clear hs hI1 k1 hw1 hI cf c1 c2 c3 c4 hsz hFN h3
          go_enter Tryd.func21, Tryd.ntmps21
          go_wp2_with fail
          refine HST.mono ?_
          rintro e w1' ⟨rfl, hw⟩
          subst w1'
          go_wp2_with fail
          go_ret
          rw [HW1.out]
          exact ⟨rfl, HFN.out⟩
end
end Go.Proofs.YtjoghmdjnkdokaaDoor

namespace Go.Proofs.YtjoghmdjnkdokaaDoor
open Go.RowKit Go.Shelf
set_option linter.unusedVariables false
set_option linter.unusedSimpArgs false

/-! The document's flash: what a change leaves; is, Turn, Plan. -/
section
variable {w w' : World} {b : Nat} {g c : Nat → Nat} {A : Nat → List Pd21} {tn : List Int} {ta : Option Addr} {tc : Nat} {la : Option Addr} {lc : Nat} {V V' : Nat → Prop} {S S' : Fs21}
theorem sh21_pa (h : S'.pa = S.pa) (x y : Int) : sh21 S' x y = sh21 S x y := by unfold sh21; rw [h]
theorem fb21_pa (h : S'.pa = S.pa) (h' : S'.pg = S.pg) (x y : Int) : fb21 S' x y = fb21 S x y := by unfold fb21; rw [sh21_pa h, h']
theorem Rf21.re (h : Rf21 w b g c A tn ta tc la lc V S) (hk : Kp (fun k => k = b) w w') (e1 : S'.pa = S.pa) (e2 : S'.lg = S.lg) (e3 : S'.pg = S.pg) (e4 : S'.ps = S.ps) {tn' : List Int} {ta' : Option Addr} {tc' : Nat} (ht' : (S'.lf ≠ 0 → tn' = S'.tn) ∧ Sl21 w V ta' tn' tc')
    (hp : w'.heap[b]? = some (.cells #[.int .i64 (S'.pg : Int), .int .i64 (S'.ps : Int), .int .i64 S'.ac, .slice (some ⟨g 0, 0, none⟩) (A 0).length (c 0), .slice (some ⟨g 1, 0, none⟩) (A 1).length (c 1), .slice (some ⟨g 2, 0, none⟩) (A 2).length (c 2), .slice la S'.lg.length lc, .bool (!S'.on), .int .i64 S'.lf, .slice ta' tn'.length tc', .int .i64 S'.lm] 46 (0, 0))) :
    Rf21 w' b g c A tn' ta' tc' la lc V S' := by
  have hV : ∀ k, V k → w'.heap[k]? = w.heap[k]? := fun k e => hk.block k (h.vs k e) (fun q => h.vb (q ▸ e))
  have hl := h.hl
  have hvl := h.vl
  refine ⟨hp, fun x hx => ?_, by rw [e4]; exact h.hn, fun x y d hx hy => ?_, ⟨ht'.1, ht'.2.kp hV (fun _ e => e)⟩, ?_, h.gi, h.vb, h.vg, by rw [e2]; exact h.vl, fun k e => Nat.lt_of_lt_of_le (h.vs k e) hk.size⟩
  · obtain ⟨X, hX⟩ := h.ha x hx
    exact ⟨X, (hk.block _ (h.gl hx) (fun e => h.bg hx e.symm)).trans hX⟩
  · obtain ⟨q1, q2, q3⟩ := h.hd x y d hx hy
    rw [fb21_pa e1 e3, sh21_pa e1]
    refine ⟨q1.of_cells fun b' off' i v hi ha hc => ?_, q2, q3⟩
    cases ha
    rw [World.cell?_of_block (a := ⟨d.k, d.off + i, none⟩) (hV d.k q2)]
    exact hc
  · rw [e2]
    refine ⟨hl.1, ?_⟩
    rcases hl.2 with q | ⟨q, cap, cur, q1, q2, q3, q4⟩
    · exact .inl q
    · have hq := h.lo (k := q) (by rw [q1]; rfl)
      exact .inr ⟨q, cap, cur, q1, q2, (hk.block q hq.1 hq.2.1).trans q3, q4⟩
/-- More bytes may be spoken of. -/
theorem Rf21.wid (h : Rf21 w b g c A tn ta tc la lc V S) (hV : ∀ k, V k → V' k) (vb : ¬ V' b) (vg : ∀ x, x < 3 → ¬ V' (g x)) (vl : ∀ k, (Value.slice la S.lg.length lc).ownBlock = some k → ¬ V' k) (vs : ∀ k, V' k → k < w.heap.size) : Rf21 w b g c A tn ta tc la lc V' S :=
  ⟨h.hp, h.ha, h.hn, fun x y d hx hy => by obtain ⟨q1, q2, q3⟩ := h.hd x y d hx hy; exact ⟨q1, hV _ q2, q3⟩, ⟨h.ht.1, h.ht.2.kp (fun _ _ => rfl) hV⟩, h.hl, h.gi, vb, vg, vl, vs⟩
def ad21 (A : Nat → List Pd21) (x y : Nat) (d : Pd21) : Nat → List Pd21 := fun z => if z = x then (A x).set y d else A z
theorem ad21_len (A : Nat → List Pd21) (x y : Nat) (d : Pd21) (z : Nat) : (ad21 A x y d z).length = (A z).length := by
  unfold ad21; split
  · rename_i h; subst h; simp
  · rfl
theorem sh21_up (S : Fs21) (x y : Int) (s : Sh21) (x' y' : Int) : sh21 { S with pa := up21 S.pa x y s } x' y' = if x' = x ∧ y' = y then s else sh21 S x' y' := by
  unfold sh21 up21
  by_cases h : x' = x ∧ y' = y
  · simp [h]
  · simp [h]
/-- A page anew. -/
theorem Rf21.page (h : Rf21 w b g c A tn ta tc la lc V S) {x y : Nat} (hx : x < 3) (hy : y < (A x).length) (d : Pd21) (s : Sh21) (hk : Kp (fun k => k = g x) w w') (hg : ∃ X : List Value, w'.heap[g x]? = some (.cells (pdl21 ((A x).set y d) ++ X).toArray 72 (0, 0)))
    (h1 : Seg w' (some ⟨d.k, d.off, none⟩) d.b) (h2 : V d.k) (h3 : d.b = s.b ++ List.replicate (S.pg - s.b.length) 255) (h4 : d.er = s.er) (h5 : d.wr = s.wr) (h6 : d.b.length ≤ d.c) :
    Rf21 w' b g c (ad21 A x y d) tn ta tc la lc V { S with pa := up21 S.pa (x : Int) (y : Int) s } := by
  have hV : ∀ k, V k → w'.heap[k]? = w.heap[k]? := fun k e => hk.block k (h.vs k e) (fun q => h.vg x hx (q ▸ e))
  have hgne : ∀ z, z < 3 → z ≠ x → g z ≠ g x := fun z hz hne => by
    have := h.gi
    rcases (show x = 0 ∨ x = 1 ∨ x = 2 by omega) with rfl | rfl | rfl <;> rcases (show z = 0 ∨ z = 1 ∨ z = 2 by omega) with rfl | rfl | rfl <;> first | exact absurd rfl hne | exact this.1 | exact this.2.1 | exact this.2.2 | exact this.1.symm | exact this.2.1.symm | exact this.2.2.symm
  refine ⟨?_, fun z hz => ?_, fun z hz => ?_, fun z y' d' hz hy' => ?_, ⟨h.ht.1, h.ht.2.kp hV (fun _ e => e)⟩, ?_, h.gi, h.vb, h.vg, h.vl, fun k e => Nat.lt_of_lt_of_le (h.vs k e) hk.size⟩
  · rw [ad21_len, ad21_len, ad21_len]
    exact (hk.block b h.bl (h.bg hx)).trans h.hp
  · by_cases e : z = x
    · subst e
      obtain ⟨X, hX⟩ := hg
      exact ⟨X, by simpa [ad21] using hX⟩
    · obtain ⟨X, hX⟩ := h.ha z hz
      exact ⟨X, by simpa [ad21, e] using (hk.block _ (h.gl hz) (hgne z hz e)).trans hX⟩
  · rw [ad21_len]; exact h.hn z hz
  · have hfb : ∀ a b, fb21 { S with pa := up21 S.pa (x : Int) (y : Int) s } a b = (if a = (x : Int) ∧ b = (y : Int) then s.b ++ List.replicate (S.pg - s.b.length) 255 else fb21 S a b) := fun a b => by
      unfold fb21
      rw [sh21_up]
      split <;> rfl
    rw [hfb, sh21_up]
    by_cases e : z = x
    · subst e
      by_cases e2 : y' = y
      · subst e2
        have : d' = d := by simpa [ad21, hy] using hy'.symm
        subst this
        simp only [and_self, if_true]
        exact ⟨h1, h2, h3, h4, h5, h6⟩
      · have e2' : ¬ (y' : Int) = (y : Int) := by omega
        have hne : ¬ y = y' := fun q => e2 q.symm
        have : (A z)[y']? = some d' := by simpa [ad21, List.getElem?_set, hne] using hy'
        simp only [e2', and_false, if_false]
        obtain ⟨q1, q2, q3⟩ := h.hd z y' d' hz this
        refine ⟨q1.of_cells fun b' off' i v hi ha hc => ?_, q2, q3⟩
        cases ha
        rw [World.cell?_of_block (a := ⟨d'.k, d'.off + i, none⟩) (hV d'.k q2)]
        exact hc
    · have e' : ¬ (z : Int) = (x : Int) := by omega
      have : (A z)[y']? = some d' := by simpa [ad21, e] using hy'
      simp only [e', false_and, if_false]
      obtain ⟨q1, q2, q3⟩ := h.hd z y' d' hz this
      refine ⟨q1.of_cells fun b' off' i v hi ha hc => ?_, q2, q3⟩
      cases ha
      rw [World.cell?_of_block (a := ⟨d'.k, d'.off + i, none⟩) (hV d'.k q2)]
      exact hc
  · refine ⟨h.hl.1, ?_⟩
    rcases h.hl.2 with q | ⟨q, cap, cur, q1, q2, q3, q4⟩
    · exact .inl q
    · have hq := h.lo (k := q) (by rw [q1]; rfl)
      exact .inr ⟨q, cap, cur, q1, q2, (hk.block q hq.1 (hq.2.2 x hx)).trans q3, q4⟩
theorem Rf21.at (h : Rf21 w b g c A tn ta tc la lc V S) {x : Int} {y : Int} (hm : ms21 S.ps x y = 0) : ∃ (X Y : Nat) (d : Pd21), x = (X : Int) ∧ y = (Y : Int) ∧ X < 3 ∧ Y < (A X).length ∧ (A X)[Y]? = some d := by
  unfold ms21 pn21 at hm
  have hx : 0 ≤ x ∧ x ≤ 2 ∧ 0 ≤ y := by
    by_cases h1 : x < 0 ∨ 2 < x
    · simp [h1] at hm; omega
    · by_cases h2 : y < 0
      · simp [h2] at hm
      · omega
  obtain ⟨X, rfl⟩ : ∃ X : Nat, x = (X : Int) := ⟨x.toNat, by omega⟩
  obtain ⟨Y, rfl⟩ : ∃ Y : Nat, y = (Y : Int) := ⟨y.toNat, by omega⟩
  have h3 : X < 3 := by omega
  have hn := (h.hn X h3).1
  have hlt : Y < (A X).length := by
    have : ¬ ((Y : Int) < 0 ∨ pn21 S.ps (X : Int) ≤ (Y : Int)) := fun q => by
      unfold pn21 at q
      rw [if_pos q] at hm
      cases hm
    omega
  exact ⟨X, Y, _, rfl, rfl, h3, hlt, List.getElem?_eq_getElem hlt⟩
end
/-! is. -/
set_option maxRecDepth 100000 in
set_option maxHeartbeats 2000000 in
theorem ris21 {w : World} {b : Nat} {G : Nat → Prop} {S : Fs21} (h : Rl21d w b G S) (x y : Int) (hx : In21 x) (hy : In21 y) :
    Calls Tryd.prog 58 #[.pointer (some ⟨b, 0, none⟩), .int .i64 x, .int .i64 y] w fun e w' => e = .returned (.bool (decide (ms21 S.ps x y = 0))) ∧ w' = w := by
  obtain ⟨g, c, A, tn, ta, tc, la, lc, V, h1, -⟩ := h
  by_cases c1 : x < 0
  · have e : decide (ms21 S.ps x y = 0) = false := by simp [ms21, pn21, c1] <;> omega
    rw [e]
    have c1' : ¬ 0 ≤ x := by omega
    clear e h1
    go_enter Tryd.func58, Tryd.ntmps58
    go_wp2_with fail
    go_ret
    exact ⟨rfl, rfl⟩
  · have c1' : 0 ≤ x := by omega
    by_cases c2 : 2 < x
    · have e : decide (ms21 S.ps x y = 0) = false := by simp [ms21, pn21, c2] <;> omega
      rw [e]
      have c2' : ¬ x ≤ 2 := by omega
      clear e h1
      go_enter Tryd.func58, Tryd.ntmps58
      go_wp2_with fail
      go_ret
      exact ⟨rfl, rfl⟩
    · have c2' : x ≤ 2 := by omega
      by_cases c3 : y < 0
      · have e : decide (ms21 S.ps x y = 0) = false := by simp [ms21, c3]
        rw [e]
        have c3' : ¬ 0 ≤ y := by omega
        clear e h1
        go_enter Tryd.func58, Tryd.ntmps58
        go_wp2_with fail
        go_ret
        exact ⟨rfl, rfl⟩
      · have c3' : 0 ≤ y := by omega
        obtain ⟨X, rfl⟩ : ∃ X : Nat, x = (X : Int) := ⟨x.toNat, by omega⟩
        have h3 : X < 3 := by omega
        have hn := (h1.hn X h3).1
        have ca := h1.car h3
        obtain ⟨N, hN⟩ : ∃ N, N = (A X).length := ⟨_, rfl⟩
        rw [← hN] at ca hn
        have e : decide (ms21 S.ps (X : Int) y = 0) = decide (y < (N : Int)) := by
          unfold ms21
          rw [← hn]
          by_cases q : y < (N : Int)
          · simp [q]; omega
          · have q' : (N : Int) ≤ y := by omega
            simp [q, q']
        rw [e]
        have hX3 : (X : Int) < 3 := by omega
        clear e h1 hn hN c1 c2 c3
        go_enter Tryd.func58, Tryd.ntmps58
        go_wp2_with fail
        go_ret
        exact ⟨rfl, rfl⟩
set_option maxRecDepth 100000 in
set_option maxHeartbeats 2000000 in
theorem rtrn21 {w : World} {b : Nat} {G : Nat → Prop} {S : Fs21} (h : Rl21d w b G S) (hO : Ok21 S) :
    Calls Tryd.prog 37 #[.pointer (some ⟨b, 0, none⟩)] w fun e w' => e = .returned (.int .i64 (st21 S.on)) ∧ Rn21 w w' b G (tuS21 S) := by
  have HL : Hid (Rl21d w b G S) := h
  obtain ⟨g, c, A, tn, ta, tc, la, lc, V, h1, h2, h3, h4, h5, h6⟩ := h
  have c7 := h1.cel (i := 7) rfl
  have c2 := h1.cel (i := 2) rfl
  have y2 := h1.fr 2
  have HR : Hid (Rf21 w b g c A tn ta tc la lc V S ∧ G b ∧ (∀ x, x < 3 → G (g x)) ∧ (∀ k, (Value.slice la S.lg.length lc).ownBlock = some k → G k) ∧ (∀ k, V k → G k) ∧ (∀ k, G k → k < w.heap.size)) := ⟨h1, h2, h3, h4, h5, h6⟩
  clear h1 h2 h3 h4 h5 h6
  have hS : Hid (tuS21 S = if S.on then { S with ac := 1 - S.ac } else S) := rfl
  have hE : Hid (st21 S.on = if S.on then 0 else 213) := rfl
  rw [hS.out, hE.out]
  by_cases hon : S.on = true
  · rw [if_pos hon, if_pos hon]
    rw [hon] at c7
    have hac : IntKind.i64.wrap (1 - S.ac) = 1 - S.ac := by rw [IntWalk.i64_in _ (by have := hO.ac; omega)]
    clear hS hE
    go_enter Tryd.func37, Tryd.ntmps37
    go_wp2_with fail
    go_ret
    obtain ⟨h1, h2, h3, h4, h5, h6⟩ := HR.out
    have hk : Kp (fun k => k = b) w (w.setCell ⟨b, 2, none⟩ (.int .i64 (1 - S.ac))) := Kp.set (S := fun k => k = b) rfl _
    refine ⟨rfl, G, ⟨g, c, A, tn, ta, tc, la, lc, V, h1.re (S' := { S with ac := 1 - S.ac }) hk rfl rfl rfl rfl ⟨h1.ht.1, h1.ht.2⟩ (by simp [World.setCell, Array.getElem?_modify, h1.hp]), h2, h3, h4, h5, fun k e => Nat.lt_of_lt_of_le (h6 k e) hk.size⟩, fun _ e => .inl e, hk.mono (fun i _ e => by subst e; exact h2)⟩
  · rw [if_neg hon, if_neg hon]
    have hon' : S.on = false := by simpa using hon
    rw [hon'] at c7
    clear hS hE
    go_enter Tryd.func37, Tryd.ntmps37
    go_wp2_with fail
    go_ret
    exact ⟨rfl, HL.out.stay (Below.refl _ _)⟩
end Go.Proofs.YtjoghmdjnkdokaaDoor
