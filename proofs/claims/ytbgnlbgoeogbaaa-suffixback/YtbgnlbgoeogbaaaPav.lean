import Derived.Test.YtbgnlbgoeogbaaaPau
import Derived.Test.YtbgnlbgoeogbaaaProg
import Derived.WalkKit
import Derived.WalkSpells
import Derived.WalkLawsBesides
import Derived.Test.YtbgnlbgoeogbaaaPaa
import Derived.Lib.SmallJoins
import Derived.Deep.OwnRows
import Derived.Test.YtbgnlbgoeogbaaaPat
namespace Go.Proofs.Ytbgnlbgoeogbaaa
open Go.RowKit
set_option linter.unusedVariables false
set_option linter.unusedSimpArgs false

/-! The product of two words' polynomials. -/
def oneW : W32 := 2147483648#32
def actN (a : W32) : Nat → W32 → W32
  | 0, _ => 0#32
  | i + 1, b => actN a i b ^^^ (if a.getLsbD (31 - i) then onN i b else 0#32)
def act (a b : W32) : W32 := actN a 32 b

theorem xor4 (a b c d : W32) : (a ^^^ b) ^^^ (c ^^^ d) = (a ^^^ c) ^^^ (b ^^^ d) := by
  simp only [BitVec.xor_assoc, bxor_left_comm]
theorem actN_xor (a : W32) (i : Nat) (b c : W32) : actN a i (b ^^^ c) = actN a i b ^^^ actN a i c := by
  induction i with
  | zero => simp [actN]
  | succ i ih =>
    simp only [actN, ih, onN_xor]
    split
    · rw [xor4]
    · simp
theorem actN_zero (a : W32) (i : Nat) : actN a i 0#32 = 0#32 := by
  induction i with
  | zero => rfl
  | succ i ih => simp only [actN, ih, onN_zero]; split <;> simp
theorem actN_on (a : W32) (i : Nat) (b : W32) : actN a i (on b) = on (actN a i b) := by
  induction i with
  | zero => simp [actN, on_zero]
  | succ i ih =>
    have e : onN i (on b) = on (onN i b) := onN_comm i 1 b
    simp only [actN, ih, on_xor, e]
    split
    · rfl
    · rw [on_zero]
theorem actN_onN (a : W32) (i k : Nat) (b : W32) : actN a i (onN k b) = onN k (actN a i b) := by
  induction k with
  | zero => rfl
  | succ k ih => simp only [onN, actN_on, ih]
theorem actN_comm (a b : W32) (m n : Nat) (c : W32) : actN a m (actN b n c) = actN b n (actN a m c) := by
  induction m with
  | zero => simp only [actN, actN_zero]
  | succ m ih =>
    simp only [actN, actN_xor, ih]
    split
    · rw [actN_onN]
    · rw [actN_zero]
theorem onN_one : ∀ i : Fin 32, onN i.val oneW = BitVec.twoPow 32 (31 - i.val) := by decide +kernel
theorem actN_one (a : W32) (n : Nat) (hn : n ≤ 32) (j : Nat) (hj : j < 32) : (actN a n oneW).getLsbD j = (decide (31 - j < n) && a.getLsbD j) := by
  induction n with
  | zero => simp [actN]
  | succ n ih =>
    have e := onN_one ⟨n, by omega⟩
    simp only at e
    simp only [actN, BitVec.getLsbD_xor, ih (by omega), e]
    by_cases h : j = 31 - n
    · subst h
      have h1 : ¬ (31 - (31 - n) < n) := by omega
      have h2 : 31 - (31 - n) < n + 1 := by omega
      cases ha : a.getLsbD (31 - n)
      · simp
      · simp only [h1, h2, decide_true, decide_false, Bool.false_and, Bool.true_and, if_true, BitVec.getLsbD_twoPow, hj]
        rfl
    · have h1 : decide (31 - j < n + 1) = decide (31 - j < n) := by simp only [decide_eq_decide]; omega
      rw [h1]
      split
      · rw [BitVec.getLsbD_twoPow]
        have : decide (31 - n = j) = false := by simp; omega
        rw [this]
        simp
      · simp
theorem act_one (a : W32) : act a oneW = a := by
  apply BitVec.eq_of_getLsbD_eq
  intro j hj
  rw [act, actN_one a 32 (by decide) j hj]
  have : 31 - j < 32 := by omega
  simp only [this, decide_true, Bool.true_and]
theorem act_comm (a b : W32) : act a b = act b a := by
  conv => lhs; rw [← act_one b]
  conv => rhs; rw [← act_one a]
  exact actN_comm _ _ _ _ _
theorem act_pow (a : W32) (k : Nat) : act a (onN k oneW) = onN k a := by
  rw [act, actN_onN]
  exact congrArg _ (act_one a)
theorem act_pow' (k : Nat) (b : W32) : act (onN k oneW) b = onN k b := by
  rw [act_comm, act_pow]

/-! The register's way over bytes. -/
def bW (x : Int) : W32 := BitVec.ofNat 32 x.toNat
def takeW (r : W32) (x : Int) : W32 := onN 8 (r ^^^ bW x)
def runW : W32 → List Int → W32
  | r, [] => r
  | r, x :: l => runW (takeW r x) l
theorem runW_append (r : W32) (l m : List Int) : runW r (l ++ m) = runW (runW r l) m := by
  induction l generalizing r with
  | nil => rfl
  | cons x l ih => exact ih _
theorem runW_snoc (r : W32) (l : List Int) (x : Int) : runW r (l ++ [x]) = takeW (runW r l) x := by rw [runW_append]; rfl
theorem runW_xor (r s : W32) (l : List Int) : runW (r ^^^ s) l = onN (8 * l.length) r ^^^ runW s l := by
  induction l generalizing r s with
  | nil => rfl
  | cons x l ih =>
    have e : takeW (r ^^^ s) x = onN 8 r ^^^ takeW s x := by
      unfold takeW
      rw [← onN_xor, BitVec.xor_assoc]
    show runW (takeW (r ^^^ s) x) l = _
    rw [e, ih, ← onN_add]
    show _ = _ ^^^ runW (takeW s x) l
    congr 2
theorem runW_lin (r : W32) (l : List Int) : runW r l = onN (8 * l.length) r ^^^ runW 0#32 l := by
  have := runW_xor r 0#32 l
  rwa [BitVec.xor_zero] at this
theorem runW_zeros (r : W32) (n : Nat) : runW r (List.replicate n 0) = onN (8 * n) r := by
  induction n generalizing r with
  | zero => rfl
  | succ n ih =>
    have e : takeW r 0 = onN 8 r := by
      unfold takeW bW
      simp
    rw [List.replicate_succ]
    show runW (takeW r 0) _ = _
    rw [e, ih, ← onN_add]
    congr 1
/-- The sum of bytes. -/
def sumW (l : List Int) : W32 := ~~~ (runW (~~~ 0#32) l)
theorem not_not (a : W32) : ~~~ (~~~ a) = a := BitVec.not_not
theorem sumW_append (l m : List Int) : sumW (l ++ m) = onN (8 * m.length) (sumW l) ^^^ sumW m := by
  unfold sumW
  rw [runW_append]
  generalize hr : runW (~~~ 0#32) l = r
  have e : r = (~~~ r) ^^^ (~~~ 0#32) := by
    apply BitVec.eq_of_getLsbD_eq
    intro i hi
    simp only [BitVec.getLsbD_xor, BitVec.getLsbD_not, hi, decide_true, Bool.true_and, BitVec.getLsbD_zero]
    cases r.getLsbD i <;> rfl
  conv => lhs; rw [e]
  rw [runW_xor]
  apply BitVec.eq_of_getLsbD_eq
  intro i hi
  simp [-BitVec.getLsbD_eq_getElem, hi]
end Go.Proofs.Ytbgnlbgoeogbaaa

namespace Go.Proofs.Ytbgnlbgoeogbaaa
open Go.RowKit
set_option linter.unusedVariables false
set_option linter.unusedSimpArgs false

/-- A word as the model's number. -/
def wI (a : W32) : Int := (a.toNat : Int)
theorem wI_bd (a : W32) : 0 ≤ wI a ∧ wI a < 4294967296 := by
  have := a.isLt
  unfold wI
  omega
theorem wI_of {x : Int} (h0 : 0 ≤ x) (h1 : x < 4294967296) : ∃ a : W32, x = wI a := by
  refine ⟨BitVec.ofNat 32 x.toNat, ?_⟩
  unfold wI
  simp
  omega
theorem wI_inj {a b : W32} (h : wI a = wI b) : a = b := by
  apply BitVec.eq_of_toNat_eq
  unfold wI at h
  omega
theorem wI_xor (a b : W32) : bits .xor .u32 (wI a) (wI b) = wI (a ^^^ b) := by
  unfold wI
  rw [u32_xor_nat _ _ a.isLt b.isLt, BitVec.toNat_xor]
theorem wI_and (a b : W32) : bits .and .u32 (wI a) (wI b) = wI (a &&& b) := by
  unfold wI
  rw [u32_and_nat _ _ a.isLt b.isLt, BitVec.toNat_and]
theorem wI_or (a b : W32) : bits .or .u32 (wI a) (wI b) = wI (a ||| b) := by
  unfold wI
  rw [u32_or_nat _ _ a.isLt b.isLt, BitVec.toNat_or]
theorem wI_shr (a : W32) (k : Nat) : wI a / 2 ^ k = wI (a >>> k) := by
  unfold wI
  rw [BitVec.toNat_ushiftRight, Nat.shiftRight_eq_div_pow]
  simp
theorem wI_zero : wI 0#32 = 0 := rfl
theorem wI_lsb (a : W32) : a.getLsbD 0 = decide (wI a % 2 = 1) := by
  unfold wI
  rw [BitVec.getLsbD, Nat.testBit_zero]
  simp only [decide_eq_decide]
  omega
theorem ret_u32 {a b : Int} (h : a = b) : Ending.returned (.int .u32 a) = .returned (.int .u32 b) := by rw [h]

theorem wI_ne (a : W32) : (wI a != 0) = (a != 0#32) := by
  rw [Bool.eq_iff_iff, bne_iff_ne, bne_iff_ne]
  constructor
  · intro h e; apply h; rw [e]; rfl
  · intro h e; exact h (wI_inj (e.trans wI_zero.symm))
theorem and_two (a : W32) (k : Nat) (hk : k < 32) : (a &&& BitVec.twoPow 32 k != 0#32) = a.getLsbD k := by
  rw [BitVec.and_twoPow]
  cases h : a.getLsbD k
  · simp
  · simp only [if_true]
    rw [bne_iff_ne]
    intro e
    have := congrArg (·.getLsbD k) e
    simp [BitVec.getLsbD_twoPow, hk] at this
theorem wI_bit (a : W32) (k : Nat) (hk : k < 32) : (bits .and .u32 (wI a) (wI (BitVec.twoPow 32 k)) != 0) = a.getLsbD k := by
  rw [wI_and, wI_ne, and_two a k hk]
theorem wI_half (a : W32) : wI a / (2 : Int) = wI (a >>> 1) := by
  have := wI_shr a 1
  simpa using this
theorem on_pos (a : W32) (h : a.getLsbD 0 = true) : bits .xor .u32 (wI a / 2) 3988292384 = wI (on a) := by
  rw [wI_half, show (3988292384 : Int) = wI genW from rfl, wI_xor]
  unfold on
  rw [h, if_pos rfl]
theorem on_neg (a : W32) (h : a.getLsbD 0 = false) : wI a / 2 = wI (on a) := by
  rw [wI_half]
  unfold on
  rw [h]
  simp

theorem one_shr : ∀ i : Fin 33, oneW >>> i.val = if i.val < 32 then BitVec.twoPow 32 (31 - i.val) else 0#32 := by decide +kernel
theorem actN_next (a b : W32) (i : Nat) : actN a (i + 1) b = actN a i b ^^^ (if a.getLsbD (31 - i) then onN i b else 0#32) := rfl

end Go.Proofs.Ytbgnlbgoeogbaaa

namespace Go.Proofs.Ytbgnlbgoeogbaaa
open Go.RowKit
set_option linter.unusedVariables false
set_option linter.unusedSimpArgs false

/-- The table lies where the program's text lays it. -/
abbrev Tab (w : World) : Prop := SegK .u32 4294967295 w (some ⟨0, 0, none⟩) halfL
theorem Tab.cell {w : World} (h : Tab w) (k : Nat) (hk : k < 16) : w.cell? ⟨0, k, none⟩ = some (.int .u32 (wI (onN 4 (BitVec.ofNat 32 k)))) := by
  obtain ⟨b, off, e, hc⟩ := h.at_ k hk
  cases e
  rw [Nat.zero_add] at hc
  rw [hc, ← half_tab ⟨k, hk⟩]
  rfl
theorem wI_and15 (a : W32) : bits .and .u32 (wI a) 15 = ((a.toNat % 16 : Nat) : Int) := by
  rw [show (15 : Int) = wI 15#32 from rfl, wI_and, and15]
  unfold wI
  simp
  omega
theorem wI_shr4 (a : W32) : wI a / (16 : Int) = wI (a >>> 4) := by
  have := wI_shr a 4
  simpa using this
theorem wI_byte (x : Int) (h0 : 0 ≤ x) (h1 : x ≤ 255) : wI (bW x) = x := by
  unfold wI bW
  simp
  omega

end Go.Proofs.Ytbgnlbgoeogbaaa

namespace Go.Proofs.Ytbgnlbgoeogbaaa
open Go.RowKit
set_option linter.unusedVariables false
set_option linter.unusedSimpArgs false

theorem u32_unsigned : IntKind.u32.signed = false := rfl
theorem wI_not (a : W32) : bits .xor .u32 IntKind.u32.max (wI a) = wI (~~~ a) := by
  rw [show IntKind.u32.max = wI (~~~ 0#32) from by decide, wI_xor]
  congr 1

theorem take_snoc {zs : List Int} {k : Nat} (hk : k < zs.length) : zs.take (k + 1) = zs.take k ++ [zs.getD k 0] := by
  rw [List.take_add_one]
  simp [List.getD, hk]

end Go.Proofs.Ytbgnlbgoeogbaaa

namespace Go.Proofs.Ytbgnlbgoeogbaaa
open Go.RowKit
set_option linter.unusedVariables false
set_option linter.unusedSimpArgs false

/-- A part: where its bytes lie, the bytes, the capacity. -/
structure Part where
  a : Option Addr
  zs : List Int
  cap : Nat
def Part.val (p : Part) : Value := .slice p.a p.zs.length p.cap
def noPart : Part := ⟨none, [], 0⟩
/-- Parts lie where a slice's address leads, and the bytes of each where it leads. -/
structure Parts (w : World) (a : Option Addr) (ps : List Part) : Prop where
  at_ : ∀ i, i < ps.length → ∃ b off, a = some ⟨b, off, none⟩ ∧ w.cell? ⟨b, off + i, none⟩ = some (ps.getD i noPart).val
  seg : ∀ i, i < ps.length → Seg w (ps.getD i noPart).a (ps.getD i noPart).zs
  len : ∀ i, i < ps.length → (ps.getD i noPart).zs.length ≤ 9223372036854775807
def flat (ps : List Part) : List Int := (ps.map (·.zs)).flatten
theorem flat_snoc {ps : List Part} {k : Nat} (hk : k < ps.length) : flat (ps.take (k + 1)) = flat (ps.take k) ++ (ps.getD k noPart).zs := by
  unfold flat
  rw [List.take_add_one, List.map_append, List.flatten_append, List.getElem?_eq_getElem hk]
  simp only [Option.toList, List.map_cons, List.map_nil, List.flatten_cons, List.flatten_nil, List.append_nil]
  rw [List.getD, List.getElem?_eq_getElem hk]
  rfl

end Go.Proofs.Ytbgnlbgoeogbaaa

namespace Go.Proofs.Ytbgnlbgoeogbaaa
open Go.RowKit
set_option linter.unusedVariables false
set_option linter.unusedSimpArgs false

theorem seg_lit (w : World) (zs : List Int) (t : TypeId) (fr : Nat × Nat) (h : ∀ z ∈ zs, 0 ≤ z ∧ z ≤ 255) : Seg (w.alloc (.cells (zs.map (Value.int .u8)).toArray t fr)) (some ⟨w.heap.size, 0, none⟩) zs := by
  refine ⟨fun i hi => ⟨w.heap.size, 0, rfl, ?_⟩, by decide, getD_bd (by decide) h⟩
  have e : zs.getD i 0 = zs[i] := by simp [List.getD, hi]
  rw [e, Nat.zero_add, World.cell?_alloc_mark]
  simp [hi]
theorem parts_nil (w : World) (a : Option Addr) : Parts w a [] := ⟨fun i h => by simp at h, fun i h => by simp at h, fun i h => by simp at h⟩
theorem parts_one (w : World) (g n : Nat) (a : Option Addr) (zs : List Int) (cap : Nat) (t : TypeId) (h : Seg w a zs) (hg : g = w.heap.size) (hn : n = zs.length) (hl : zs.length ≤ 9223372036854775807) :
    Parts (w.alloc (.cells #[.slice a n cap] t)) (some ⟨g, 0, none⟩) [⟨a, zs, cap⟩] := by
  subst hg hn
  refine ⟨fun i hi => ⟨w.heap.size, 0, rfl, ?_⟩, fun i hi => ?_, fun i hi => ?_⟩ <;> (obtain rfl : i = 0 := by simpa using hi)
  · rw [World.cell?_alloc_mark]
    rfl
  · exact h.alloc _
  · exact hl
theorem flat_one (a : Option Addr) (zs : List Int) (cap : Nat) : flat [⟨a, zs, cap⟩] = zs := by simp [flat]
def nine : List Int := [49, 50, 51, 52, 53, 54, 55, 56, 57]
theorem nine_sum : wI (sumW nine) = 3421780262 := by decide +kernel
theorem none_sum : wI (sumW []) = 0 := by decide +kernel

theorem balloc {w w' : World} (h : Below w.heap.size w w') (o : Obj) : Below w.heap.size w (w'.alloc o) := h.alloc h.size o
theorem nine_bd : ∀ z ∈ nine, 0 ≤ z ∧ z ≤ 255 := by decide
end Go.Proofs.Ytbgnlbgoeogbaaa

namespace Go.Proofs.Ytbgnlbgoeogbaaa
open Go.RowKit
set_option linter.unusedVariables false
set_option linter.unusedSimpArgs false
theorem info_u8z : (Try.prog.info? 5).map (fun i => (i.zero, i.size, i.bytes)) = some (some (.int .u8 0), 1, 1) := by kernel_rfl
theorem made_zeros (n : Nat) : madeCells #[.int .u8 0] n = ((List.replicate n (0 : Int)).map (Value.int .u8)).toArray := by
  apply Array.toList_inj.1
  rw [toList_madeCells_one]
  simp
theorem run_make_zeros (n : Nat) (h : n ≤ 281474976710656) (w : World) :
    (Instr.makeSlice 41 (.int .i64 (n : Int)) (.int .i64 (n : Int))).run Try.prog w = .ok (.slice (some ⟨w.heap.size, 0, none⟩) n n) (w.alloc (.cells ((List.replicate n (0 : Int)).map (Value.int .u8)).toArray 5)) := by
  rw [← made_zeros]
  exact run_make_row' 41 5 (.int .u8 0) 1 Try.underlying41 info_u8z rfl .i64 .i64 n (by omega) (by omega) w
theorem zeros_bd (n : Nat) : ∀ z ∈ List.replicate n (0 : Int), 0 ≤ z ∧ z ≤ 255 := by
  intro z hz
  obtain ⟨_, rfl⟩ := List.mem_replicate.1 hz
  decide
end Go.Proofs.Ytbgnlbgoeogbaaa

namespace Go.Proofs.Ytbgnlbgoeogbaaa
open Go.RowKit
set_option linter.unusedVariables false

/-! The landed Unturn: longer, Unturn. -/
noncomputable def nt13 (B : Nat → Int) (n i u : Nat) : Nat := bk12 n B (u : Int) + cn12 (fun j => B j = (u : Int) ∧ j < i) n
theorem nt13_zero (B : Nat → Int) (n u : Nat) : nt13 B n 0 u = bk12 n B (u : Int) := by
  unfold nt13
  rw [cn12_none (fun j _ h => by omega)]
  omega
theorem nt13_hit {B : Nat → Int} {n i v : Nat} (hi : i < n) (hv : B i = (v : Int)) : nt13 B n (i + 1) v = nt13 B n i v + 1 := by
  unfold nt13
  rw [cn12_upd (P := fun j => B j = (v : Int) ∧ j < i) (Q := fun j => B j = (v : Int) ∧ j < i + 1) (j := i) hi (by omega) (fun j _ => by
    constructor
    · rintro ⟨h1, h2⟩
      by_cases c : j = i
      · exact Or.inr c
      · exact Or.inl ⟨h1, by omega⟩
    · rintro (⟨h1, h2⟩ | h1)
      · exact ⟨h1, by omega⟩
      · subst h1; exact ⟨hv, by omega⟩)]
  omega
theorem nt13_not {B : Nat → Int} {n i v u : Nat} (hv : B i = (v : Int)) (hu : u ≠ v) : nt13 B n (i + 1) u = nt13 B n i u := by
  unfold nt13
  rw [cn12_congr (P := fun j => B j = (u : Int) ∧ j < i + 1) (Q := fun j => B j = (u : Int) ∧ j < i) (fun j _ => by
    constructor
    · rintro ⟨h1, h2⟩
      have : j ≠ i := by intro e; subst e; omega
      exact ⟨h1, by omega⟩
    · rintro ⟨h1, h2⟩
      exact ⟨h1, by omega⟩)]
theorem nt13_nx {B : Nat → Int} {n i v : Nat} (hi : i < n) (hv : B i = (v : Int)) : nt13 B n i v + 1 = nx13 B n i := by
  unfold nt13 nx13 bk12
  rw [cn12_or (P := fun j => lt13 B j i) (Q := fun j => B j < (v : Int)) (R := fun j => B j = (v : Int) ∧ j < i) (fun j _ => by unfold lt13; rw [hv]) (fun j _ => by omega)]
theorem cn12_top (P : Nat → Prop) (n : Nat) : cn12 P n ≤ n := by
  have h1 := cn12_le (P := P) (Q := fun _ => True) (n := n) (fun _ _ _ => trivial)
  have h2 := cn12_all (P := fun _ => True) (n := n) (fun _ _ => trivial)
  omega
theorem nt13_le (B : Nat → Int) (n i u : Nat) : nt13 B n i u ≤ 2 * n := by
  unfold nt13 bk12
  have h1 := cn12_top (fun j => B j < (u : Int)) n
  have h2 := cn12_top (fun j => B j = (u : Int) ∧ j < i) n
  omega
def LgQ13 (w : World) (b : List Int) (n : Nat) (e : Ending) (w' : World) : Prop := ∃ g O, e = .returned (.slice (some ⟨g, 0, none⟩) n n) ∧ Rz12 w' g O ∧ O.length = n ∧ (∀ k, k < n → O.getD k 0 = ((nx13 (S12 b) n k : Nat) : Int)) ∧ w.heap.size ≤ g ∧ Below w.heap.size w w'
set_option maxRecDepth 100000 in
set_option maxHeartbeats 4000000 in
theorem plong13 (a : Option Addr) (z : List Int) (n cap : Nat) (w : World) (hs : Seg w a z) (hn : Hid (z.length = n)) (hb : n ≤ 16777216) :
    Calls Try.prog 45 #[.slice a n cap] w (LgQ13 w z n) := by
  have HN := pnum13 a z n cap w hs hn (by omega)
  have hv := seg_bd13 hs
  have HB : Hid (∀ w1 g, Rz12 w1 g z → Calls Try.prog 11 #[.int .i64 256, .slice (some ⟨g, 0, none⟩) n n] w1 (BkQ12 w1 256 z)) := fun w1 g R => pbks12 256 (some ⟨g, 0, none⟩) z n n w1 (R.seg (bd13 hv)) hn (ref13 hn.out hb hv)
  have HV : Hid (∀ i, i < n → 0 ≤ S12 z i ∧ S12 z i ≤ 255) := fun i hi => by
    have hl : i < z.length := by rw [hn.out]; exact hi
    have : S12 z i = z[i] := by unfold S12; simp [List.getD, hl]
    rw [this]; exact hv _ (List.getElem_mem hl)
  have HN0 : Hid (∀ u, u < 256 → (bnd12 256 z).getD u 0 = ((nt13 (S12 z) n 0 u : Nat) : Int)) := fun u hu => by rw [bnd12_get 256 z u (by omega), cnt12_bk, hn.out, nt13_zero]
  have HSD : Hid (∀ W, Below w.heap.size w W → Seg W a z) := fun W hb => hs.old hb
  clear hs hv
  go_enter Try.func45, Try.ntmps45
  go_wp2_with (first
    | (go_at_call 57; refine HN.mono ?_; rintro e1 w1 ⟨rfl, R1, B1⟩; clear HN)
    | (go_at_call 11; refine (HB.out w1 _ R1).mono ?_; rintro e2 w2 ⟨gf, gt, rfl, Rf, Rt, q1, q2, B2⟩; have HM := run_make_i12 n (by omega) w2))
  have D2 := B1.trans (B2.mono B1.size)
  have z1 := B1.size
  have lf := Rf.lt
  have Al : Below w2.heap.size w2 (w2.alloc (.cells (vi12 (List.replicate n 0)) 3)) := (Below.refl _ _).alloc (Nat.le_refl _) _
  have R0 := Rz12.new w2 (List.replicate n 0)
  have Rf3 := Rf.old Al
  have D3 := D2.trans (Al.mono D2.size)
  obtain ⟨w3, hw3⟩ : ∃ w3, w2.alloc (.cells (vi12 (List.replicate n 0)) 3) = w3 := ⟨_, rfl⟩
  obtain ⟨go, hgo⟩ : ∃ go, w2.heap.size = go := ⟨_, rfl⟩
  rw [hw3] at R0 Rf3 D3 ⊢
  rw [hgo] at R0 lf ⊢
  have HZ : Hid (w.heap.size ≤ go ∧ w.heap.size ≤ gf ∧ gf < go) := ⟨by have := D2.size; omega, by omega, by omega⟩
  have HBL : (bnd12 256 z).length = 257 := bnd12_len 256 z
  clear R1 Rf Rt B1 B2 D2 Al HM hw3 hgo q1 q2 z1 lf
  go_loopw [21] (fun ti wr => ∃ (i : Nat) (N O : List Int), i ≤ n ∧ ti = .int .i64 i ∧ Rz12 wr gf N ∧ Rz12 wr go O ∧ N.length = 257 ∧ O.length = n ∧ Hid (∀ u, u < 256 → N.getD u 0 = ((nt13 (S12 z) n i u : Nat) : Int)) ∧ Hid (∀ k, k < i → O.getD k 0 = ((nx13 (S12 z) n k : Nat) : Int)) ∧ Below w.heap.size w wr) (fun ti _ => n - (intOf ti).toNat)
  case atStart => exact ⟨0, bnd12 256 z, List.replicate n 0, Nat.zero_le _, rfl, Rf3, R0, HBL, by simp, HN0, (fun k hk => absurd hk (Nat.not_lt_zero _) : ∀ k, k < 0 → _), D3⟩
  case round =>
    obtain ⟨i, N, O, hi, rfl, RN, RO, lN, lO, HNN, HOO, DW⟩ := hrel
    clear Rf3 R0 D3
    by_cases h1 : i < n
    · have h1i : (i : Int) < (n : Int) := by omega
      obtain ⟨db, dof, rfl, c0⟩ := (HSD.out wr DW).at_ i (by rw [hn.out]; exact h1)
      have vb := HV.out i h1
      obtain ⟨v, hv⟩ := Int.eq_ofNat_of_zero_le vb.1
      have hv2 : S12 z i = (v : Int) := hv
      have c1 : wr.cell? ⟨db, dof + i, none⟩ = some (.int .u8 (v : Int)) := by rw [← hv2]; exact c0
      have hvl : v < 256 := by omega
      have hvi : (v : Int) < 256 := by omega
      have c2 := RN.cell (i := v) (by omega)
      have f2 := RN.free v
      rw [HNN.out v hvl] at c2
      have hnt := nt13_le (S12 z) n i v
      have HNX : Hid (nt13 (S12 z) n i v + 1 = nx13 (S12 z) n i) := nt13_nx h1 hv2
      have RN2 := RN.set v ((nt13 (S12 z) n i v : Nat) + 1 : Int)
      have RO2 := RO.kp (Kp.set (S := fun k => k = gf) (w := wr) (i := v) rfl (.int .i64 ((nt13 (S12 z) n i v : Nat) + 1 : Int))) (by have := HZ.out; omega)
      have c3 := RN2.cell (i := v) (by rw [List.length_set]; omega)
      rw [getD_set12 N v _ v (by omega), if_pos rfl] at c3
      have c4 := RO2.cell (i := i) (by omega)
      have f4 := RO2.free i
      have HR3 : Hid (Rz12 (((wr.setCell ⟨gf, v, none⟩ (.int .i64 ((nt13 (S12 z) n i v : Nat) + 1 : Int)))).setCell ⟨go, i, none⟩ (.int .i64 ((nt13 (S12 z) n i v : Nat) + 1 : Int))) gf (N.set v ((nt13 (S12 z) n i v : Nat) + 1 : Int)) ∧ Rz12 (((wr.setCell ⟨gf, v, none⟩ (.int .i64 ((nt13 (S12 z) n i v : Nat) + 1 : Int)))).setCell ⟨go, i, none⟩ (.int .i64 ((nt13 (S12 z) n i v : Nat) + 1 : Int))) go (O.set i ((nt13 (S12 z) n i v : Nat) + 1 : Int)) ∧ Below w.heap.size w (((wr.setCell ⟨gf, v, none⟩ (.int .i64 ((nt13 (S12 z) n i v : Nat) + 1 : Int)))).setCell ⟨go, i, none⟩ (.int .i64 ((nt13 (S12 z) n i v : Nat) + 1 : Int)))) := by
        refine ⟨RN2.kp (Kp.set (S := fun k => k = go) rfl _) (by have := HZ.out; omega), RO2.set i _, ?_⟩
        have k1 : Kp (fun k => k = gf ∨ k = go) wr (((wr.setCell ⟨gf, v, none⟩ (.int .i64 ((nt13 (S12 z) n i v : Nat) + 1 : Int)))).setCell ⟨go, i, none⟩ (.int .i64 ((nt13 (S12 z) n i v : Nat) + 1 : Int))) := (Kp.set (S := fun k => k = gf ∨ k = go) (Or.inl rfl) _).trans (Kp.set (S := fun k => k = gf ∨ k = go) (Or.inr rfl) _) (fun _ _ e => e)
        exact DW.trans (k1.below (fun k e => by have := HZ.out; omega) DW.size)
      have HNS : Hid (∀ u, u < 256 → (N.set v ((nt13 (S12 z) n i v : Nat) + 1 : Int)).getD u 0 = ((nt13 (S12 z) n (i + 1) u : Nat) : Int)) := fun u hu => by
        rw [getD_set12 N v _ u (by omega)]
        by_cases c : u = v
        · subst c
          rw [if_pos rfl, nt13_hit h1 hv2]
          omega
        · rw [if_neg c, nt13_not hv2 c]
          exact HNN.out u hu
      have HOS : Hid (∀ k, k < i + 1 → (O.set i ((nt13 (S12 z) n i v : Nat) + 1 : Int)).getD k 0 = ((nx13 (S12 z) n k : Nat) : Int)) := fun k hk => by
        rw [getD_set12 O i _ k (by omega)]
        by_cases c : k = i
        · subst c
          rw [if_pos rfl, ← HNX.out]
          omega
        · rw [if_neg c]
          exact HOO.out k (by omega)
      have hne : ¬ gf = go := by have := HZ.out; omega
      have hne2 : ¬ go = gf := by have := HZ.out; omega
      clear RN RO RN2 RO2 HNX hv hv2 vb c0
      generalize nt13 (S12 z) n i v = y at *
      generalize O.getD i 0 = o1 at c4
      go_wp2_with fail
      go_roundw
      case rel => exact ⟨i + 1, _, _, by omega, by go_num, HR3.out.1, HR3.out.2.1, by rw [List.length_set]; exact lN, by rw [List.length_set]; exact lO, HNS, HOS, HR3.out.2.2⟩
      case measure => simp [intOf]; omega
    · have h1i : ¬ (i : Int) < (n : Int) := by omega
      obtain rfl : i = n := by omega
      go_wp2_with fail
      go_ret
      exact ⟨go, O, rfl, RO, lO, HOO.out, HZ.out.1, DW⟩
end Go.Proofs.Ytbgnlbgoeogbaaa
