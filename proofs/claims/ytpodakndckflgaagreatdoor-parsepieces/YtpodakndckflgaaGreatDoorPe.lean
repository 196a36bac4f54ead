import Derived.Test.YtpodakndckflgaaGreatDoorPd
import Derived.Below
import Derived.Test.YtpodakndckflgaaGreatDoorProg
import Derived.WalkKit
import Derived.WalkSpells
import Derived.Test.YtpodakndckflgaaGreatDoorPa
import Derived.Deep.QuietTactic
import Derived.BigQuiet
import Derived.Deep.RegionHeld3
import Derived.Deep.AppendLies
import Derived.Laws.MakeOwn
import Derived.Laws.BytesArg
namespace Go.Proofs.YtpodakndckflgaaGreatDoor
open Go.RowKit Go.Shelf
set_option linter.unusedVariables false
structure Bx18 (w : World) (h : Hd18) (wA : World) (b4 : Nat) : Prop where
  wa : w.alloc (.cells #[.int .i64 h.o, .int .i64 h.n, .int .u32 h.so, .int .u32 h.sn, .int .i64 h.wi, .int .i64 h.lo] 34) = wA
  b : w.heap.size = b4
  q : wA.heap[b4]? = some (.cells h.cs 34 (0, 0))
  bl : Below w.heap.size w wA
  sz : wA.heap.size = w.heap.size + 1
theorem bx18 (w : World) (h : Hd18) : ∃ wA b4, Bx18 w h wA b4 := by
  have cA := cb16 w h.cs 34
  exact ⟨_, _, rfl, rfl, cA.cl, cA.bl, cA.sz⟩
structure Cl18 (V : World) (b4 : Nat) (h : Hd18) : Prop where
  c0 : V.cell? ⟨b4, 0, none⟩ = some (.int .i64 h.o)
  c1 : V.cell? ⟨b4, 1, none⟩ = some (.int .i64 h.n)
  c2 : V.cell? ⟨b4, 2, none⟩ = some (.int .u32 h.so)
  c3 : V.cell? ⟨b4, 3, none⟩ = some (.int .u32 h.sn)
  c4 : V.cell? ⟨b4, 4, none⟩ = some (.int .i64 h.wi)
  c5 : V.cell? ⟨b4, 5, none⟩ = some (.int .i64 h.lo)
theorem cl18 {V : World} {b4 : Nat} {h : Hd18} (q : V.heap[b4]? = some (.cells h.cs 34 (0, 0))) : Cl18 V b4 h := ⟨cell18 q rfl, cell18 q rfl, cell18 q rfl, cell18 q rfl, cell18 q rfl, cell18 q rfl⟩
theorem Bx18.cl {w wA : World} {h : Hd18} {b4 : Nat} (x : Bx18 w h wA b4) {V : World} (hV : Below wA.heap.size wA V) : Cl18 V b4 h := cl18 ((hV.block _ (Array.getElem?_eq_some_iff.1 x.q).1).trans x.q)
open Classical in
noncomputable def win18 (h : Hd18) : Int := if h.Ok then (h.n + h.wi - 1) / h.wi else 0
open Classical in
noncomputable def siz18 (h : Hd18) (i : Int) : Int := if i < 0 ∨ win18 h ≤ i then 0 else min h.wi (h.n - i * h.wi)
theorem win18_bd (h : Hd18) : 0 ≤ win18 h ∧ win18 h ≤ 16777216 ∧ (∀ i, 0 ≤ i → i < win18 h → 0 ≤ i * h.wi ∧ i * h.wi < h.n ∧ h.Ok) := by
  unfold win18
  split
  · rename_i hk
    obtain ⟨x0, x1, x2, x3⟩ := id hk
    refine ⟨Int.ediv_nonneg (by omega) (by omega), ?_, ?_⟩
    · have := Int.ediv_le_self (b := h.wi) (a := h.n + h.wi - 1) (by omega)
      have h2 : (h.n + h.wi - 1) / h.wi < 16777217 := by
        refine Int.ediv_lt_of_lt_mul (by omega) ?_
        have : 16777217 * 64 ≤ 16777217 * h.wi := Int.mul_le_mul_of_nonneg_left x2.1 (by decide)
        omega
      omega
    · intro i h0 h1
      have h2 : (i + 1) * h.wi ≤ h.n + h.wi - 1 := by
        have := (Int.le_ediv_iff_mul_le (c := h.wi) (by omega)).1 (show i + 1 ≤ (h.n + h.wi - 1) / h.wi by omega)
        exact this
      rw [Int.add_mul, Int.one_mul] at h2
      exact ⟨Int.mul_nonneg h0 (by omega), by omega, hk⟩
  · exact ⟨by omega, by omega, fun i h0 h1 => by omega⟩
set_option maxRecDepth 100000 in
theorem pwin18 (h : Hd18) (w : World) : Calls Tryz.prog 45 #[.agg #[.int .i64 h.o, .int .i64 h.n, .int .u32 h.so, .int .u32 h.sn, .int .i64 h.wi, .int .i64 h.lo]] w fun e w' => e = .returned (.int .i64 (win18 h)) ∧ Below w.heap.size w w' := by
  obtain ⟨wA, b4, X⟩ := bx18 w h
  have HX : Hid (Bx18 w h wA b4) := X
  have CK := pchk18 h wA
  obtain ⟨a0, a1, a2, a3, a4, a5⟩ := X.cl (Below.refl _ _)
  rw [← X.wa] at a0 a1 a2 a3 a4 a5
  rw [← X.b] at a0 a1 a2 a3 a4 a5
  unfold win18
  by_cases hk : h.Ok
  · rw [if_pos hk]
    rw [if_pos hk] at CK
    obtain ⟨x0, x1, x2, x3⟩ := hk
    have HCL : Hid (∀ V, Below wA.heap.size wA V → Cl18 V b4 h) := fun V hV => X.cl hV
    clear X
    have hw1 : IntKind.i64.wrap (h.n + h.wi) = h.n + h.wi := IntWalk.i64_in _ (by omega)
    have hw2 : IntKind.i64.wrap (h.n + h.wi - 1) = h.n + h.wi - 1 := IntWalk.i64_in _ (by omega)
    have hne : ¬ h.wi = 0 := by omega
    have hne2 : (h.wi == 0) = false := by simp [hne]
    have hd0 : 0 ≤ h.n + h.wi - 1 := by omega
    have hdv : Int.tdiv (h.n + h.wi - 1) h.wi = (h.n + h.wi - 1) / h.wi := by rw [Int.tdiv_eq_ediv_of_nonneg hd0]
    have hq : IntKind.i64.wrap ((h.n + h.wi - 1) / h.wi) = (h.n + h.wi - 1) / h.wi := IntWalk.i64_in _ (by
      have := Int.ediv_nonneg hd0 (show 0 ≤ h.wi by omega)
      have := Int.ediv_le_self (a := h.n + h.wi - 1) h.wi hd0
      omega)
    clear x0 x1 x2 x3
    go_enter Tryz.func45, Tryz.ntmps45
    go_wp2_with fail
    rw [HX.out.wa, HX.out.b]
    refine CK.mono ?_
    rintro e1 w1 ⟨rfl, b1⟩
    clear a0 a1 a2 a3 a4 a5
    obtain ⟨a0, a1, a2, a3, a4, a5⟩ := HCL.out w1 b1
    go_wp2_with fail
    go_ret
    exact ⟨rfl, HX.out.bl.trans (b1.mono HX.out.bl.size)⟩
  · rw [if_neg hk]
    rw [if_neg hk] at CK
    clear X hk
    go_enter Tryz.func45, Tryz.ntmps45
    go_wp2_with fail
    rw [HX.out.wa, HX.out.b]
    refine CK.mono ?_
    rintro e1 w1 ⟨rfl, b1⟩
    go_wp2_with fail
    go_ret
    exact ⟨rfl, HX.out.bl.trans (b1.mono HX.out.bl.size)⟩
set_option maxRecDepth 100000 in
set_option maxHeartbeats 1000000 in
theorem psiz18 (h : Hd18) (i : Int) (w : World) : Calls Tryz.prog 47 #[.agg #[.int .i64 h.o, .int .i64 h.n, .int .u32 h.so, .int .u32 h.sn, .int .i64 h.wi, .int .i64 h.lo], .int .i64 i] w fun e w' => e = .returned (.int .i64 (siz18 h i)) ∧ Below w.heap.size w w' := by
  obtain ⟨wA, b4, X⟩ := bx18 w h
  have HX : Hid (Bx18 w h wA b4) := X
  have CW := pwin18 h wA
  obtain ⟨a0, a1, a2, a3, a4, a5⟩ := X.cl (Below.refl _ _)
  rw [← X.wa] at a0 a1 a2 a3 a4 a5
  rw [← X.b] at a0 a1 a2 a3 a4 a5
  have HCL : Hid (∀ V, Below wA.heap.size wA V → Cl18 V b4 h) := fun V hV => X.cl hV
  clear X
  unfold siz18
  by_cases h0 : i < 0
  · rw [if_pos (.inl h0)]
    go_enter Tryz.func47, Tryz.ntmps47
    go_wp2_with fail
    rw [HX.out.wa]
    go_ret
    exact ⟨rfl, HX.out.bl⟩
  · by_cases h1 : win18 h ≤ i
    · rw [if_pos (.inr h1)]
      generalize win18 h = W at *
      go_enter Tryz.func47, Tryz.ntmps47
      go_wp2_with fail
      rw [HX.out.wa, HX.out.b]
      refine CW.mono ?_
      rintro e1 w1 ⟨rfl, b1⟩
      go_wp2_with fail
      go_ret
      exact ⟨rfl, HX.out.bl.trans (b1.mono HX.out.bl.size)⟩
    · rw [if_neg (by omega)]
      obtain ⟨p0, p1, hk⟩ := (win18_bd h).2.2 i (by omega) (by omega)
      obtain ⟨x0, x1, x2, x3⟩ := hk
      obtain ⟨P, hP⟩ : ∃ P, P = i * h.wi := ⟨_, rfl⟩
      rw [← hP] at p0 p1 ⊢
      have hmu : IntKind.i64.wrap (i * h.wi) = P := by rw [← hP]; exact IntWalk.i64_in _ (by omega)
      have hsb : IntKind.i64.wrap (h.n - P) = h.n - P := IntWalk.i64_in _ (by omega)
      clear hP x0 x1 x2 x3 p0 p1
      generalize win18 h = W at *
      by_cases hlt : h.n - P < h.wi
      · rw [show min h.wi (h.n - P) = h.n - P by omega]
        go_enter Tryz.func47, Tryz.ntmps47
        go_wp2_with fail
        rw [HX.out.wa, HX.out.b]
        refine CW.mono ?_
        rintro e1 w1 ⟨rfl, b1⟩
        clear a0 a1 a2 a3 a4 a5
        obtain ⟨a0, a1, a2, a3, a4, a5⟩ := HCL.out w1 b1
        go_wp2_with fail
        go_ret
        exact ⟨rfl, HX.out.bl.trans (b1.mono HX.out.bl.size)⟩
      · rw [show min h.wi (h.n - P) = h.wi by omega]
        go_enter Tryz.func47, Tryz.ntmps47
        go_wp2_with fail
        rw [HX.out.wa, HX.out.b]
        refine CW.mono ?_
        rintro e1 w1 ⟨rfl, b1⟩
        clear a0 a1 a2 a3 a4 a5
        obtain ⟨a0, a1, a2, a3, a4, a5⟩ := HCL.out w1 b1
        go_wp2_with fail
        go_ret
        exact ⟨rfl, HX.out.bl.trans (b1.mono HX.out.bl.size)⟩
end Go.Proofs.YtpodakndckflgaaGreatDoor

namespace Go.Proofs.YtpodakndckflgaaGreatDoor
set_option linter.unusedVariables false
structure Tok7 where
  lit : Int
  len : Int
  dist : Int
def may7 (t : Tok7) : Prop := if t.len = 0 then t.dist = 0 else 3 ≤ t.len ∧ t.len ≤ 258 ∧ 1 ≤ t.dist ∧ t.dist ≤ 32768 ∧ t.lit = 0
instance (t : Tok7) : Decidable (may7 t) := by unfold may7; infer_instance
def wid7 (t : Tok7) : Nat := if may7 t then (if t.len = 0 then 1 else t.len.toNat) else 0
def siz7 : List Tok7 → Nat
  | [] => 0
  | t :: r => wid7 t + siz7 r
def far7 (win : Int) (tot : Nat) (t : Tok7) : Prop := 0 < t.len ∧ (win < t.dist ∨ (tot : Int) < t.dist)
instance (win : Int) (tot : Nat) (t : Tok7) : Decidable (far7 win tot t) := by unfold far7; infer_instance
/-- The tokens are in order, where tot bytes stand ahead. -/
def ok7 (win : Int) : List Tok7 → Nat → Prop
  | [], _ => True
  | t :: r, tot => may7 t ∧ ¬ far7 win tot t ∧ ok7 win r (tot + wid7 t)
/-- n bytes, each the one that stands d ahead. -/
def cp7 (b : List Int) (d : Nat) : Nat → List Int
  | 0 => b
  | n + 1 => cp7 b d n ++ [(cp7 b d n).getD ((cp7 b d n).length - d) 0]
def tok7 (b : List Int) (t : Tok7) : List Int := if t.len = 0 then b ++ [t.lit] else cp7 b t.dist.toNat t.len.toNat
def exp7 (b : List Int) : List Tok7 → List Int
  | [] => b
  | t :: r => exp7 (tok7 b t) r
end Go.Proofs.YtpodakndckflgaaGreatDoor

namespace Go.Proofs.YtpodakndckflgaaGreatDoor
set_option linter.unusedVariables false
def alg7 (D : List Int) (q p : Nat) : Nat → Nat → Nat
  | 0, n => n
  | f + 1, n => if p + n < D.length ∧ D.getD (q + n) 0 = D.getD (p + n) 0 then alg7 D q p f (n + 1) else n
def al7 (D : List Int) (q p : Nat) : Nat := alg7 D q p 258 0
theorem alg7_same (D : List Int) (q p : Nat) : ∀ f n i, n ≤ i → i < alg7 D q p f n → p + i < D.length ∧ D.getD (q + i) 0 = D.getD (p + i) 0
  | 0, n, i, h1, h2 => by rw [alg7] at h2; omega
  | f + 1, n, i, h1, h2 => by
    rw [alg7] at h2
    split at h2
    · rename_i h
      by_cases e : i = n
      · subst e; exact h
      · exact alg7_same D q p f (n + 1) i (by omega) h2
    · omega
theorem al7_same {D : List Int} {q p i : Nat} (h : i < al7 D q p) : p + i < D.length ∧ D.getD (q + i) 0 = D.getD (p + i) 0 := alg7_same D q p 258 0 i (Nat.zero_le _) h
/-- A match that is there. -/
structure Mt7 (D : List Int) (p win n d : Nat) : Prop where
  n3 : 3 ≤ n
  n258 : n ≤ 258
  d1 : 1 ≤ d
  dw : d ≤ win
  dp : d ≤ p
  al : n ≤ al7 D (p - d) p
/-- These tokens are the bytes of D from p on, over this window. -/
def Tz7 (D : List Int) (win : Nat) : List Tok7 → Nat → Prop
  | [], p => p = D.length
  | t :: r, p => p < D.length ∧ ((t = ⟨D.getD p 0, 0, 0⟩ ∧ Tz7 D win r (p + 1)) ∨ ∃ n d : Nat, t = ⟨0, n, d⟩ ∧ Mt7 D p win n d ∧ Tz7 D win r (p + n))
theorem Mt7.fits {D : List Int} {p win n d : Nat} (h : Mt7 D p win n d) : p + n ≤ D.length := by
  have := (al7_same (D := D) (q := p - d) (p := p) (i := n - 1) (by have := h.al; have := h.n3; omega)).1
  have := h.n3
  omega
theorem getD_take7 (A : List Int) (j i : Nat) (h : i < j) : (A.take j).getD i 0 = A.getD i 0 := by simp [List.getD, h]
theorem take_succ7 (D : List Int) (p : Nat) (h : p < D.length) : D.take (p + 1) = D.take p ++ [D.getD p 0] := by
  rw [List.take_succ_eq_append_getElem h]; simp [List.getD, h]
theorem cp7_mt {D : List Int} {p win n d : Nat} (h : Mt7 D p win n d) : ∀ i, i ≤ n → cp7 (D.take p) d i = D.take (p + i)
  | 0, _ => rfl
  | i + 1, hi => by
    have h1 := h.fits
    have ih := cp7_mt h i (by omega)
    have hs := al7_same (D := D) (q := p - d) (p := p) (i := i) (by have := h.al; omega)
    rw [cp7, ih, show p + (i + 1) = p + i + 1 by omega, take_succ7 D (p + i) (by omega)]
    have hl : (D.take (p + i)).length = p + i := by rw [List.length_take]; omega
    have d1 := h.d1
    have dp := h.dp
    rw [hl, getD_take7 _ _ _ (by omega), ← hs.2, show p - d + i = p + i - d by omega]
theorem Mt7.wid {D : List Int} {p win n d : Nat} (h : Mt7 D p win n d) (hw : win ≤ 32768) : may7 ⟨0, n, d⟩ ∧ wid7 ⟨0, n, d⟩ = n := by
  have h1 := h.n3
  have h2 := h.n258
  have h3 := h.d1
  have h4 := h.dw
  have hm : may7 ⟨0, n, d⟩ := by
    unfold may7
    simp only
    rw [if_neg (by omega)]
    exact ⟨by omega, by omega, by omega, by omega, trivial⟩
  refine ⟨hm, ?_⟩
  unfold wid7
  rw [if_pos hm]
  simp only
  rw [if_neg (by omega)]
  omega
theorem lit7_wid (z : Int) : may7 ⟨z, 0, 0⟩ ∧ wid7 ⟨z, 0, 0⟩ = 1 := by
  have hm : may7 ⟨z, 0, 0⟩ := by unfold may7; simp
  refine ⟨hm, ?_⟩
  unfold wid7
  rw [if_pos hm]
  simp
theorem Tz7.all {D : List Int} {win : Nat} (hw : win ≤ 32768) : ∀ (l : List Tok7) (p : Nat), Tz7 D win l p → ok7 win l p ∧ exp7 (D.take p) l = D ∧ siz7 l = D.length - p ∧ l.length ≤ D.length - p
  | [], p, h => by
    rw [Tz7] at h
    subst h
    exact ⟨trivial, by rw [exp7, List.take_length], by simp [siz7], by simp⟩
  | t :: r, p, ⟨hp, h⟩ => by
    rcases h with ⟨rfl, h⟩ | ⟨n, d, rfl, hm, h⟩
    · obtain ⟨a1, a2, a3, a4⟩ := Tz7.all hw r (p + 1) h
      have hl := lit7_wid (D.getD p 0)
      refine ⟨⟨hl.1, by unfold far7; simp, by rw [hl.2]; exact a1⟩, ?_, by rw [siz7, hl.2, a3]; omega, by rw [List.length_cons]; omega⟩
      rw [exp7]
      unfold tok7
      simp only [if_true]
      rw [← take_succ7 D p hp]
      exact a2
    · obtain ⟨a1, a2, a3, a4⟩ := Tz7.all hw r (p + n) h
      have hl := hm.wid hw
      have h1 := hm.n3
      have h2 := hm.fits
      have h3 := hm.dw
      have h4 := hm.dp
      refine ⟨⟨hl.1, by unfold far7; simp only; omega, by rw [hl.2]; exact a1⟩, ?_, by rw [siz7, hl.2, a3]; omega, by rw [List.length_cons]; omega⟩
      rw [exp7]
      unfold tok7
      simp only
      rw [if_neg (by omega), Int.toNat_natCast, Int.toNat_natCast, cp7_mt hm n (Nat.le_refl _)]
      exact a2
end Go.Proofs.YtpodakndckflgaaGreatDoor

namespace Go.Proofs.YtpodakndckflgaaGreatDoor
open Go.RowKit
set_option linter.unusedVariables false
def Tok7.val (t : Tok7) : Value := .agg #[.int .u8 t.lit, .int .i64 t.len, .int .i64 t.dist]
structure TkAt (w : World) (g o : Nat) (t : Tok7) : Prop where
  c0 : w.cell? ⟨g, o, none⟩ = some (.int .u8 t.lit)
  c1 : w.cell? ⟨g, o + 1, none⟩ = some (.int .i64 t.len)
  c2 : w.cell? ⟨g, o + 2, none⟩ = some (.int .i64 t.dist)
theorem TkAt.of_block {w w' : World} {g o : Nat} {x : Tok7} (h : TkAt w g o x) (hb : w'.heap[g]? = w.heap[g]?) : TkAt w' g o x :=
  ⟨(World.cell?_of_block (a := ⟨g, o, none⟩) hb).trans h.c0, (World.cell?_of_block (a := ⟨g, o + 1, none⟩) hb).trans h.c1, (World.cell?_of_block (a := ⟨g, o + 2, none⟩) hb).trans h.c2⟩
theorem TkAt.lt {w : World} {g o : Nat} {x : Tok7} (h : TkAt w g o x) : g < w.heap.size := World.block_lt_of_cell? w _ h.c0
abbrev tk0 : Tok7 := ⟨0, 0, 0⟩
def Tok7.Fit (t : Tok7) : Prop := (0 ≤ t.lit ∧ t.lit ≤ 255) ∧ (-9223372036854775808 ≤ t.len ∧ t.len ≤ 9223372036854775807) ∧ (-9223372036854775808 ≤ t.dist ∧ t.dist ≤ 9223372036854775807)
structure SegT (w : World) (a : Option Addr) (l : List Tok7) : Prop where
  at_ : ∀ i, i < l.length → ∃ b off, a = some ⟨b, off, none⟩ ∧ TkAt w b (off + i * 3) (l.getD i tk0)
  fit : ∀ t ∈ l, t.Fit
theorem SegT.nil (w : World) (a : Option Addr) : SegT w a [] := ⟨fun i h => by simp at h, fun t h => by simp at h⟩
theorem SegT.kp {w w' : World} {S : Nat → Prop} {a : Option Addr} {l : List Tok7} (h : SegT w a l) (hb : Kp S w w') (hn : ∀ b off, a = some ⟨b, off, none⟩ → 0 < l.length → ¬ S b) : SegT w' a l := by
  refine ⟨fun i hi => ?_, h.fit⟩
  obtain ⟨b, off, ha, ht⟩ := h.at_ i hi
  exact ⟨b, off, ha, ht.of_block (hb.block b ht.lt (hn b off ha (by omega)))⟩
theorem SegT.old {w w' : World} {a : Option Addr} {l : List Tok7} (h : SegT w a l) (hb : Below w.heap.size w w') : SegT w' a l := h.kp (S := fun _ => False) (Kp.of_below hb) (fun _ _ _ _ e => e)
theorem SegT.lt {w : World} {a : Option Addr} {l : List Tok7} (h : SegT w a l) : ∀ b off, a = some ⟨b, off, none⟩ → 0 < l.length → b < w.heap.size := by
  intro b off e hl
  obtain ⟨b', off', ha, ht⟩ := h.at_ 0 hl
  rw [e] at ha
  cases ha
  exact ht.lt
theorem SegT.take {w : World} {a : Option Addr} {l : List Tok7} (h : SegT w a l) (n : Nat) : SegT w a (l.take n) := by
  refine ⟨fun i hi => ?_, fun t ht => h.fit t (List.mem_of_mem_take ht)⟩
  rw [List.length_take] at hi
  obtain ⟨b, off, ha, ht⟩ := h.at_ i (by omega)
  refine ⟨b, off, ha, ?_⟩
  have : (l.take n).getD i tk0 = l.getD i tk0 := by simp [List.getD, show i < n by omega]
  rw [this]
  exact ht
theorem below_box {w : World} (cs : Array Value) (t : TypeId) : Below w.heap.size w (w.alloc (.cells cs t)) := (Below.refl _ _).alloc (Nat.le_refl _) _

end Go.Proofs.YtpodakndckflgaaGreatDoor

namespace Go.Proofs.YtpodakndckflgaaGreatDoor
open Go.RowKit
set_option linter.unusedVariables false
def opt7 (win chain : Int) : Int := if win < 1 ∨ 32768 < win ∨ chain < 0 ∨ 4096 < chain then 72 else 0
def look7 (win chain : Int) (lazy : Bool) : Value := .agg #[.int .i64 win, .int .i64 chain, .bool lazy]
end Go.Proofs.YtpodakndckflgaaGreatDoor

namespace Go.Proofs.YtpodakndckflgaaGreatDoor
open Go.RowKit
set_option linter.unusedVariables false
structure LkAt (w : World) (g : Nat) (win chain : Int) (lazy : Bool) : Prop where
  c0 : w.cell? ⟨g, 0, none⟩ = some (.int .i64 win)
  c1 : w.cell? ⟨g, 1, none⟩ = some (.int .i64 chain)
  c2 : w.cell? ⟨g, 2, none⟩ = some (.bool lazy)
theorem LkAt.of_block {w w' : World} {g : Nat} {win chain : Int} {lazy : Bool} (h : LkAt w g win chain lazy) (hb : w'.heap[g]? = w.heap[g]?) : LkAt w' g win chain lazy :=
  ⟨(World.cell?_of_block (a := ⟨g, 0, none⟩) hb).trans h.c0, (World.cell?_of_block (a := ⟨g, 1, none⟩) hb).trans h.c1, (World.cell?_of_block (a := ⟨g, 2, none⟩) hb).trans h.c2⟩
theorem LkAt.lt {w : World} {g : Nat} {win chain : Int} {lazy : Bool} (h : LkAt w g win chain lazy) : g < w.heap.size := World.block_lt_of_cell? w _ h.c0
end Go.Proofs.YtpodakndckflgaaGreatDoor

namespace Go.Proofs.YtpodakndckflgaaGreatDoor
open Go.RowKit
set_option linter.unusedVariables false
set_option maxRecDepth 100000 in
set_option maxHeartbeats 1000000 in
theorem popt7 (win chain : Int) (lazy : Bool) (w : World) : Calls Tryz.prog 44 #[look7 win chain lazy] w fun e w' => e = .returned (.int .i64 (opt7 win chain)) ∧ Below w.heap.size w w' := by
  unfold look7
  by_cases h1 : win < 1
  · have HE : opt7 win chain = 72 := by unfold opt7; rw [if_pos (.inl h1)]
    rw [HE]
    go_enter Tryz.func44, Tryz.ntmps44
    go_wp2_with fail
    go_ret
    exact ⟨rfl, below_box _ _⟩
  · by_cases h2 : 32768 < win
    · have HE : opt7 win chain = 72 := by unfold opt7; rw [if_pos (.inr (.inl h2))]
      rw [HE]
      go_enter Tryz.func44, Tryz.ntmps44
      go_wp2_with fail
      go_ret
      exact ⟨rfl, below_box _ _⟩
    · by_cases h3 : chain < 0
      · have HE : opt7 win chain = 72 := by unfold opt7; rw [if_pos (.inr (.inr (.inl h3)))]
        rw [HE]
        go_enter Tryz.func44, Tryz.ntmps44
        go_wp2_with fail
        go_ret
        exact ⟨rfl, below_box _ _⟩
      · by_cases h4 : 4096 < chain
        · have HE : opt7 win chain = 72 := by unfold opt7; rw [if_pos (.inr (.inr (.inr h4)))]
          rw [HE]
          go_enter Tryz.func44, Tryz.ntmps44
          go_wp2_with fail
          go_ret
          exact ⟨rfl, below_box _ _⟩
        · have HE : opt7 win chain = 0 := by unfold opt7; rw [if_neg (by omega)]
          rw [HE]
          go_enter Tryz.func44, Tryz.ntmps44
          go_wp2_with fail
          go_ret
          exact ⟨rfl, below_box _ _⟩
end Go.Proofs.YtpodakndckflgaaGreatDoor

namespace Go.Proofs.YtpodakndckflgaaGreatDoor
open Go.RowKit Go.Shelf
set_option linter.unusedVariables false
def h018 : Hd18 := ⟨0, 0, 0, 0, 64, 100⟩
theorem h018_ok : h018.Ok := by unfold Hd18.Ok h018; decide
theorem h018_win : win18 h018 = 0 := by unfold win18; rw [if_pos h018_ok]; rfl
theorem opt018 : opt7 100 10 = 0 := by decide
set_option maxRecDepth 100000 in
theorem popt18 (w : World) : Calls Tryz.prog 29 #[.agg #[.int .i64 100, .int .i64 10, .bool false, .int .i64 50]] w fun e w' => e = .returned (.int .i64 0) ∧ Below w.heap.size w w' := by
  obtain ⟨wA, hwA⟩ : ∃ wA, wA = w.alloc (.cells #[.int .i64 100, .int .i64 10, .bool false, .int .i64 50] 75) := ⟨_, rfl⟩
  have cA := cb16 w #[.int .i64 100, .int .i64 10, .bool false, .int .i64 50] 75
  rw [← hwA] at cA
  obtain ⟨b4, hb4⟩ : ∃ b4, b4 = w.heap.size := ⟨_, rfl⟩
  have HWA : Hid (w.alloc (.cells #[.int .i64 100, .int .i64 10, .bool false, .int .i64 50] 75) = wA) := hwA.symm
  have HB4 : Hid (w.heap.size = b4) := hb4.symm
  have OP := popt7 100 10 false wA
  rw [opt018] at OP
  have OP : Hid (Calls Tryz.prog 44 #[.agg #[.int .i64 100, .int .i64 10, .bool false]] wA fun e w' => e = .returned (.int .i64 0) ∧ Below wA.heap.size wA w') := OP
  have HQ : Hid (∀ V, Below wA.heap.size wA V → V.cell? ⟨b4, 3, none⟩ = some (.int .i64 50)) := fun V hV => by
    have q0 := cA.cl
    rw [← hb4] at q0
    exact cell18 ((hV.block _ (Array.getElem?_eq_some_iff.1 q0).1).trans q0) rfl
  have HA : Hid (Below w.heap.size w wA) := cA.bl
  clear hwA cA hb4
  go_enter Tryz.func29, Tryz.ntmps29
  go_wp2_with fail
  rw [HWA.out, HB4.out]
  refine OP.out.mono ?_
  rintro e1 w1 ⟨rfl, b1⟩
  have c3 := HQ.out w1 b1
  go_wp2_with fail
  go_ret
  exact ⟨rfl, HA.out.trans (b1.mono HA.out.size)⟩
set_option maxRecDepth 100000 in
theorem pmak18 (w : World) : Calls Tryz.prog 30 #[.agg #[.int .i64 0, .int .i64 0, .int .u32 0, .int .u32 0, .int .i64 64, .int .i64 100], .slice none 0 0] w fun e w' => e = .returned (.bool true) ∧ Below w.heap.size w w' := by
  obtain ⟨wA, b4, X⟩ := bx18 w h018
  have HWA : Hid (w.alloc (.cells #[.int .i64 0, .int .i64 0, .int .u32 0, .int .u32 0, .int .i64 64, .int .i64 100] 34) = wA) := X.wa
  have HB : Hid (w.heap.size = b4) := X.b
  have HA : Hid (Below w.heap.size w wA) := X.bl
  have CW := pwin18 h018 wA
  rw [h018_win] at CW
  have CW : Hid (Calls Tryz.prog 45 #[.agg #[.int .i64 0, .int .i64 0, .int .u32 0, .int .u32 0, .int .i64 64, .int .i64 100]] wA fun e w' => e = .returned (.int .i64 0) ∧ Below wA.heap.size wA w') := CW
  clear X
  go_enter Tryz.func30, Tryz.ntmps30
  go_wp2_with fail
  rw [HWA.out, HB.out]
  refine CW.out.mono ?_
  rintro e1 w1 ⟨rfl, b1⟩
  have HB1 : Hid (Below w.heap.size w w1) := HA.out.trans (b1.mono HA.out.size)
  clear b1
  go_wp2_with fail
  go_loopw [14] (fun t14 V => t14 = .int .i64 0 ∧ V = w1) (fun _ _ => 0)
  case atStart => exact ⟨rfl, rfl⟩
  case round =>
    obtain ⟨rfl, rfl⟩ := hrel
    go_wp2_with fail
    go_ret
    exact ⟨rfl, HB1.out⟩
theorem sum18_len (L : List Int) : (sum18 L).length = L.length + 4 := by unfold sum18; rw [List.length_append, fixL_len]
set_option maxRecDepth 100000 in
set_option maxHeartbeats 2000000 in
theorem penc18 (w : World) (ht : Tab w) : Calls Tryz.prog 19 #[.agg #[.int .i64 0, .int .i64 0, .int .u32 0, .int .u32 0, .int .i64 64, .int .i64 100], .agg #[.int .i64 100, .int .i64 10, .bool false, .int .i64 50], .slice none 0 0] w (HdQ18 w (sum18 (sum18 (hd18 h018))) 0) := by
  obtain ⟨wA, b4, X⟩ := bx18 w h018
  have HWA : Hid (w.alloc (.cells #[.int .i64 0, .int .i64 0, .int .u32 0, .int .u32 0, .int .i64 64, .int .i64 100] 34) = wA) := X.wa
  have HB : Hid (w.heap.size = b4) := X.b
  have cP := cb16 wA #[.int .i64 100, .int .i64 10, .bool false, .int .i64 50] 75
  obtain ⟨wB, hwB⟩ : ∃ wB, wB = wA.alloc (.cells #[.int .i64 100, .int .i64 10, .bool false, .int .i64 50] 75) := ⟨_, rfl⟩
  rw [← hwB] at cP
  have HWB : Hid (wA.alloc (.cells #[.int .i64 100, .int .i64 10, .bool false, .int .i64 50] 75) = wB) := hwB.symm
  obtain ⟨b5, hb5⟩ : ∃ b5, b5 = wA.heap.size := ⟨_, rfl⟩
  have hb54 : b5 = b4 + 1 := by rw [hb5, X.sz, X.b]
  have HB5 : Hid (b5 = b4 + 1) := hb54
  have q5 : wB.heap[b5]? = some (.cells #[.int .i64 100, .int .i64 10, .bool false, .int .i64 50] 75 (0, 0)) := by rw [hb5]; exact cP.cl
  have HC5 : Hid (∀ V, Below wB.heap.size wB V → V.cell? ⟨b5, 0, none⟩ = some (.int .i64 100) ∧ V.cell? ⟨b5, 1, none⟩ = some (.int .i64 10) ∧ V.cell? ⟨b5, 2, none⟩ = some (.bool false) ∧ V.cell? ⟨b5, 3, none⟩ = some (.int .i64 50)) := fun V hV => by
    have q := (hV.block _ (Array.getElem?_eq_some_iff.1 q5).1).trans q5
    exact ⟨cell18 q rfl, cell18 q rfl, cell18 q rfl, cell18 q rfl⟩
  have HC4 : Hid (∀ V, Below wB.heap.size wB V → Cl18 V b4 h018) := fun V hV => X.cl (cP.bl.trans (hV.mono cP.bl.size))
  have HA : Hid (Below w.heap.size w wB) := X.bl.trans (cP.bl.mono X.bl.size)
  have HD := phead18 h018 wB (ht.old HA.out) (by unfold h018; decide) (by unfold h018; decide)
  rw [show hh18 h018 = sum18 (hd18 h018) by unfold hh18; rw [if_pos h018_ok], show he18 h018 = 0 by unfold he18; rw [if_pos h018_ok]] at HD
  have HD : Hid (Calls Tryz.prog 28 #[.agg #[.int .i64 0, .int .i64 0, .int .u32 0, .int .u32 0, .int .i64 64, .int .i64 100]] wB (HdQ18 wB (sum18 (hd18 h018)) 0)) := HD
  have HBD : Hid (∀ z ∈ sum18 (hd18 h018), 0 ≤ z ∧ z ≤ 255) := sum18_bd (hd18_bd h018_ok)
  have HLN : Hid ((sum18 (hd18 h018)).length ≤ 100) := by
    show _ ≤ _
    rw [sum18_len, hd18_len]
    have := encA_hv18 h018
    omega
  have HT : Hid (∀ V, Below wB.heap.size wB V → Tab V) := fun V hV => (ht.old HA.out).old hV
  generalize sum18 (hd18 h018) = L at *
  obtain ⟨a0, a1, a2, a3, a4, a5⟩ := HC4.out wB (Below.refl _ _)
  clear X hwB cP hb5 q5 ht hb54
  go_enter Tryz.func19, Tryz.ntmps19
  go_wp2_with fail
  rw [HWA.out, HWB.out, HB.out, show b4 + 1 = b5 from HB5.out.symm]
  refine HD.out.mono ?_
  rintro e1 w1 ⟨p1, c1, rfl, o1, b1⟩
  have HB1 : Hid (Below wB.heap.size wB w1) := b1
  have HO1 : Hid (w1.ownsRow wB.heap.size 5 1 (.slice p1 L.length c1) L.length (L.map (Value.int .u8))) := o1
  clear a0 a1 a2 a3 a4 a5 b1 o1 HD
  obtain ⟨d0, d1, d2, d3⟩ := HC5.out w1 HB1.out
  go_wp2_with fail
  refine (popt18 w1).mono ?_
  rintro e2 w2 ⟨rfl, b2⟩
  have HB2 : Hid (Below wB.heap.size wB w2) := HB1.out.trans (b2.mono HB1.out.size)
  have HO2 : Hid (w2.ownsRow wB.heap.size 5 1 (.slice p1 L.length c1) L.length (L.map (Value.int .u8))) := own_below HO1.out b2
  clear d0 d1 d2 d3 b2
  obtain ⟨d0, d1, d2, d3⟩ := HC5.out w2 HB2.out
  have a0 : w2.cell? ⟨b4, 0, none⟩ = some (.int .i64 0) := (HC4.out w2 HB2.out).c0
  have a1 : w2.cell? ⟨b4, 1, none⟩ = some (.int .i64 0) := (HC4.out w2 HB2.out).c1
  have a2 : w2.cell? ⟨b4, 2, none⟩ = some (.int .u32 0) := (HC4.out w2 HB2.out).c2
  have a3 : w2.cell? ⟨b4, 3, none⟩ = some (.int .u32 0) := (HC4.out w2 HB2.out).c3
  have a4 : w2.cell? ⟨b4, 4, none⟩ = some (.int .i64 64) := (HC4.out w2 HB2.out).c4
  have a5 : w2.cell? ⟨b4, 5, none⟩ = some (.int .i64 100) := (HC4.out w2 HB2.out).c5
  go_wp2_with fail
  refine (pmak18 w2).mono ?_
  rintro e3 w3 ⟨rfl, b3⟩
  have HB3 : Hid (Below wB.heap.size wB w3) := HB2.out.trans (b3.mono HB2.out.size)
  have SU := psum18 p1 c1 wB.heap.size L w3 (HT.out w3 HB3.out) (own_below HO2.out b3) HBD.out (by have := HLN.out; omega) HB3.out.size
  clear a0 a1 a2 a3 a4 a5 d0 d1 d2 d3 b3
  go_wp2_with fail
  go_loopw [8, 38] (fun t8 t38 V => t8 = .slice p1 L.length c1 ∧ t38 = .int .i64 0 ∧ V = w3) (fun _ _ _ => 0)
  case atStart => exact ⟨rfl, rfl, rfl⟩
  case round =>
    obtain ⟨rfl, rfl, hwr⟩ := hrel
    subst wr
    go_wp2_with fail
    refine SU.mono ?_
    rintro e4 w4 ⟨p4, c4, rfl, o4, b4'⟩
    have HB4' : Below wB.heap.size wB w4 := HB3.out.trans b4'
    have HQQ : Hid (HdQ18 w (sum18 L) 0 (.returned (.tuple #[.slice p4 (sum18 L).length c4, .int .i64 0])) w4) := ⟨p4, c4, rfl, own_base o4 HA.out.size, HA.out.trans (HB4'.mono HA.out.size)⟩
    clear SU o4 b4' HB4'
    go_wp2_with fail
    go_ret2
    exact HQQ.out
end Go.Proofs.YtpodakndckflgaaGreatDoor

namespace Go.Proofs.YtpodakndckflgaaGreatDoor
open Go.RowKit
set_option linter.unusedVariables false
theorem run_conv_segS {P : Program} {w : World} {a : Option Addr} {zs : List Int} (cap : Nat) (h : Seg w a zs) (src e dst : TypeId) (hs : P.underlying src = some (.slice e)) (he : P.underlying e = some (.int .u8)) (hd : P.underlying dst = some .string) :
    (convert src dst (.slice a zs.length cap)).run P w = .ok (.string (strOfNums zs)) w := by
  by_cases hz : 0 < zs.length
  · obtain ⟨b, off, rfl, _⟩ := h.at_ 0 hz
    refine run_convert_bytes_arg w src e hs he b off zs.length cap zs rfl (fun i hi => ?_) dst hd
    obtain ⟨b', off', hb, hc⟩ := h.at_ i hi
    cases hb
    exact hc
  · have : zs = [] := List.eq_nil_of_length_eq_zero (by omega)
    subst this
    cases a with
    | none => exact run_convert_bytes_nil w src e hs he _ _ dst hd
    | some x =>
      rw [run_convert_bytes_string w src dst e _ _ cap hs he hd]
      have hl : (loadCells x 0).run P w = .ok (([] : List Int).map (Value.int .u8)).toArray w := by simp [loadCells, loadCellsFrom]
      have := run_bytesToString (P := P) w x 0 cap [] hl
      exact this

end Go.Proofs.YtpodakndckflgaaGreatDoor
