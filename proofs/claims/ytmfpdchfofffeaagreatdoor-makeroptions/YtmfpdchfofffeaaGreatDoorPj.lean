import Derived.Test.YtmfpdchfofffeaaGreatDoorPi
import Derived.Test.YtmfpdchfofffeaaGreatDoorProg
import Derived.WalkKit
import Derived.WalkSpells
import Derived.Test.YtmfpdchfofffeaaGreatDoorPa
import Derived.Deep.QuietTactic
import Derived.BigQuiet
import Derived.Deep.RegionHeld3
import Derived.Deep.AppendLies
import Derived.Laws.MakeOwn
import Derived.Laws.ResultCell
import Derived.Test.YtmfpdchfofffeaaGreatDoorPf
namespace Go.Proofs.YtmfpdchfofffeaaGreatDoor
set_option linter.unusedVariables false
def alg7 (D : List Int) (q p : Nat) : Nat → Nat → Nat
  | 0, n => n
  | f + 1, n => if p + n < D.length ∧ D.getD (q + n) 0 = D.getD (p + n) 0 then alg7 D q p f (n + 1) else n
def al7 (D : List Int) (q p : Nat) : Nat := alg7 D q p 258 0
theorem alg7_same (D : List Int) (q p : Nat) : ∀ f n i, n ≤ i → i < alg7 D q p f n → p + i < D.length ∧ D.getD (q + i) 0 = D.getD (p + i) 0
  | 0, n, i, h1, h2 => by rw [alg7] at h2; omega
  | f + 1, n, i, h1, h2 => by
    rw [alg7] at h2
    split at h2
    · rename_i h
      by_cases e : i = n
      · subst e; exact h
      · exact alg7_same D q p f (n + 1) i (by omega) h2
    · omega
theorem al7_same {D : List Int} {q p i : Nat} (h : i < al7 D q p) : p + i < D.length ∧ D.getD (q + i) 0 = D.getD (p + i) 0 := alg7_same D q p 258 0 i (Nat.zero_le _) h
/-- A match that is there. -/
structure Mt7 (D : List Int) (p win n d : Nat) : Prop where
  n3 : 3 ≤ n
  n258 : n ≤ 258
  d1 : 1 ≤ d
  dw : d ≤ win
  dp : d ≤ p
  al : n ≤ al7 D (p - d) p
/-- These tokens are the bytes of D from p on, over this window. -/
def Tz7 (D : List Int) (win : Nat) : List Tok7 → Nat → Prop
  | [], p => p = D.length
  | t :: r, p => p < D.length ∧ ((t = ⟨D.getD p 0, 0, 0⟩ ∧ Tz7 D win r (p + 1)) ∨ ∃ n d : Nat, t = ⟨0, n, d⟩ ∧ Mt7 D p win n d ∧ Tz7 D win r (p + n))
theorem Mt7.fits {D : List Int} {p win n d : Nat} (h : Mt7 D p win n d) : p + n ≤ D.length := by
  have := (al7_same (D := D) (q := p - d) (p := p) (i := n - 1) (by have := h.al; have := h.n3; omega)).1
  have := h.n3
  omega
theorem getD_take7 (A : List Int) (j i : Nat) (h : i < j) : (A.take j).getD i 0 = A.getD i 0 := by simp [List.getD, h]
theorem take_succ7 (D : List Int) (p : Nat) (h : p < D.length) : D.take (p + 1) = D.take p ++ [D.getD p 0] := by
  rw [List.take_succ_eq_append_getElem h]; simp [List.getD, h]
theorem cp7_mt {D : List Int} {p win n d : Nat} (h : Mt7 D p win n d) : ∀ i, i ≤ n → cp7 (D.take p) d i = D.take (p + i)
  | 0, _ => rfl
  | i + 1, hi => by
    have h1 := h.fits
    have ih := cp7_mt h i (by omega)
    have hs := al7_same (D := D) (q := p - d) (p := p) (i := i) (by have := h.al; omega)
    rw [cp7, ih, show p + (i + 1) = p + i + 1 by omega, take_succ7 D (p + i) (by omega)]
    have hl : (D.take (p + i)).length = p + i := by rw [List.length_take]; omega
    have d1 := h.d1
    have dp := h.dp
    rw [hl, getD_take7 _ _ _ (by omega), ← hs.2, show p - d + i = p + i - d by omega]
theorem Mt7.wid {D : List Int} {p win n d : Nat} (h : Mt7 D p win n d) (hw : win ≤ 32768) : may7 ⟨0, n, d⟩ ∧ wid7 ⟨0, n, d⟩ = n := by
  have h1 := h.n3
  have h2 := h.n258
  have h3 := h.d1
  have h4 := h.dw
  have hm : may7 ⟨0, n, d⟩ := by
    unfold may7
    simp only
    rw [if_neg (by omega)]
    exact ⟨by omega, by omega, by omega, by omega, trivial⟩
  refine ⟨hm, ?_⟩
  unfold wid7
  rw [if_pos hm]
  simp only
  rw [if_neg (by omega)]
  omega
theorem lit7_wid (z : Int) : may7 ⟨z, 0, 0⟩ ∧ wid7 ⟨z, 0, 0⟩ = 1 := by
  have hm : may7 ⟨z, 0, 0⟩ := by unfold may7; simp
  refine ⟨hm, ?_⟩
  unfold wid7
  rw [if_pos hm]
  simp
theorem Tz7.all {D : List Int} {win : Nat} (hw : win ≤ 32768) : ∀ (l : List Tok7) (p : Nat), Tz7 D win l p → ok7 win l p ∧ exp7 (D.take p) l = D ∧ siz7 l = D.length - p ∧ l.length ≤ D.length - p
  | [], p, h => by
    rw [Tz7] at h
    subst h
    exact ⟨trivial, by rw [exp7, List.take_length], by simp [siz7], by simp⟩
  | t :: r, p, ⟨hp, h⟩ => by
    rcases h with ⟨rfl, h⟩ | ⟨n, d, rfl, hm, h⟩
    · obtain ⟨a1, a2, a3, a4⟩ := Tz7.all hw r (p + 1) h
      have hl := lit7_wid (D.getD p 0)
      refine ⟨⟨hl.1, by unfold far7; simp, by rw [hl.2]; exact a1⟩, ?_, by rw [siz7, hl.2, a3]; omega, by rw [List.length_cons]; omega⟩
      rw [exp7]
      unfold tok7
      simp only [if_true]
      rw [← take_succ7 D p hp]
      exact a2
    · obtain ⟨a1, a2, a3, a4⟩ := Tz7.all hw r (p + n) h
      have hl := hm.wid hw
      have h1 := hm.n3
      have h2 := hm.fits
      have h3 := hm.dw
      have h4 := hm.dp
      refine ⟨⟨hl.1, by unfold far7; simp only; omega, by rw [hl.2]; exact a1⟩, ?_, by rw [siz7, hl.2, a3]; omega, by rw [List.length_cons]; omega⟩
      rw [exp7]
      unfold tok7
      simp only
      rw [if_neg (by omega), Int.toNat_natCast, Int.toNat_natCast, cp7_mt hm n (Nat.le_refl _)]
      exact a2
end Go.Proofs.YtmfpdchfofffeaaGreatDoor

namespace Go.Proofs.YtmfpdchfofffeaaGreatDoor
open Go.RowKit
set_option linter.unusedVariables false
def Tok7.val (t : Tok7) : Value := .agg #[.int .u8 t.lit, .int .i64 t.len, .int .i64 t.dist]
structure TkAt (w : World) (g o : Nat) (t : Tok7) : Prop where
  c0 : w.cell? ⟨g, o, none⟩ = some (.int .u8 t.lit)
  c1 : w.cell? ⟨g, o + 1, none⟩ = some (.int .i64 t.len)
  c2 : w.cell? ⟨g, o + 2, none⟩ = some (.int .i64 t.dist)
theorem TkAt.of_block {w w' : World} {g o : Nat} {x : Tok7} (h : TkAt w g o x) (hb : w'.heap[g]? = w.heap[g]?) : TkAt w' g o x :=
  ⟨(World.cell?_of_block (a := ⟨g, o, none⟩) hb).trans h.c0, (World.cell?_of_block (a := ⟨g, o + 1, none⟩) hb).trans h.c1, (World.cell?_of_block (a := ⟨g, o + 2, none⟩) hb).trans h.c2⟩
theorem TkAt.lt {w : World} {g o : Nat} {x : Tok7} (h : TkAt w g o x) : g < w.heap.size := World.block_lt_of_cell? w _ h.c0
abbrev tk0 : Tok7 := ⟨0, 0, 0⟩
def Tok7.Fit (t : Tok7) : Prop := (0 ≤ t.lit ∧ t.lit ≤ 255) ∧ (-9223372036854775808 ≤ t.len ∧ t.len ≤ 9223372036854775807) ∧ (-9223372036854775808 ≤ t.dist ∧ t.dist ≤ 9223372036854775807)
structure SegT (w : World) (a : Option Addr) (l : List Tok7) : Prop where
  at_ : ∀ i, i < l.length → ∃ b off, a = some ⟨b, off, none⟩ ∧ TkAt w b (off + i * 3) (l.getD i tk0)
  fit : ∀ t ∈ l, t.Fit
theorem SegT.nil (w : World) (a : Option Addr) : SegT w a [] := ⟨fun i h => by simp at h, fun t h => by simp at h⟩
theorem SegT.kp {w w' : World} {S : Nat → Prop} {a : Option Addr} {l : List Tok7} (h : SegT w a l) (hb : Kp S w w') (hn : ∀ b off, a = some ⟨b, off, none⟩ → 0 < l.length → ¬ S b) : SegT w' a l := by
  refine ⟨fun i hi => ?_, h.fit⟩
  obtain ⟨b, off, ha, ht⟩ := h.at_ i hi
  exact ⟨b, off, ha, ht.of_block (hb.block b ht.lt (hn b off ha (by omega)))⟩
theorem SegT.old {w w' : World} {a : Option Addr} {l : List Tok7} (h : SegT w a l) (hb : Below w.heap.size w w') : SegT w' a l := h.kp (S := fun _ => False) (Kp.of_below hb) (fun _ _ _ _ e => e)
theorem SegT.lt {w : World} {a : Option Addr} {l : List Tok7} (h : SegT w a l) : ∀ b off, a = some ⟨b, off, none⟩ → 0 < l.length → b < w.heap.size := by
  intro b off e hl
  obtain ⟨b', off', ha, ht⟩ := h.at_ 0 hl
  rw [e] at ha
  cases ha
  exact ht.lt
theorem SegT.take {w : World} {a : Option Addr} {l : List Tok7} (h : SegT w a l) (n : Nat) : SegT w a (l.take n) := by
  refine ⟨fun i hi => ?_, fun t ht => h.fit t (List.mem_of_mem_take ht)⟩
  rw [List.length_take] at hi
  obtain ⟨b, off, ha, ht⟩ := h.at_ i (by omega)
  refine ⟨b, off, ha, ?_⟩
  have : (l.take n).getD i tk0 = l.getD i tk0 := by simp [List.getD, show i < n by omega]
  rw [this]
  exact ht
theorem below_box {w : World} (cs : Array Value) (t : TypeId) : Below w.heap.size w (w.alloc (.cells cs t)) := (Below.refl _ _).alloc (Nat.le_refl _) _

end Go.Proofs.YtmfpdchfofffeaaGreatDoor

namespace Go.Proofs.YtmfpdchfofffeaaGreatDoor
open Go.RowKit
set_option linter.unusedVariables false
def opt7 (win chain : Int) : Int := if win < 1 ∨ 32768 < win ∨ chain < 0 ∨ 4096 < chain then 72 else 0
def look7 (win chain : Int) (lazy : Bool) : Value := .agg #[.int .i64 win, .int .i64 chain, .bool lazy]
set_option maxRecDepth 100000 in
set_option maxHeartbeats 1000000 in
theorem ropt7 (win chain : Int) (lazy : Bool) (w : World) : Calls Tryz.prog 25 #[look7 win chain lazy] w fun e w' => e = .returned (.int .i64 (opt7 win chain)) ∧ Below w.heap.size w w' := by
  unfold look7
  by_cases h1 : win < 1
  · have HE : opt7 win chain = 72 := by unfold opt7; rw [if_pos (.inl h1)]
    rw [HE]
    go_enter Tryz.func25, Tryz.ntmps25
    go_wp2_with fail
    go_ret
    exact ⟨rfl, below_box _ _⟩
  · by_cases h2 : 32768 < win
    · have HE : opt7 win chain = 72 := by unfold opt7; rw [if_pos (.inr (.inl h2))]
      rw [HE]
      go_enter Tryz.func25, Tryz.ntmps25
      go_wp2_with fail
      go_ret
      exact ⟨rfl, below_box _ _⟩
    · by_cases h3 : chain < 0
      · have HE : opt7 win chain = 72 := by unfold opt7; rw [if_pos (.inr (.inr (.inl h3)))]
        rw [HE]
        go_enter Tryz.func25, Tryz.ntmps25
        go_wp2_with fail
        go_ret
        exact ⟨rfl, below_box _ _⟩
      · by_cases h4 : 4096 < chain
        · have HE : opt7 win chain = 72 := by unfold opt7; rw [if_pos (.inr (.inr (.inr h4)))]
          rw [HE]
          go_enter Tryz.func25, Tryz.ntmps25
          go_wp2_with fail
          go_ret
          exact ⟨rfl, below_box _ _⟩
        · have HE : opt7 win chain = 0 := by unfold opt7; rw [if_neg (by omega)]
          rw [HE]
          go_enter Tryz.func25, Tryz.ntmps25
          go_wp2_with fail
          go_ret
          exact ⟨rfl, below_box _ _⟩
end Go.Proofs.YtmfpdchfofffeaaGreatDoor

namespace Go.Proofs.YtmfpdchfofffeaaGreatDoor
open Go.RowKit
set_option linter.unusedVariables false
structure LkAt (w : World) (g : Nat) (win chain : Int) (lazy : Bool) : Prop where
  c0 : w.cell? ⟨g, 0, none⟩ = some (.int .i64 win)
  c1 : w.cell? ⟨g, 1, none⟩ = some (.int .i64 chain)
  c2 : w.cell? ⟨g, 2, none⟩ = some (.bool lazy)
theorem LkAt.of_block {w w' : World} {g : Nat} {win chain : Int} {lazy : Bool} (h : LkAt w g win chain lazy) (hb : w'.heap[g]? = w.heap[g]?) : LkAt w' g win chain lazy :=
  ⟨(World.cell?_of_block (a := ⟨g, 0, none⟩) hb).trans h.c0, (World.cell?_of_block (a := ⟨g, 1, none⟩) hb).trans h.c1, (World.cell?_of_block (a := ⟨g, 2, none⟩) hb).trans h.c2⟩
theorem LkAt.lt {w : World} {g : Nat} {win chain : Int} {lazy : Bool} (h : LkAt w g win chain lazy) : g < w.heap.size := World.block_lt_of_cell? w _ h.c0
end Go.Proofs.YtmfpdchfofffeaaGreatDoor

namespace Go.Proofs.YtmfpdchfofffeaaGreatDoor
open Go.RowKit
set_option linter.unusedVariables false
set_option maxRecDepth 100000 in
set_option maxHeartbeats 1000000 in
theorem popt7 (win chain : Int) (lazy : Bool) (w : World) : Calls Tryz.prog 24 #[look7 win chain lazy] w fun e w' => e = .returned (.int .i64 (opt7 win chain)) ∧ Below w.heap.size w w' := by
  unfold look7
  by_cases h1 : win < 1
  · have HE : opt7 win chain = 72 := by unfold opt7; rw [if_pos (.inl h1)]
    rw [HE]
    go_enter Tryz.func24, Tryz.ntmps24
    go_wp2_with fail
    go_ret
    exact ⟨rfl, below_box _ _⟩
  · by_cases h2 : 32768 < win
    · have HE : opt7 win chain = 72 := by unfold opt7; rw [if_pos (.inr (.inl h2))]
      rw [HE]
      go_enter Tryz.func24, Tryz.ntmps24
      go_wp2_with fail
      go_ret
      exact ⟨rfl, below_box _ _⟩
    · by_cases h3 : chain < 0
      · have HE : opt7 win chain = 72 := by unfold opt7; rw [if_pos (.inr (.inr (.inl h3)))]
        rw [HE]
        go_enter Tryz.func24, Tryz.ntmps24
        go_wp2_with fail
        go_ret
        exact ⟨rfl, below_box _ _⟩
      · by_cases h4 : 4096 < chain
        · have HE : opt7 win chain = 72 := by unfold opt7; rw [if_pos (.inr (.inr (.inr h4)))]
          rw [HE]
          go_enter Tryz.func24, Tryz.ntmps24
          go_wp2_with fail
          go_ret
          exact ⟨rfl, below_box _ _⟩
        · have HE : opt7 win chain = 0 := by unfold opt7; rw [if_neg (by omega)]
          rw [HE]
          go_enter Tryz.func24, Tryz.ntmps24
          go_wp2_with fail
          go_ret
          exact ⟨rfl, below_box _ _⟩
end Go.Proofs.YtmfpdchfofffeaaGreatDoor

namespace Go.Proofs.YtmfpdchfofffeaaGreatDoor
open Go.RowKit Go.Shelf
set_option linter.unusedVariables false
def h018 : Hd18 := ⟨0, 0, 0, 0, 64, 100⟩
theorem h018_ok : h018.Ok := by unfold Hd18.Ok h018; decide
theorem h018_win : win18 h018 = 0 := by unfold win18; rw [if_pos h018_ok]; rfl
theorem sum18_len (L : List Int) : (sum18 L).length = L.length + 4 := by unfold sum18; rw [List.length_append, fixL_len]
end Go.Proofs.YtmfpdchfofffeaaGreatDoor

namespace Go.Proofs.YtmfpdchfofffeaaGreatDoor
open Go.RowKit Go.Shelf
set_option linter.unusedVariables false
set_option linter.unusedSimpArgs false
def po20 (k c B : Int) : Int := if opt7 k c ≠ 0 ∨ B < 1 ∨ 65536 < B then 100 else 0
def op20 (W k c B : Int) : Int := if W < 64 ∨ 65536 < W ∨ po20 k c B ≠ 0 then 200 else 0
def pr20 (k c : Int) (z : Bool) (B : Int) : Value := .agg #[.int .i64 k, .int .i64 c, .bool z, .int .i64 B]
def ov20 (W k c : Int) (z : Bool) (B : Int) : Value := .agg #[.int .i64 W, .int .i64 k, .int .i64 c, .bool z, .int .i64 B]
set_option maxRecDepth 100000 in
set_option maxHeartbeats 1000000 in
theorem ppop20 (k c : Int) (z : Bool) (B : Int) (w : World) : Calls Tryz.prog 12 #[pr20 k c z B] w fun e w' => e = .returned (.int .i64 (po20 k c B)) ∧ Below w.heap.size w w' := by
  unfold pr20
  obtain ⟨wA, hwA⟩ : ∃ wA, wA = w.alloc (.cells #[.int .i64 k, .int .i64 c, .bool z, .int .i64 B] 29) := ⟨_, rfl⟩
  have cA := cb16 w #[.int .i64 k, .int .i64 c, .bool z, .int .i64 B] 29
  rw [← hwA] at cA
  obtain ⟨b4, hb4⟩ : ∃ b4, b4 = w.heap.size := ⟨_, rfl⟩
  have HWA : Hid (w.alloc (.cells #[.int .i64 k, .int .i64 c, .bool z, .int .i64 B] 29) = wA) := hwA.symm
  have HB4 : Hid (w.heap.size = b4) := hb4.symm
  have OP : Hid (Calls Tryz.prog 24 #[.agg #[.int .i64 k, .int .i64 c, .bool z]] wA fun e w' => e = .returned (.int .i64 (opt7 k c)) ∧ Below wA.heap.size wA w') := popt7 k c z wA
  have HQ : Hid (∀ V, Below wA.heap.size wA V → V.cell? ⟨b4, 3, none⟩ = some (.int .i64 B)) := fun V hV => by
    have q0 := cA.cl
    rw [← hb4] at q0
    exact cell18 ((hV.block _ (Array.getElem?_eq_some_iff.1 q0).1).trans q0) rfl
  have HA : Hid (Below w.heap.size w wA) := cA.bl
  clear hwA cA hb4
  generalize hx : opt7 k c = x at *
  by_cases h0 : x = 0
  · subst h0
    by_cases h1 : B < 1
    · have HE : po20 k c B = 100 := by unfold po20; rw [if_pos (.inr (.inl h1))]
      rw [HE]
      clear HE hx
      go_enter Tryz.func12, Tryz.ntmps12
      go_wp2_with fail
      rw [HWA.out, HB4.out]
      refine OP.out.mono ?_
      rintro e1 w1 ⟨rfl, b1⟩
      have c3 := HQ.out w1 b1
      go_wp2_with fail
      go_ret
      exact ⟨rfl, HA.out.trans (b1.mono HA.out.size)⟩
    · by_cases h2 : 65536 < B
      · have HE : po20 k c B = 100 := by unfold po20; rw [if_pos (.inr (.inr h2))]
        rw [HE]
        clear HE hx
        go_enter Tryz.func12, Tryz.ntmps12
        go_wp2_with fail
        rw [HWA.out, HB4.out]
        refine OP.out.mono ?_
        rintro e1 w1 ⟨rfl, b1⟩
        have c3 := HQ.out w1 b1
        go_wp2_with fail
        go_ret
        exact ⟨rfl, HA.out.trans (b1.mono HA.out.size)⟩
      · have HE : po20 k c B = 0 := by unfold po20; rw [if_neg (by rw [hx]; omega)]
        rw [HE]
        clear HE hx
        go_enter Tryz.func12, Tryz.ntmps12
        go_wp2_with fail
        rw [HWA.out, HB4.out]
        refine OP.out.mono ?_
        rintro e1 w1 ⟨rfl, b1⟩
        have c3 := HQ.out w1 b1
        go_wp2_with fail
        go_ret
        exact ⟨rfl, HA.out.trans (b1.mono HA.out.size)⟩
  · have HE : po20 k c B = 100 := by unfold po20; rw [if_pos (.inl (by rw [hx]; exact h0))]
    rw [HE]
    clear HE hx
    go_enter Tryz.func12, Tryz.ntmps12
    go_wp2_with fail
    rw [HWA.out, HB4.out]
    refine OP.out.mono ?_
    rintro e1 w1 ⟨rfl, b1⟩
    go_wp2_with fail
    go_ret
    exact ⟨rfl, HA.out.trans (b1.mono HA.out.size)⟩
set_option maxRecDepth 100000 in
set_option maxHeartbeats 1000000 in
theorem pops20 (W k c : Int) (z : Bool) (B : Int) (w : World) : Calls Tryz.prog 7 #[ov20 W k c z B] w fun e w' => e = .returned (.int .i64 (op20 W k c B)) ∧ Below w.heap.size w w' := by
  unfold ov20
  obtain ⟨wA, hwA⟩ : ∃ wA, wA = w.alloc (.cells #[.int .i64 W, .int .i64 k, .int .i64 c, .bool z, .int .i64 B] 31) := ⟨_, rfl⟩
  have cA := cb16 w #[.int .i64 W, .int .i64 k, .int .i64 c, .bool z, .int .i64 B] 31
  rw [← hwA] at cA
  obtain ⟨b4, hb4⟩ : ∃ b4, b4 = w.heap.size := ⟨_, rfl⟩
  have HWA : Hid (w.alloc (.cells #[.int .i64 W, .int .i64 k, .int .i64 c, .bool z, .int .i64 B] 31) = wA) := hwA.symm
  have HB4 : Hid (w.heap.size = b4) := hb4.symm
  have q0 := cA.cl
  rw [← hb4] at q0
  have c0 : wA.cell? ⟨b4, 0, none⟩ = some (.int .i64 W) := cell18 q0 rfl
  have c1 : wA.cell? ⟨b4, 1, none⟩ = some (.int .i64 k) := cell18 q0 rfl
  have c2 : wA.cell? ⟨b4, 2, none⟩ = some (.int .i64 c) := cell18 q0 rfl
  have c3 : wA.cell? ⟨b4, 3, none⟩ = some (.bool z) := cell18 q0 rfl
  have c4 : wA.cell? ⟨b4, 4, none⟩ = some (.int .i64 B) := cell18 q0 rfl
  rw [← HWA.out, ← HB4.out] at c0 c1 c2 c3 c4
  have OP : Hid (Calls Tryz.prog 12 #[.agg #[.int .i64 k, .int .i64 c, .bool z, .int .i64 B]] wA fun e w' => e = .returned (.int .i64 (po20 k c B)) ∧ Below wA.heap.size wA w') := ppop20 k c z B wA
  have HA : Hid (Below w.heap.size w wA) := cA.bl
  clear hwA cA hb4 q0
  generalize hx : po20 k c B = x at *
  by_cases h1 : W < 64
  · have HE : op20 W k c B = 200 := by unfold op20; rw [if_pos (.inl h1)]
    rw [HE]
    clear HE hx OP
    go_enter Tryz.func7, Tryz.ntmps7
    go_wp2_with fail
    go_ret
    rw [HWA.out]
    exact ⟨rfl, HA.out⟩
  · by_cases h2 : 65536 < W
    · have HE : op20 W k c B = 200 := by unfold op20; rw [if_pos (.inr (.inl h2))]
      rw [HE]
      clear HE hx OP
      go_enter Tryz.func7, Tryz.ntmps7
      go_wp2_with fail
      go_ret
      rw [HWA.out]
      exact ⟨rfl, HA.out⟩
    · by_cases h0 : x = 0
      · have HE : op20 W k c B = 0 := by unfold op20; rw [if_neg (by rw [hx]; omega)]
        rw [HE]
        subst h0
        clear HE hx
        go_enter Tryz.func7, Tryz.ntmps7
        go_wp2_with fail
        rw [HWA.out]
        refine OP.out.mono ?_
        rintro e1 w1 ⟨rfl, b1⟩
        go_wp2_with fail
        go_ret
        exact ⟨rfl, HA.out.trans (b1.mono HA.out.size)⟩
      · have HE : op20 W k c B = 200 := by unfold op20; rw [if_pos (.inr (.inr (by rw [hx]; exact h0)))]
        rw [HE]
        clear HE hx
        go_enter Tryz.func7, Tryz.ntmps7
        go_wp2_with fail
        rw [HWA.out]
        refine OP.out.mono ?_
        rintro e1 w1 ⟨rfl, b1⟩
        go_wp2_with fail
        go_ret
        exact ⟨rfl, HA.out.trans (b1.mono HA.out.size)⟩
set_option maxRecDepth 100000 in
theorem pmus20 (v : Value) (w : World) : Calls Tryz.prog 26 #[.bool true, v] w fun e w' => e = .returned (.tuple #[]) ∧ w' = w := by
  go_enter Tryz.func26, Tryz.ntmps26
  go_wp2
  go_end0
  exact ⟨rfl, rfl⟩
set_option maxRecDepth 100000 in
theorem ppas20 (w : World) : Calls Tryz.prog 27 #[.int .i64 0] w fun e w' => e = .returned (.tuple #[]) ∧ w' = w := by
  have M := pmus20 (.int .i64 0) w
  go_enter Tryz.func27, Tryz.ntmps27
  go_wp2_with fail
  refine M.mono ?_
  rintro e1 w1 ⟨rfl, hw1⟩
  subst w1
  go_wp2
  go_end0
  exact ⟨rfl, rfl⟩
set_option maxRecDepth 100000 in
theorem pgot20i (v : Value) (w : World) : Calls Tryz.prog 31 #[v, .int .i64 0] w fun e w' => e = .returned v ∧ w' = w := by
  have M := ppas20 w
  go_enter Tryz.func31, Tryz.ntmps31
  go_wp2_with fail
  refine M.mono ?_
  rintro e1 w1 ⟨rfl, hw1⟩
  subst w1
  go_wp2
  go_ret
  exact ⟨rfl, rfl⟩
set_option maxRecDepth 100000 in
theorem pgot20s (v : Value) (w : World) : Calls Tryz.prog 29 #[v, .int .i64 0] w fun e w' => e = .returned v ∧ w' = w := by
  have M := ppas20 w
  go_enter Tryz.func29, Tryz.ntmps29
  go_wp2_with fail
  refine M.mono ?_
  rintro e1 w1 ⟨rfl, hw1⟩
  subst w1
  go_wp2
  go_ret
  exact ⟨rfl, rfl⟩
set_option maxRecDepth 100000 in
theorem pgot20w (v : Value) (w : World) : Calls Tryz.prog 35 #[v, .int .i64 0] w fun e w' => e = .returned v ∧ w' = w := by
  have M := ppas20 w
  go_enter Tryz.func35, Tryz.ntmps35
  go_wp2_with fail
  refine M.mono ?_
  rintro e1 w1 ⟨rfl, hw1⟩
  subst w1
  go_wp2
  go_ret
  exact ⟨rfl, rfl⟩
set_option maxRecDepth 100000 in
theorem pgot20b (v : Value) (w : World) : Calls Tryz.prog 37 #[v, .int .i64 0] w fun e w' => e = .returned v ∧ w' = w := by
  have M := ppas20 w
  go_enter Tryz.func37, Tryz.ntmps37
  go_wp2_with fail
  refine M.mono ?_
  rintro e1 w1 ⟨rfl, hw1⟩
  subst w1
  go_wp2
  go_ret
  exact ⟨rfl, rfl⟩
theorem grow20 (w : World) (g : Nat) (cs : Array Value) : Kp (fun k => k = g) w (w.setRow g cs) := ⟨rfl, rfl, rfl, by simp [World.setRow], fun k _ hk => setRow_other w g k cs (by intro e; first | exact hk e | exact hk e.symm)⟩
set_option maxRecDepth 100000 in
theorem pgot20e (sa : Option Addr) (n sc : Nat) (da : Option Addr) (m dc : Nat) (xa : Option Addr) (k xc : Nat) (w : World) : Calls Tryz.prog 33 #[.agg #[.slice sa n sc, .slice da m dc, .slice xa k xc], .int .i64 0] w fun e w' => e = .returned (.agg #[.slice sa n sc, .slice da m dc, .slice xa k xc]) ∧ Below w.heap.size w w' := by
  obtain ⟨wA, hwA⟩ : ∃ wA, wA = w.alloc (.cells #[.slice sa n sc, .slice da m dc, .slice xa k xc] 48) := ⟨_, rfl⟩
  have cA := cb16 w #[.slice sa n sc, .slice da m dc, .slice xa k xc] 48
  rw [← hwA] at cA
  obtain ⟨wB, hwB⟩ : ∃ wB, wB = wA.alloc (.cells #[.slice none 0 0, .slice none 0 0, .slice none 0 0] 48) := ⟨_, rfl⟩
  have cB := cb16 wA #[.slice none 0 0, .slice none 0 0, .slice none 0 0] 48
  rw [← hwB] at cB
  have HW : Hid (w.alloc (.cells #[.slice sa n sc, .slice da m dc, .slice xa k xc] 48) = wA ∧ wA.alloc (.cells #[.slice none 0 0, .slice none 0 0, .slice none 0 0] 48) = wB) := ⟨hwA.symm, hwB.symm⟩
  have M := ppas20 wB
  have qa : wB.heap[w.heap.size]? = some (.cells #[.slice sa n sc, .slice da m dc, .slice xa k xc] 48 (0, 0)) := (cB.bl.block _ (by have := cA.sz; omega)).trans cA.cl
  have qb : wB.heap[w.heap.size + 1]? = some (.cells #[.slice none 0 0, .slice none 0 0, .slice none 0 0] 48 (0, 0)) := by rw [show w.heap.size + 1 = wA.heap.size from cA.sz.symm]; exact cB.cl
  have HQ : Hid (wB.heap[w.heap.size]? = some (.cells #[.slice sa n sc, .slice da m dc, .slice xa k xc] 48 (0, 0)) ∧ wB.heap[w.heap.size + 1]? = some (.cells #[.slice none 0 0, .slice none 0 0, .slice none 0 0] 48 (0, 0))) := ⟨qa, qb⟩
  have HF : Hid ((wB.setRow (w.heap.size + 1) #[.slice sa n sc, .slice da m dc, .slice xa k xc]).heap[w.heap.size + 1]? = some (.cells #[.slice sa n sc, .slice da m dc, .slice xa k xc] 48 (0, 0)) ∧ Below w.heap.size w (wB.setRow (w.heap.size + 1) #[.slice sa n sc, .slice da m dc, .slice xa k xc])) := by
    refine ⟨setRow_heap _ _ _ _ _ _ qb, ?_⟩
    have B : Below w.heap.size w wB := cA.bl.trans (cB.bl.mono cA.bl.size)
    have kk : Kp (fun q => w.heap.size ≤ q) w (wB.setRow (w.heap.size + 1) #[.slice sa n sc, .slice da m dc, .slice xa k xc]) := (Kp.of_below (S := fun q => w.heap.size ≤ q) B).trans (grow20 _ _ _) (fun q _ y => by have y : q = w.heap.size + 1 := y; show w.heap.size ≤ q; omega)
    exact kk.below (fun _ y => y) (Nat.le_refl _)
  clear hwA hwB cA cB qa qb
  go_enter Tryz.func33, Tryz.ntmps33
  go_wp2_with fail
  rw [HW.out.1, HW.out.2]
  refine M.mono ?_
  rintro e1 w1 ⟨rfl, hw1⟩
  subst w1
  go_wp2_with (first
    | (refine wpList_load_row rfl 48 (.tmp 2) rfl _ rfl _ _ _ _ HQ.out.1 Tryz.underlying48 rfl (by kernel_rfl) ?_)
    | (refine wpList_store_row rfl 48 (.tmp 4) (.tmp 7) rfl _ #[.slice sa n sc, .slice da m dc, .slice xa k xc] rfl rfl _ _ HQ.out.2 (by kernel_rfl) rfl (by first | kernel_rfl | simp [Value.oneCell']) ?_))
  refine bodyPost_ret (v := .agg #[.slice sa n sc, .slice da m dc, .slice xa k xc]) (results_cell_row (fn := Tryz.f33) (p := 4) (ty := 48) rfl _ _ (w.heap.size + 1) _ _ _ _ rfl HF.out.1 Tryz.underlying48 rfl (by kernel_rfl)) rfl ?_
  exact ⟨rfl, HF.out.2⟩
theorem popt20 (w : World) : Calls Tryz.prog 12 #[.agg #[.int .i64 100, .int .i64 10, .bool false, .int .i64 100]] w fun e w' => e = .returned (.int .i64 0) ∧ Below w.heap.size w w' := ppop20 100 10 false 100 w
set_option maxRecDepth 100000 in
theorem pmak20 (wa : Option Addr) (wc : Nat) (w : World) : Calls Tryz.prog 63 #[.agg #[.int .i64 0, .int .i64 0, .int .u32 0, .int .u32 0, .int .i64 64, .int .i64 100], .slice wa 0 wc] w fun e w' => e = .returned (.bool true) ∧ Below w.heap.size w w' := by
  obtain ⟨wA, b4, X⟩ := bx18 w h018
  have HWA : Hid (w.alloc (.cells #[.int .i64 0, .int .i64 0, .int .u32 0, .int .u32 0, .int .i64 64, .int .i64 100] 51) = wA) := X.wa
  have HB : Hid (w.heap.size = b4) := X.b
  have HA : Hid (Below w.heap.size w wA) := X.bl
  have CW := pwin18 h018 wA
  rw [h018_win] at CW
  have CW : Hid (Calls Tryz.prog 68 #[.agg #[.int .i64 0, .int .i64 0, .int .u32 0, .int .u32 0, .int .i64 64, .int .i64 100]] wA fun e w' => e = .returned (.int .i64 0) ∧ Below wA.heap.size wA w') := CW
  clear X
  go_enter Tryz.func63, Tryz.ntmps63
  go_wp2_with fail
  rw [HWA.out, HB.out]
  refine CW.out.mono ?_
  rintro e1 w1 ⟨rfl, b1⟩
  have HB1 : Hid (Below w.heap.size w w1) := HA.out.trans (b1.mono HA.out.size)
  clear b1
  go_wp2_with fail
  go_loopw [14] (fun t14 V => t14 = .int .i64 0 ∧ V = w1) (fun _ _ => 0)
  case atStart => exact ⟨rfl, rfl⟩
  case round =>
    obtain ⟨rfl, rfl⟩ := hrel
    go_wp2_with fail
    go_ret
    exact ⟨rfl, HB1.out⟩
set_option maxRecDepth 100000 in
set_option maxHeartbeats 2000000 in
theorem penc20 (wa : Option Addr) (wc : Nat) (w : World) (ht : Tab w) : Calls Tryz.prog 38 #[.agg #[.int .i64 0, .int .i64 0, .int .u32 0, .int .u32 0, .int .i64 64, .int .i64 100], .agg #[.int .i64 100, .int .i64 10, .bool false, .int .i64 100], .slice wa 0 wc] w (HdQ18 w (sum18 (sum18 (hd18 h018))) 0) := by
  obtain ⟨wA, b4, X⟩ := bx18 w h018
  have HWA : Hid (w.alloc (.cells #[.int .i64 0, .int .i64 0, .int .u32 0, .int .u32 0, .int .i64 64, .int .i64 100] 51) = wA) := X.wa
  have HB : Hid (w.heap.size = b4) := X.b
  have cP := cb16 wA #[.int .i64 100, .int .i64 10, .bool false, .int .i64 100] 29
  obtain ⟨wB, hwB⟩ : ∃ wB, wB = wA.alloc (.cells #[.int .i64 100, .int .i64 10, .bool false, .int .i64 100] 29) := ⟨_, rfl⟩
  rw [← hwB] at cP
  have HWB : Hid (wA.alloc (.cells #[.int .i64 100, .int .i64 10, .bool false, .int .i64 100] 29) = wB) := hwB.symm
  obtain ⟨b5, hb5⟩ : ∃ b5, b5 = wA.heap.size := ⟨_, rfl⟩
  have hb54 : b5 = b4 + 1 := by rw [hb5, X.sz, X.b]
  have HB5 : Hid (b5 = b4 + 1) := hb54
  have q5 : wB.heap[b5]? = some (.cells #[.int .i64 100, .int .i64 10, .bool false, .int .i64 100] 29 (0, 0)) := by rw [hb5]; exact cP.cl
  have HC5 : Hid (∀ V, Below wB.heap.size wB V → V.cell? ⟨b5, 0, none⟩ = some (.int .i64 100) ∧ V.cell? ⟨b5, 1, none⟩ = some (.int .i64 10) ∧ V.cell? ⟨b5, 2, none⟩ = some (.bool false) ∧ V.cell? ⟨b5, 3, none⟩ = some (.int .i64 100)) := fun V hV => by
    have q := (hV.block _ (Array.getElem?_eq_some_iff.1 q5).1).trans q5
    exact ⟨cell18 q rfl, cell18 q rfl, cell18 q rfl, cell18 q rfl⟩
  have HC4 : Hid (∀ V, Below wB.heap.size wB V → Cl18 V b4 h018) := fun V hV => X.cl (cP.bl.trans (hV.mono cP.bl.size))
  have HA : Hid (Below w.heap.size w wB) := X.bl.trans (cP.bl.mono X.bl.size)
  have HD := phead18 h018 wB (ht.old HA.out) (by unfold h018; decide) (by unfold h018; decide)
  rw [show hh18 h018 = sum18 (hd18 h018) by unfold hh18; rw [if_pos h018_ok], show he18 h018 = 0 by unfold he18; rw [if_pos h018_ok]] at HD
  have HD : Hid (Calls Tryz.prog 62 #[.agg #[.int .i64 0, .int .i64 0, .int .u32 0, .int .u32 0, .int .i64 64, .int .i64 100]] wB (HdQ18 wB (sum18 (hd18 h018)) 0)) := HD
  have HBD : Hid (∀ z ∈ sum18 (hd18 h018), 0 ≤ z ∧ z ≤ 255) := sum18_bd (hd18_bd h018_ok)
  have HLN : Hid ((sum18 (hd18 h018)).length ≤ 100) := by
    show _ ≤ _
    rw [sum18_len, hd18_len]
    have := encA_hv18 h018
    omega
  have HT : Hid (∀ V, Below wB.heap.size wB V → Tab V) := fun V hV => (ht.old HA.out).old hV
  generalize sum18 (hd18 h018) = L at *
  obtain ⟨a0, a1, a2, a3, a4, a5⟩ := HC4.out wB (Below.refl _ _)
  clear X hwB cP hb5 q5 ht hb54
  go_enter Tryz.func38, Tryz.ntmps38
  go_wp2_with fail
  rw [HWA.out, HWB.out, HB.out, show b4 + 1 = b5 from HB5.out.symm]
  refine HD.out.mono ?_
  rintro e1 w1 ⟨p1, c1, rfl, o1, b1⟩
  have HB1 : Hid (Below wB.heap.size wB w1) := b1
  have HO1 : Hid (w1.ownsRow wB.heap.size 5 1 (.slice p1 L.length c1) L.length (L.map (Value.int .u8))) := o1
  clear a0 a1 a2 a3 a4 a5 b1 o1 HD
  obtain ⟨d0, d1, d2, d3⟩ := HC5.out w1 HB1.out
  go_wp2_with fail
  refine (popt20 w1).mono ?_
  rintro e2 w2 ⟨rfl, b2⟩
  have HB2 : Hid (Below wB.heap.size wB w2) := HB1.out.trans (b2.mono HB1.out.size)
  have HO2 : Hid (w2.ownsRow wB.heap.size 5 1 (.slice p1 L.length c1) L.length (L.map (Value.int .u8))) := own_below HO1.out b2
  clear d0 d1 d2 d3 b2
  obtain ⟨d0, d1, d2, d3⟩ := HC5.out w2 HB2.out
  have a0 : w2.cell? ⟨b4, 0, none⟩ = some (.int .i64 0) := (HC4.out w2 HB2.out).c0
  have a1 : w2.cell? ⟨b4, 1, none⟩ = some (.int .i64 0) := (HC4.out w2 HB2.out).c1
  have a2 : w2.cell? ⟨b4, 2, none⟩ = some (.int .u32 0) := (HC4.out w2 HB2.out).c2
  have a3 : w2.cell? ⟨b4, 3, none⟩ = some (.int .u32 0) := (HC4.out w2 HB2.out).c3
  have a4 : w2.cell? ⟨b4, 4, none⟩ = some (.int .i64 64) := (HC4.out w2 HB2.out).c4
  have a5 : w2.cell? ⟨b4, 5, none⟩ = some (.int .i64 100) := (HC4.out w2 HB2.out).c5
  go_wp2_with fail
  refine (pmak20 wa wc w2).mono ?_
  rintro e3 w3 ⟨rfl, b3⟩
  have HB3 : Hid (Below wB.heap.size wB w3) := HB2.out.trans (b3.mono HB2.out.size)
  have SU := psum18 p1 c1 wB.heap.size L w3 (HT.out w3 HB3.out) (own_below HO2.out b3) HBD.out (by have := HLN.out; omega) HB3.out.size
  clear a0 a1 a2 a3 a4 a5 d0 d1 d2 d3 b3
  go_wp2_with fail
  go_loopw [8, 38] (fun t8 t38 V => t8 = .slice p1 L.length c1 ∧ t38 = .int .i64 0 ∧ V = w3) (fun _ _ _ => 0)
  case atStart => exact ⟨rfl, rfl, rfl⟩
  case round =>
    obtain ⟨rfl, rfl, hwr⟩ := hrel
    subst wr
    go_wp2_with fail
    refine SU.mono ?_
    rintro e4 w4 ⟨p4, c4, rfl, o4, b4'⟩
    have HB4' : Below wB.heap.size wB w4 := HB3.out.trans b4'
    have HQQ : Hid (HdQ18 w (sum18 L) 0 (.returned (.tuple #[.slice p4 (sum18 L).length c4, .int .i64 0])) w4) := ⟨p4, c4, rfl, own_base o4 HA.out.size, HA.out.trans (HB4'.mono HA.out.size)⟩
    clear SU o4 b4' HB4'
    go_wp2_with fail
    go_ret2
    exact HQQ.out
end Go.Proofs.YtmfpdchfofffeaaGreatDoor

namespace Go.Proofs.YtmfpdchfofffeaaGreatDoor
open Go.RowKit Go.Shelf
set_option linter.unusedVariables false
set_option linter.unusedSimpArgs false
def sc20 (b : Nat) (oa : Option Addr) (oc : Nat) : Array Value := #[.slice oa 0 oc, .slice none 0 0, .pointer (some ⟨b, 0, none⟩), .slice none 0 0, .int .i64 0, .int .i64 0, .slice none 0 0, .slice none 0 0, .slice none 0 0, .int .i64 0, .int .i64 0, .int .i64 0, .int .i64 0, .int .i64 0, .int .i64 0, .int .i64 0, .slice none 0 0]
set_option maxRecDepth 100000 in
theorem pend20 (g b : Nat) (oa : Option Addr) (oc : Nat) (w : World) (h : w.heap[g]? = some (.cells (sc20 b oa oc) 99 (0, 0))) :
    Calls Tryz.prog 47 #[.pointer (some ⟨g, 0, none⟩)] w fun e w' => e = .returned (.bool true) ∧ ∃ k, w' = w.drewN k := by
  have c1 : w.cell? ⟨g, 1, none⟩ = some (.slice none 0 0) := cell18 h rfl
  have c12 : w.cell? ⟨g, 12, none⟩ = some (.int .i64 0) := cell18 h rfl
  clear h
  go_enter Tryz.func47, Tryz.ntmps47
  go_wp2_with fail
  go_quiet (fail)
  go_wp2_with fail
  go_ret
  exact ⟨by first | rfl | simp, _, rfl⟩
theorem pnew20 (w : World) : Calls Tryz.prog 32 #[.slice none 0 0] w (NewQ13 w [] 0) :=
  pnew13 none [] 0 0 w (SegK.nil (by decide) w none) (fun _ => rfl) rfl (by decide)
set_option maxRecDepth 100000 in
set_option maxHeartbeats 2000000 in
theorem pstp20 (b : Nat) (da : Option Addr) (dc : Nat) (aa : Option Addr) (ac gb gr : Nat) (A : List Nat) (w : World) (h : Ix13 w b da dc aa ac gb gr 0 [] A) :
    Calls Tryz.prog 30 #[.pointer (some ⟨b, 0, none⟩), .slice none 0 0] w fun e w' => e = .returned (.tuple #[.slice none 0 0, .int .i64 0]) ∧ Below w.heap.size w w' := by
  have AT := patn13 b da dc aa ac gb gr 0 [] A 0 w h (by decide) (by omega)
  have HD : Hid (∀ V, Below w.heap.size w V → Calls Tryz.prog 46 #[.pointer (some ⟨b, 0, none⟩)] V (AnB13 V 0 [])) := fun V hV => pdat13 b da dc aa ac gb gr 0 [] A V (h.old hV)
  clear h
  go_enter Tryz.func30, Tryz.ntmps30
  go_wp2_with fail
  refine AT.mono ?_
  rintro e1 w1 ⟨rfl, b1⟩
  have HB1 : Hid (Below w.heap.size w w1) := b1
  clear AT b1
  go_wp2_with fail
  refine (HD.out w1 HB1.out).mono ?_
  rintro e2 w2 ⟨ra, rc, rfl, hnil, hown, b2⟩
  obtain ⟨w3, hw3⟩ : ∃ w3, w3 = w2.alloc (.cells #[.slice none 0 0, .slice none 0 0, .pointer none, .slice none 0 0, .int .i64 0, .int .i64 0, .slice none 0 0, .slice none 0 0, .slice none 0 0, .int .i64 0, .int .i64 0, .int .i64 0, .int .i64 0, .int .i64 0, .int .i64 0, .int .i64 0, .slice none 0 0] 99) := ⟨_, rfl⟩
  have c3 := cb16 w2 #[.slice none 0 0, .slice none 0 0, .pointer none, .slice none 0 0, .int .i64 0, .int .i64 0, .slice none 0 0, .slice none 0 0, .slice none 0 0, .int .i64 0, .int .i64 0, .int .i64 0, .int .i64 0, .int .i64 0, .int .i64 0, .int .i64 0, .slice none 0 0] 99
  rw [← hw3] at c3
  obtain ⟨g, hg⟩ : ∃ g, g = w2.heap.size := ⟨_, rfl⟩
  have q3 := c3.cl
  rw [← hg] at q3
  have HW3 : Hid (w2.alloc (.cells #[.slice none 0 0, .slice none 0 0, .pointer none, .slice none 0 0, .int .i64 0, .int .i64 0, .slice none 0 0, .slice none 0 0, .slice none 0 0, .int .i64 0, .int .i64 0, .int .i64 0, .int .i64 0, .int .i64 0, .int .i64 0, .int .i64 0, .slice none 0 0] 99) = w3 ∧ w2.heap.size = g) := ⟨hw3.symm, hg.symm⟩
  have HQ3 : Hid (w3.heap[g]? = some (.cells #[.slice none 0 0, .slice none 0 0, .pointer none, .slice none 0 0, .int .i64 0, .int .i64 0, .slice none 0 0, .slice none 0 0, .slice none 0 0, .int .i64 0, .int .i64 0, .int .i64 0, .int .i64 0, .int .i64 0, .int .i64 0, .int .i64 0, .slice none 0 0] 99 (0, 0))) := q3
  have B2 : Below w.heap.size w w2 := HB1.out.trans (b2.mono HB1.out.size)
  have q4 : (w3.setRow g (sc20 b ra rc)).heap[g]? = some (.cells (sc20 b ra rc) 99 (0, 0)) := setRow_heap _ _ _ _ _ _ q3
  have B4 : Below w.heap.size w (w3.setRow g (sc20 b ra rc)) := by
    have B3 : Below w.heap.size w w3 := B2.trans (c3.bl.mono B2.size)
    have kk : Kp (fun q => w.heap.size ≤ q) w (w3.setRow g (sc20 b ra rc)) := (Kp.of_below (S := fun q => w.heap.size ≤ q) B3).trans (grow20 _ _ _) (fun q _ y => by have y : q = g := y; have := B2.size; show w.heap.size ≤ q; omega)
    exact kk.below (fun _ y => y) (Nat.le_refl _)
  obtain ⟨w4, hw4⟩ : ∃ w4, w4 = w3.setRow g (sc20 b ra rc) := ⟨_, rfl⟩
  rw [← hw4] at q4 B4
  have HW4 : Hid (w3.setRow g (sc20 b ra rc) = w4) := hw4.symm
  have HQ4 : Hid (w4.heap[g]? = some (.cells (sc20 b ra rc) 99 (0, 0)) ∧ Below w.heap.size w w4) := ⟨q4, B4⟩
  have EN := pend20 g b ra rc w4 q4
  clear hw3 hw4 c3 hg q3 q4 B2 B4 hown b2 hnil HD
  go_wp2_with (first
    | (rw [HW3.out.1, HW3.out.2]; refine wpList_store_row rfl 99 (.tmp 8) (.tmp 26) rfl g (sc20 b ra rc) rfl rfl _ _ HQ3.out (by kernel_rfl) rfl (by kernel_rfl) ?_; rw [HW4.out]))
  simp only [Act.put]
  go_loopw [] (fun V => V = w4) (fun _ => 0)
  case atStart => rfl
  case round =>
    have hwr : wr = w4 := hrel
    subst wr
    go_wp2_with fail
    refine EN.mono ?_
    rintro e5 w5 ⟨rfl, k, hw5⟩
    have c16 : w5.cell? ⟨g, 16, none⟩ = some (.slice none 0 0) := by rw [hw5]; exact cell18 HQ4.out.1 rfl
    have HB5 : Hid (Below w.heap.size w w5) := by show Below _ _ _; rw [hw5]; exact below_drewN16 HQ4.out.2 _
    clear hw5 EN
    go_wp2_with fail
    go_ret2
    exact ⟨rfl, HB5.out⟩
end Go.Proofs.YtmfpdchfofffeaaGreatDoor
