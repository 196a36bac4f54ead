
import Derived.Test.YtaipfcfmhdigfaaLzP3
namespace Go.Proofs.Ytaipfcfmhdigfaa
open Go.RowKit
set_option linter.unusedVariables false

/-! The landed lz: a chain of places. -/
/-- The last place ahead of s from which on these three bytes stand. -/
def lst7 (D : List Int) : Nat → Int → Int → Int → Int
  | 0, _, _, _ => -1
  | s + 1, x, y, z => if x = D.getD s 0 ∧ y = D.getD (s + 1) 0 ∧ z = D.getD (s + 2) 0 then (s : Int) else lst7 D s x y z
def prv7 (D : List Int) (p : Nat) : Int := lst7 D p (D.getD p 0) (D.getD (p + 1) 0) (D.getD (p + 2) 0)
theorem lst7_spec (D : List Int) (x y z : Int) : ∀ s, (lst7 D s x y z = -1 ∧ ∀ q, q < s → ¬ (x = D.getD q 0 ∧ y = D.getD (q + 1) 0 ∧ z = D.getD (q + 2) 0)) ∨
    (∃ q : Nat, lst7 D s x y z = (q : Int) ∧ q < s ∧ (x = D.getD q 0 ∧ y = D.getD (q + 1) 0 ∧ z = D.getD (q + 2) 0) ∧ ∀ r, q < r → r < s → ¬ (x = D.getD r 0 ∧ y = D.getD (r + 1) 0 ∧ z = D.getD (r + 2) 0))
  | 0 => .inl ⟨rfl, fun q h => by omega⟩
  | s + 1 => by
    by_cases h : x = D.getD s 0 ∧ y = D.getD (s + 1) 0 ∧ z = D.getD (s + 2) 0
    · exact .inr ⟨s, by rw [lst7, if_pos h], by omega, h, fun r h1 h2 => by omega⟩
    · rcases lst7_spec D x y z s with ⟨h1, h2⟩ | ⟨q, h1, h2, h3, h4⟩
      · refine .inl ⟨by rw [lst7, if_neg h]; exact h1, fun q hq => ?_⟩
        by_cases e : q = s
        · subst e; exact h
        · exact h2 q (by omega)
      · refine .inr ⟨q, by rw [lst7, if_neg h]; exact h1, by omega, h3, fun r hr1 hr2 => ?_⟩
        by_cases e : r = s
        · subst e; exact h
        · exact h4 r hr1 (by omega)
theorem lst7_bd (D : List Int) (x y z : Int) (s : Nat) : -1 ≤ lst7 D s x y z ∧ lst7 D s x y z < (s : Int) := by
  rcases lst7_spec D x y z s with ⟨h1, _⟩ | ⟨q, h1, h2, _⟩ <;> rw [h1] <;> omega
def prvs7 (D : List Int) (s : Nat) : List Int := (List.range s).map (prv7 D)
theorem prvs7_len (D : List Int) (s : Nat) : (prvs7 D s).length = s := by simp [prvs7]
theorem prvs7_succ (D : List Int) (s : Nat) : prvs7 D (s + 1) = prvs7 D s ++ [prv7 D s] := by simp [prvs7, List.range_succ]
theorem prvs7_get (D : List Int) (s p : Nat) (h : p < s) : (prvs7 D s).getD p 0 = prv7 D p := by simp [prvs7, List.getD, h]
structure Six (w : World) (b : Nat) (c0 c1 c2 c3 c4 c5 : Value) (t : TypeId) : Prop where
  hp : w.heap[b]? = some (.cells #[c0, c1, c2, c3, c4, c5] t (0, 0))
theorem Six.cells {w : World} {b : Nat} {c0 c1 c2 c3 c4 c5 : Value} {t : TypeId} (h : Six w b c0 c1 c2 c3 c4 c5 t) : w.cell? ⟨b, 0, none⟩ = some c0 ∧ w.cell? ⟨b, 1, none⟩ = some c1 ∧ w.cell? ⟨b, 2, none⟩ = some c2 ∧ w.cell? ⟨b, 3, none⟩ = some c3 ∧ w.cell? ⟨b, 4, none⟩ = some c4 ∧ w.cell? ⟨b, 5, none⟩ = some c5 := by
  have := h.hp
  refine ⟨?_, ?_, ?_, ?_, ?_, ?_⟩ <;> simp [World.cell?, this]
theorem Six.free {w : World} {b : Nat} {c0 c1 c2 c3 c4 c5 : Value} {t : TypeId} (h : Six w b c0 c1 c2 c3 c4 c5 t) (i : Nat) : w.frozen? ⟨b, i, none⟩ = false := by
  have := h.hp
  simp [World.frozen?, this]
theorem Six.set5 {w : World} {b : Nat} {c0 c1 c2 c3 c4 c5 : Value} {t : TypeId} (h : Six w b c0 c1 c2 c3 c4 c5 t) (u : Value) : Six (w.setCell ⟨b, 5, none⟩ u) b c0 c1 c2 c3 c4 u t := by
  have := h.hp
  refine ⟨?_⟩
  simp [World.setCell, Array.getElem?_modify, this]
theorem Six.lt {w : World} {b : Nat} {c0 c1 c2 c3 c4 c5 : Value} {t : TypeId} (h : Six w b c0 c1 c2 c3 c4 c5 t) : b < w.heap.size := (Array.getElem?_eq_some_iff.1 h.hp).1
/-- A chain in block b, its map in block m, that has seen s places; all that it may write lies at B and behind. -/
structure Chn (w : World) (B b m : Nat) (oa : Option Addr) (oc : Nat) (D : List Int) (a : Option Addr) (n cap : Nat) (win ch : Int) (lz : Bool) (s : Nat) : Prop where
  six : Six w b (.slice a n cap) (.int .i64 win) (.int .i64 ch) (.bool lz) (.map (some m)) (.slice oa s oc) 94
  own : w.ownsRow B 3 1 (.slice oa s oc) s ((prvs7 D s).map (Value.int .i64))
  mp : MapK w m s (lst7 D s)
  seg : Seg w a D
  ne : (Value.slice oa s oc).ownBlock ≠ some b
  bm : B ≤ m
  bb : B ≤ b
  old : ∀ x off, a = some ⟨x, off, none⟩ → 0 < D.length → x < B
theorem Chn.kp {w w' : World} {B b m : Nat} {oa : Option Addr} {oc : Nat} {D : List Int} {a : Option Addr} {n cap : Nat} {win ch : Int} {lz : Bool} {s : Nat} (h : Chn w B b m oa oc D a n cap win ch lz s) (hb : Below w.heap.size w w') : Chn w' B b m oa oc D a n cap win ch lz s :=
  ⟨⟨(hb.block b h.six.lt).trans h.six.hp⟩, own_below h.own hb, h.mp.block (hb.block m h.mp.lt), h.seg.old hb, h.ne, h.bm, h.bb, h.old⟩
theorem Chn.drew {w : World} {B b m : Nat} {oa : Option Addr} {oc : Nat} {D : List Int} {a : Option Addr} {n cap : Nat} {win ch : Int} {lz : Bool} {s : Nat} (h : Chn w B b m oa oc D a n cap win ch lz s) : Chn w.drew B b m oa oc D a n cap win ch lz s :=
  h.kp ⟨rfl, rfl, rfl, Nat.le_refl _, fun _ _ => rfl⟩
theorem Chn.bs {w : World} {B b m : Nat} {oa : Option Addr} {oc : Nat} {D : List Int} {a : Option Addr} {n cap : Nat} {win ch : Int} {lz : Bool} {s : Nat} (h : Chn w B b m oa oc D a n cap win ch lz s) : B ≤ w.heap.size := Nat.le_trans h.bb (Nat.le_of_lt h.six.lt)
set_option maxRecDepth 100000 in
set_option maxHeartbeats 1000000 in
theorem plast7 (b m c : Nat) (f : Int → Int → Int → Int) (x y z : Int) (hx : 0 ≤ x ∧ x ≤ 255) (hy : 0 ≤ y ∧ y ≤ 255) (hz : 0 ≤ z ∧ z ≤ 255) (w : World) (h4 : w.cell? ⟨b, 4, none⟩ = some (.map (some m))) (hm : MapK w m c f) :
    Calls Try.prog 45 #[.pointer (some ⟨b, 0, none⟩), .agg #[.int .u8 x, .int .u8 y, .int .u8 z]] w fun e w' => e = .returned (.int .i64 (f x y z)) ∧ Below w.heap.size w w' := by
  have bA : Below w.heap.size w ((w.alloc (.cells #[.int .u8 x, .int .u8 y, .int .u8 z] 97)).drew) := by
    have b1 : Below w.heap.size w (w.alloc (.cells #[.int .u8 x, .int .u8 y, .int .u8 z] 97)) := below_box _ _
    exact ⟨b1.os, b1.tape, b1.output, b1.size, b1.block⟩
  have hlt := World.block_lt_of_cell? w _ h4
  obtain ⟨v, ok, hr, hc⟩ := (hm.block (bA.block m hm.lt)).look hx hy hz
  rcases hc with ⟨rfl, rfl, hv⟩ | ⟨rfl, hf⟩
  · clear hm
    go_enter Try.func45, Try.ntmps45
    go_wp2_with fail
    go_region
    all_goals go_wp2
    all_goals go_ret
    all_goals exact ⟨rfl, bA⟩
  · clear hm
    rw [hf]
    go_enter Try.func45, Try.ntmps45
    go_wp2_with fail
    go_region
    all_goals go_wp2
    all_goals go_ret
    all_goals exact ⟨rfl, bA⟩
theorem chn_new {D : List Int} (a : Option Addr) (n cap : Nat) (win ch : Int) (lz : Bool) (w : World) (hs : Seg w a D) (B : Nat) (hB : B ≤ w.heap.size) (hold : ∀ x off, a = some ⟨x, off, none⟩ → 0 < D.length → x < B) :
    Chn ((w.alloc (.map #[] 0)).alloc (.cells #[.slice a n cap, .int .i64 win, .int .i64 ch, .bool lz, .map (some w.heap.size), .slice none 0 0] 94)) B (w.heap.size + 1) w.heap.size none 0 D a n cap win ch lz 0 := by
  have b1 : Below w.heap.size w (w.alloc (.map #[] 0)) := (Below.refl _ _).alloc (Nat.le_refl _) _
  have b2 := b1.alloc b1.size (.cells #[.slice a n cap, .int .i64 win, .int .i64 ch, .bool lz, .map (some w.heap.size), .slice none 0 0] 94)
  have hm := MapK.made w
  have hz : (w.alloc (.map #[] 0)).heap.size = w.heap.size + 1 := by simp
  have hn := heap_alloc_new (w.alloc (.map #[] 0)) (.cells #[.slice a n cap, .int .i64 win, .int .i64 ch, .bool lz, .map (some w.heap.size), .slice none 0 0] 94)
  rw [hz] at hn
  refine ⟨⟨hn⟩, World.ownsRow_nil _ _ _ _, ?_, hs.old b2, by simp [Value.ownBlock], hB, by omega, hold⟩
  have := hm.block (w' := (w.alloc (.map #[] 0)).alloc (.cells #[.slice a n cap, .int .i64 win, .int .i64 ch, .bool lz, .map (some w.heap.size), .slice none 0 0] 94)) (Below.heap_alloc _ _ _ hm.lt)
  exact this
set_option maxRecDepth 100000 in
set_option maxHeartbeats 1000000 in
theorem pnewc7 (D : List Int) (a : Option Addr) (n cap : Nat) (win ch : Int) (lz : Bool) (w : World) (hs : Seg w a D) (B : Nat) (hB : B ≤ w.heap.size) (hold : ∀ x off, a = some ⟨x, off, none⟩ → 0 < D.length → x < B) :
    Calls Try.prog 37 #[.slice a n cap, look7 win ch lz] w fun e w' => ∃ b m, e = .returned (.pointer (some ⟨b, 0, none⟩)) ∧ Chn w' B b m none 0 D a n cap win ch lz 0 ∧ Below w.heap.size w w' := by
  have hmm := @run_makeMap Try.prog
  unfold look7
  go_enter Try.func37, Try.ntmps37
  go_wp2_with fail
  go_ret
  have b1 : Below w.heap.size w (w.alloc (.cells #[.int .i64 win, .int .i64 ch, .bool lz] 49)) := below_box _ _
  have hz : (w.alloc (.cells #[.int .i64 win, .int .i64 ch, .bool lz] 49)).heap.size = w.heap.size + 1 := by simp
  obtain ⟨k, hk⟩ : ∃ k, k = w.heap.size + 1 := ⟨_, rfl⟩
  rw [← hk] at hz ⊢
  generalize w.alloc (.cells #[.int .i64 win, .int .i64 ch, .bool lz] 49) = w1 at *
  subst hz
  exact ⟨_, _, rfl, chn_new a n cap win ch lz w1 (hs.old b1) B (Nat.le_trans hB b1.size) hold, (b1.alloc b1.size _).alloc (Nat.le_trans b1.size (by simp)) _⟩
end Go.Proofs.Ytaipfcfmhdigfaa
