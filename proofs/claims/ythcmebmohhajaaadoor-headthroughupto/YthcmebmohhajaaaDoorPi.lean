import Derived.WalkKit
import Derived.Test.YthcmebmohhajaaaDoorPh
import Derived.Test.YthcmebmohhajaaaDoorProg
import Derived.WalkSpells
import Derived.WalkLawsBesides
import Derived.Test.YthcmebmohhajaaaDoorPa
import Derived.Test.YthcmebmohhajaaaDoorPg
import Derived.Deep.RegionLaw
import Derived.Deep.OwnRows
import Derived.Deep.RegionHeld3
import Derived.Test.YthcmebmohhajaaaDoorPf
namespace Go.Proofs.YthcmebmohhajaaaDoor
open Go.RowKit
set_option linter.unusedVariables false

def markL (i : Nat) (m : Nat) : List Int := (List.range m).map fun (k : Nat) => ((i : Int) + 7 * (k : Int)) % 256
def tailL (i : Nat) (m : Nat) : List Int := (List.range m).map fun (k : Nat) => ((i : Int) + 131 + 3 * (k : Int)) % 256
theorem markL_len (i m : Nat) : (markL i m).length = m := by simp [markL]
theorem tailL_len (i m : Nat) : (tailL i m).length = m := by simp [tailL]
theorem markL_succ (i m : Nat) : markL i (m + 1) = markL i m ++ [((i : Int) + 7 * (m : Int)) % 256] := by simp [markL, List.range_succ]
theorem tailL_succ (i m : Nat) : tailL i (m + 1) = tailL i m ++ [((i : Int) + 131 + 3 * (m : Int)) % 256] := by simp [tailL, List.range_succ]
theorem markL_get (i m k : Nat) (h : k < m) : (markL i m).getD k 0 = ((i : Int) + 7 * (k : Int)) % 256 := by simp [markL, List.getD, h]
theorem tailL_get (i m k : Nat) (h : k < m) : (tailL i m).getD k 0 = ((i : Int) + 131 + 3 * (k : Int)) % 256 := by simp [tailL, List.getD, h]

def markF (k : Nat) (ys : Nat → List Int) : Nat → List Int := fun i => if i < k then markL i (ys i).length else ys i
def pmF (k j : Nat) (ys : Nat → List Int) : Nat → List Int := updO (markF k ys) k (markL k j ++ (ys k).drop j)
theorem markF_zero (ys : Nat → List Int) : markF 0 ys = ys := by funext i; simp [markF]
theorem markF_at (n i : Nat) (ys : Nat → List Int) (h : i < n) : markF n ys i = markL i (ys i).length := by simp [markF, h]
theorem markF_len (n i : Nat) (ys : Nat → List Int) : (markF n ys i).length = (ys i).length := by
  simp only [markF]; split
  · exact markL_len _ _
  · rfl
theorem pmF_zero (k : Nat) (ys : Nat → List Int) : pmF k 0 ys = markF k ys := by
  have : markL k 0 ++ (ys k).drop 0 = markF k ys k := by simp [markF, markL]
  unfold pmF; rw [this, upd_same]
theorem pmF_end (k : Nat) (ys : Nat → List Int) : pmF k (ys k).length ys = markF (k + 1) ys := by
  funext i
  by_cases e : i = k
  · subst e; rw [pmF, upd_at]; simp [markF]
  · rw [pmF, upd_ne _ _ _ _ e]; simp only [markF]
    by_cases h : i < k
    · rw [if_pos h, if_pos (by omega)]
    · rw [if_neg h, if_neg (by omega)]
theorem pmF_at (k j : Nat) (ys : Nat → List Int) : pmF k j ys k = markL k j ++ (ys k).drop j := upd_at _ _ _
theorem pmF_step (k j : Nat) (ys : Nat → List Int) (h : j < (ys k).length) : updO (pmF k j ys) k ((pmF k j ys k).set j (((k : Int) + 7 * (j : Int)) % 256)) = pmF k (j + 1) ys := by
  rw [pmF_at]
  unfold pmF
  rw [upd_upd]
  congr 1
  rw [List.set_append, if_neg (by rw [markL_len]; omega), markL_len, Nat.sub_self, List.drop_eq_getElem_cons h, List.set_cons_zero, markL_succ]
  simp

/-- A made list of slices, as slots. -/
theorem slots_made {sT : TypeId} {w : World} {base G n : Nat} {z : Value} (h : w.ownsRow base sT 1 (.slice (some ⟨G, 0, none⟩) n n) n (List.replicate n z)) (hn : 0 < n) : Slots sT w G n (fun _ => z) := by
  rcases h.2 with ⟨h0, _⟩ | ⟨g, cap, cur, h0, _, hh, _, _, hs, ht⟩
  · cases h0
  · cases h0
    refine ⟨cur, hh, by omega, fun i hi => ?_⟩
    have : cur.toList = List.replicate n z := by rw [← ht]; exact (List.take_of_length_le (by simp; omega)).symm
    have h2 : cur.toList[i]? = some z := by rw [this]; simp [hi]
    simpa using h2

theorem row_shape {eT : TypeId} {w : World} {base : Nat} {v : Value} {ys : List Int} (h : Row eT w base v ys) : ∃ a cap, v = .slice a ys.length cap ∧ ys.length ≤ cap ∧ (∀ k, k < ys.length → ∃ g, a = some ⟨g, 0, none⟩ ∧ w.cell? ⟨g, k, none⟩ = some (.int .u8 (ys.getD k 0)) ∧ w.frozen? ⟨g, k, none⟩ = false) := by
  rcases h.2 with ⟨rfl, h0⟩ | ⟨g, cap, cur, rfl, hb, hh, hc, _, _, ht⟩
  · exact ⟨none, 0, by rw [h0], by omega, fun k hk => by omega⟩
  · refine ⟨_, cap, rfl, hc, fun k hk => ⟨g, rfl, ?_, ?_⟩⟩
    · rw [h.cellAt k (by omega)]; simp [List.getD, hk]
    · exact h.frozenAt k
theorem row_at {eT : TypeId} {w : World} {base : Nat} {a : Option Addr} {m cp : Nat} {ys : List Int} (h : Row eT w base (.slice a m cp) ys) (k : Nat) (hk : k < ys.length) : ∃ g, a = some ⟨g, 0, none⟩ ∧ w.cell? ⟨g, k, none⟩ = some (.int .u8 (ys.getD k 0)) ∧ w.frozen? ⟨g, k, none⟩ = false := by
  obtain ⟨a', cap', hv, _, hat⟩ := row_shape h
  cases hv
  exact hat k hk
theorem pmF_len (k j : Nat) (ys : Nat → List Int) (h : j ≤ (ys k).length) : (pmF k j ys k).length = (ys k).length := by rw [pmF_at]; simp [markL_len]; omega
end Go.Proofs.YthcmebmohhajaaaDoor

namespace Go.Proofs.YthcmebmohhajaaaDoor
open Go.RowKit
set_option linter.unusedVariables false

theorem info_sl : (Tryd.prog.info? 22).map (fun i => (i.zero, i.size, i.bytes)) = some (some (.slice none 0 0), 1, 24) := by kernel_rfl
theorem info_u8o : (Tryd.prog.info? 5).map (fun i => (i.zero, i.size, i.bytes)) = some (some (.int .u8 0), 1, 1) := by kernel_rfl

end Go.Proofs.YthcmebmohhajaaaDoor

namespace Go.Proofs.YthcmebmohhajaaaDoor
open Go.RowKit
set_option linter.unusedVariables false

def two {α : Type} (x y : α) : Nat → α := fun i => if i = 0 then x else y
def three {α : Type} (x y z : α) : Nat → α := fun i => if i = 0 then x else if i = 1 then y else z

theorem row_below {eT : TypeId} {w w' : World} {base : Nat} {v : Value} {ys : List Int} (h : Row eT w base v ys) (hb : Below w.heap.size w w') : Row eT w' base v ys := own_below h hb
theorem row_base {eT : TypeId} {w : World} {base base' : Nat} {v : Value} {ys : List Int} (h : Row eT w base v ys) (hb : base' ≤ base) : Row eT w base' v ys := own_base h hb
theorem row_seg {eT : TypeId} {w : World} {base : Nat} {a : Option Addr} {n cap : Nat} {ys : List Int} (h : Row eT w base (.slice a n cap) ys) (hb : ∀ z ∈ ys, 0 ≤ z ∧ z ≤ 255) : Seg w a ys ∧ ys.length ≤ cap ∧ (a = none → cap = 0) := by
  obtain ⟨_, a', c', hv, hs, hx, hc, _⟩ := own_seg h (M := 255) (by decide) hb
  cases hv
  refine ⟨hs, hc, fun e => ?_⟩
  subst e
  rcases h.2 with ⟨h0, _⟩ | ⟨g, cp, cur, h0, _⟩
  · simp at h0; exact h0.2
  · simp at h0
theorem ap_of {eT : TypeId} {w : World} {base base' m : Nat} {v u : Value} {xs ys : List Int} {w0 : World} (h : Row eT w0 base v xs) (h0 : w0.heap.size ≤ m) (k : Row eT w base' u ys) (hm : m ≤ base') : Ap v.ownBlock u.ownBlock := by
  intro j h1 h2
  have := (h.lt j h1).2
  have := (k.lt j h2).1
  omega

end Go.Proofs.YthcmebmohhajaaaDoor

namespace Go.Proofs.YthcmebmohhajaaaDoor
open Go.RowKit
set_option linter.unusedVariables false

theorem WrL.apart {w w' : World} {b1 b2 B : Nat} {v1 v2 : Value} {L1 L2 : List Bool} (h1 : WrL w b1 B v1 L1) (h2 : WrL w b2 B v2 L2) (hk : Kp (WS b2 v2) w w') (hb : b1 ≠ b2) (hb1 : b1 < B) (hb2 : b2 < B) (hap : Ap v1.ownBlock v2.ownBlock) : WrL w' b1 B v1 L1 := by
  refine h1.kp hk ?_ ?_
  · rintro (e | e)
    · exact hb e
    · have := (h2.own_lt _ e).1; omega
  · intro k e
    have hk1 := h1.own_lt k e
    rintro (e2 | e2)
    · omega
    · exact hap k e e2
theorem Ap.fresh {w : World} {b1 B : Nat} {v1 v2 v2' : Value} {L1 : List Bool} (hap : Ap v1.ownBlock v2.ownBlock) (h1 : WrL w b1 B v1 L1) (hf : Fresh w v2 v2') : Ap v1.ownBlock v2'.ownBlock := by
  intro k e1 e2
  have := (h1.own_lt k e1).2.1
  rcases hf k e2 with e | e
  · exact hap k e1 e
  · omega
theorem WrL.far {w : World} {b B N : Nat} {v : Value} {L : List Bool} (h : WrL w b B v L) (h1 : N ≤ b) (h2 : N ≤ B) {g : Nat} (hg : g < N) : ¬ WS b v g := by
  rintro (e | e)
  · omega
  · have := (h.own_lt g e).1; omega
theorem ap_nil : Ap (Value.slice none 0 0).ownBlock (Value.slice none 0 0).ownBlock := Ap.none _
theorem heap_new2 (w : World) (o o' : Obj) : ((w.alloc o).alloc o').heap[w.heap.size + 1]? = some o' := by
  have := heap_new (w.alloc o) o'
  rw [show (w.alloc o).heap.size = w.heap.size + 1 by simp] at this
  exact this
theorem beq_self_list (xs : List Int) : (xs == xs) = true := by simp
end Go.Proofs.YthcmebmohhajaaaDoor

namespace Go.Proofs.YthcmebmohhajaaaDoor
open Go.RowKit
set_option linter.unusedVariables false

theorem Fresh.refl (w : World) (v : Value) : Fresh w v v := fun k e => .inl e
theorem info_b1 : (Tryd.prog.info? 4).map (fun i => (i.zero, i.size, i.bytes)) = some (some (.bool false), 1, 1) := by kernel_rfl

/-- A block whose first cell is a list of bits in a row of its own. -/
structure RB (w : World) (b B : Nat) (T : TypeId) (xs : List Value) (a : Option Addr) (cap : Nat) (L : List Bool) : Prop where
  hp : w.heap[b]? = some (.cells (.slice a L.length cap :: xs).toArray T (0, 0))
  own : w.ownsRow B 4 1 (.slice a L.length cap) L.length (L.map Value.bool)
  ne : (Value.slice a L.length cap).ownBlock ≠ some b
  bB : B ≤ w.heap.size
variable {w w' wr w2 : World} {b B : Nat} {T : TypeId} {xs : List Value} {a : Option Addr} {cap : Nat} {L : List Bool}
theorem RB.b_lt (h : RB w b B T xs a cap L) : b < w.heap.size := (Array.getElem?_eq_some_iff.1 h.hp).1
theorem RB.kp {S : Nat → Prop} (h : RB w b B T xs a cap L) (hk : Kp S w w') (h1 : ¬ S b) (h2 : ∀ k, (Value.slice a L.length cap).ownBlock = some k → ¬ S k) : RB w' b B T xs a cap L :=
  ⟨hk.heap h.hp h1, own_kp h.own hk h2, h.ne, Nat.le_trans h.bB hk.size⟩
theorem RB.cell0 (h : RB w b B T xs a cap L) : w.cell? ⟨b, 0, none⟩ = some (.slice a L.length cap) := by simp [World.cell?, h.hp]
theorem RB.free (h : RB w b B T xs a cap L) (i : Nat) : w.frozen? ⟨b, i, none⟩ = false := by simp [World.frozen?, h.hp]
theorem RB.seg (h : RB w b B T xs a cap L) : SegB w a L := own_segB h.own
theorem RB.own_lt (h : RB w b B T xs a cap L) : ∀ k, (Value.slice a L.length cap).ownBlock = some k → B ≤ k ∧ k < w.heap.size ∧ k ≠ b :=
  fun k e => ⟨(h.own.lt k e).1, (h.own.lt k e).2, fun e2 => h.ne (e2 ▸ e)⟩

/-- A new row is laid into the first cell. -/
theorem RB.store (h : RB wr b B T xs a cap L) {a' : Option Addr} {cap' : Nat} {L' : List Bool} (hk : Kp (fun k => (Value.slice a L.length cap).ownBlock = some k) wr w2)
    (hown : w2.ownsRow B 4 1 (.slice a' L'.length cap') L'.length (L'.map Value.bool)) (hf : Fresh wr (.slice a L.length cap) (.slice a' L'.length cap')) :
    RB (w2.setCell ⟨b, 0, none⟩ (.slice a' L'.length cap')) b B T xs a' cap' L' ∧ Kp (WS b (.slice a L.length cap)) wr (w2.setCell ⟨b, 0, none⟩ (.slice a' L'.length cap')) ∧ Fresh wr (.slice a L.length cap) (.slice a' L'.length cap') := by
  have hp2 : w2.heap[b]? = some (.cells (.slice a L.length cap :: xs).toArray T (0, 0)) := hk.heap h.hp h.ne
  have hne : (Value.slice a' L'.length cap').ownBlock ≠ some b := by
    intro e
    rcases hf b e with e | e
    · exact h.ne e
    · have := h.b_lt; omega
  have hkb : Kp (fun j => j = b) w2 (w2.setCell ⟨b, 0, none⟩ (.slice a' L'.length cap')) := Kp.set (S := fun j => j = b) rfl _
  refine ⟨⟨?_, own_kp hown hkb (fun j e1 e2 => hne (e2 ▸ e1)), hne, Nat.le_trans h.bB (Nat.le_trans hk.size hkb.size)⟩, ?_, hf⟩
  · simp [World.setCell, Array.getElem?_modify, hp2]
  · exact (hk.mono (S' := WS b (.slice a L.length cap)) (fun i _ e => .inr e)).trans hkb (fun i _ e => .inl e)
theorem RB.pushed (h : RB wr b B T xs a cap L) {o : Obj} {gg cap2 : Nat} {y : Bool}
    (hown : w2.ownsRow B 4 1 (.slice (some ⟨gg, 0, none⟩) (L.length + 1) cap2) (L.length + 1) (L.map Value.bool ++ [.bool y]))
    (hgrow : ((wr.alloc o).drew).grownBy w2 (Value.slice a L.length cap).ownBlock) (hat : (Value.slice a L.length cap).ownBlock = some gg ∨ gg = wr.heap.size + 1) :
    RB (w2.setCell ⟨b, 0, none⟩ (.slice (some ⟨gg, 0, none⟩) (L.length + 1) cap2)) b B T xs (some ⟨gg, 0, none⟩) cap2 (L ++ [y]) ∧ Kp (WS b (.slice a L.length cap)) wr (w2.setCell ⟨b, 0, none⟩ (.slice (some ⟨gg, 0, none⟩) (L.length + 1) cap2)) ∧
      Fresh wr (.slice a L.length cap) (.slice (some ⟨gg, 0, none⟩) (L ++ [y]).length cap2) := by
  have hlen : (L ++ [y]).length = L.length + 1 := by simp
  have hk : Kp (fun k => (Value.slice a L.length cap).ownBlock = some k) wr w2 := ((Kp.alloc wr o).drew).trans (Kp.grown (S := fun k => (Value.slice a L.length cap).ownBlock = some k) hgrow (fun i e => e)) (fun _ _ e => e)
  have := h.store (L' := L ++ [y]) (a' := some ⟨gg, 0, none⟩) (cap' := cap2) hk (by rw [hlen]; simpa using hown) (by
    intro k e
    cases e
    rcases hat with e | e
    · exact .inl e
    · right; show wr.heap.size ≤ gg; omega)
  rw [hlen] at this
  simpa using this
theorem RB.pushed1 (h : RB wr b B T xs a cap L) {g2 c2 : Nat} {y : Bool}
    (hown : w2.ownsRow B 4 1 (.slice (some ⟨g2, 0, none⟩) (L.length + 1) c2) (L.length + 1) (L.map Value.bool ++ [.bool y]))
    (hgrow : wr.grownBy w2 (Value.slice a L.length cap).ownBlock) (hf : Fresh wr (.slice a L.length cap) (.slice (some ⟨g2, 0, none⟩) (L.length + 1) c2)) :
    RB (w2.setCell ⟨b, 0, none⟩ (.slice (some ⟨g2, 0, none⟩) (L.length + 1) c2)) b B T xs (some ⟨g2, 0, none⟩) c2 (L ++ [y]) ∧ Kp (WS b (.slice a L.length cap)) wr (w2.setCell ⟨b, 0, none⟩ (.slice (some ⟨g2, 0, none⟩) (L.length + 1) c2)) ∧
      Fresh wr (.slice a L.length cap) (.slice (some ⟨g2, 0, none⟩) (L ++ [y]).length c2) := by
  have hlen : (L ++ [y]).length = L.length + 1 := by simp
  have hk : Kp (fun k => (Value.slice a L.length cap).ownBlock = some k) wr w2 := Kp.grown hgrow (fun i e => e)
  have := h.store (L' := L ++ [y]) (a' := some ⟨g2, 0, none⟩) (cap' := c2) hk (by rw [hlen]; simpa using hown) (by rw [hlen]; exact hf)
  rw [hlen] at this
  simpa using this

/-- The document's Writer with these bits; v: its row. -/
def RwL (w : World) (b B : Nat) (v : Value) (L : List Bool) : Prop := ∃ a cap, v = .slice a L.length cap ∧ RB w b B 185 [] a cap L
theorem RwL.kp {v : Value} {S : Nat → Prop} (h : RwL w b B v L) (hk : Kp S w w') (h1 : ¬ S b) (h2 : ∀ k, v.ownBlock = some k → ¬ S k) : RwL w' b B v L := by
  obtain ⟨a, cap, rfl, h⟩ := h
  exact ⟨a, cap, rfl, h.kp hk h1 h2⟩
theorem RwL.b_lt {v : Value} (h : RwL w b B v L) : b < w.heap.size := by
  obtain ⟨a, cap, rfl, h⟩ := h
  exact h.b_lt
theorem RwL.own_lt {v : Value} (h : RwL w b B v L) : ∀ k, v.ownBlock = some k → B ≤ k ∧ k < w.heap.size ∧ k ≠ b := by
  obtain ⟨a, cap, rfl, h⟩ := h
  exact h.own_lt
end Go.Proofs.YthcmebmohhajaaaDoor

namespace Go.Proofs.YthcmebmohhajaaaDoor
open Go.RowKit
set_option linter.unusedVariables false

theorem rev_take (x k i : Nat) (h : i < k) : (bN x k).reverse.take (k - i) = (bN x k).reverse.take (k - (i + 1)) ++ [x.testBit i] := by
  have hl : (bN x k).reverse.length = k := rev_len x k
  have hg := rev_get x k (k - (i + 1)) (by omega)
  rw [show k - 1 - (k - (i + 1)) = i by omega] at hg
  rw [List.getElem?_eq_some_iff] at hg
  obtain ⟨hx, hg⟩ := hg
  rw [show k - i = k - (i + 1) + 1 by omega, List.take_succ_eq_append_getElem hx, hg]

end Go.Proofs.YthcmebmohhajaaaDoor

namespace Go.Proofs.YthcmebmohhajaaaDoor
open Go.RowKit
set_option linter.unusedVariables false

theorem RwL.far {w : World} {b B N : Nat} {v : Value} {L : List Bool} (h : RwL w b B v L) (h1 : N ≤ b) (h2 : N ≤ B) {g : Nat} (hg : g < N) : ¬ WS b v g := by
  rintro (e | e)
  · omega
  · have := (h.own_lt g e).1; omega
theorem RwL.below {w w' : World} {b B N : Nat} {v : Value} {L : List Bool} (h : RwL w b B v L) (hk : Kp (WS b v) w w') (h1 : N ≤ b) (h2 : N ≤ B) : Below N w w' :=
  hk.below (fun i e => by
    rcases e with e | e
    · omega
    · have := (h.own_lt i e).1; omega) (by have := h.b_lt; omega)

def accB (L : List Bool) (i : Nat) : List Int := (List.range ((L.length + 7) / 8)).map fun j => (num (((L.take i).drop (8 * j)).take 8) : Int)
theorem accB_len (L : List Bool) (i : Nat) : (accB L i).length = (L.length + 7) / 8 := by simp [accB]
theorem accB_get (L : List Bool) (i j : Nat) (h : j < (L.length + 7) / 8) : (accB L i)[j]? = some (num (((L.take i).drop (8 * j)).take 8) : Int) := by simp [accB, h]
theorem accB_end (L : List Bool) : accB L L.length = toB L := by
  apply List.ext_getElem?
  intro j
  by_cases h : j < (L.length + 7) / 8
  · rw [accB_get _ _ _ h, toB_get _ _ (by rw [toB_len]; exact h), List.take_length]
  · rw [List.getElem?_eq_none (by rw [accB_len]; omega), List.getElem?_eq_none (by rw [toB_len]; omega)]
theorem accB_zero (L : List Bool) : accB L 0 = List.replicate ((L.length + 7) / 8) 0 := by
  apply List.ext_getElem?
  intro j
  by_cases h : j < (L.length + 7) / 8
  · rw [accB_get _ _ _ h]
    simp [num, h]
  · rw [List.getElem?_eq_none (by rw [accB_len]; omega), List.getElem?_eq_none (by simp; omega)]
theorem accB_bd (L : List Bool) (i : Nat) : ∀ z ∈ accB L i, 0 ≤ z ∧ z ≤ 255 := by
  intro z hz
  simp only [accB, List.mem_map] at hz
  obtain ⟨j, _, rfl⟩ := hz
  have h1 := num_lt (((L.take i).drop (8 * j)).take 8)
  have h2 : (2 : Nat) ^ (((L.take i).drop (8 * j)).take 8).length ≤ 2 ^ 8 := Nat.pow_le_pow_right (by decide) (by simp; omega)
  omega
theorem piece_same (L : List Bool) (i j : Nat) (hi : i < L.length) (hj : j ≠ i / 8) : ((L.take (i + 1)).drop (8 * j)).take 8 = ((L.take i).drop (8 * j)).take 8 := by
  rw [List.take_succ_eq_append_getElem hi]
  by_cases h : 8 * j ≤ i
  · have h8 : 8 * j + 8 ≤ i := by omega
    rw [List.drop_append_of_le_length (by simp; omega), List.take_append_of_le_length (by simp; omega)]
  · rw [List.drop_of_length_le (by simp; omega), List.drop_of_length_le (by simp; omega)]
theorem piece_next (L : List Bool) (i : Nat) (hi : i < L.length) : num (((L.take (i + 1)).drop (8 * (i / 8))).take 8) = num (((L.take i).drop (8 * (i / 8))).take 8) + 2 ^ (i % 8) * (L[i]).toNat ∧ (((L.take i).drop (8 * (i / 8))).take 8).length = i % 8 := by
  have hl : (((L.take i).drop (8 * (i / 8))).take 8).length = i % 8 := by simp; omega
  refine ⟨?_, hl⟩
  rw [List.take_succ_eq_append_getElem hi, List.drop_append_of_le_length (by simp; omega)]
  rw [List.take_of_length_le (by simp; omega), ← List.take_of_length_le (l := (L.take i).drop (8 * (i / 8))) (i := 8) (by simp; omega), num_snoc, hl, List.take_take, Nat.min_self]
theorem accB_next (L : List Bool) (i : Nat) (hi : i < L.length) (z : Int) (hz : z = (num (((L.take i).drop (8 * (i / 8))).take 8) : Int)) : accB L (i + 1) = (accB L i).set (i / 8) (z + ((2 ^ (i % 8) * (L[i]).toNat : Nat) : Int)) := by
  apply List.ext_getElem?
  intro j
  by_cases h : j < (L.length + 7) / 8
  · rw [accB_get _ _ _ h]
    by_cases hj : j = i / 8
    · subst hj
      rw [List.getElem?_set_self (by rw [accB_len]; exact h), (piece_next L i hi).1, hz]
      simp
    · rw [List.getElem?_set_ne (by omega), accB_get _ _ _ h, piece_same L i j hi hj]
  · rw [List.getElem?_eq_none (by rw [accB_len]; omega), List.getElem?_eq_none (by rw [List.length_set, accB_len]; omega)]
theorem accB_same (L : List Bool) (i : Nat) (hi : i < L.length) (hb : L[i] = false) : accB L (i + 1) = accB L i := by
  apply List.ext_getElem?
  intro j
  by_cases h : j < (L.length + 7) / 8
  · rw [accB_get _ _ _ h, accB_get _ _ _ h]
    by_cases hj : j = i / 8
    · subst hj
      rw [(piece_next L i hi).1, hb]
      simp
    · rw [piece_same L i j hi hj]
  · rw [List.getElem?_eq_none (by rw [accB_len]; omega), List.getElem?_eq_none (by rw [accB_len]; omega)]
theorem add_bit8 {z r : Nat} (hz : z < 2 ^ r) (hr : r < 8) : IntKind.u8.wrap ((z : Int) + IntKind.u8.wrap (2 ^ r)) = ((z + 2 ^ r : Nat) : Int) ∧ ((z : Int) + 2 ^ r) % 256 = ((z + 2 ^ r : Nat) : Int) := by
  have h1 : 2 ^ r ≤ 2 ^ 7 := Nat.pow_le_pow_right (by decide) (by omega)
  rw [show (2 : Int) ^ r = ((2 ^ r : Nat) : Int) by simp]
  generalize 2 ^ r = p at *
  rw [IntKind.wrap_u8, IntKind.wrap_u8]
  constructor <;> omega

theorem info_u8y : (Tryd.prog.info? 5).map (fun i => (i.zero, i.size, i.bytes)) = some (some (.int .u8 0), 1, 1) := by kernel_rfl
theorem made_noughts (n : Nat) : madeCells #[.int .u8 0] n = ((List.replicate n (0 : Int)).map (Value.int .u8)).toArray := by
  apply Array.toList_inj.1
  rw [toList_madeCells_one]
  simp
theorem run_make_noughts (n : Nat) (h : n ≤ 140737488355328) (w : World) :
    (Instr.makeSlice 22 (.int .i64 (n : Int)) (.int .i64 (n : Int))).run Tryd.prog w = .ok (.slice (some ⟨w.heap.size, 0, none⟩) n n) (w.alloc (.cells ((List.replicate n (0 : Int)).map (Value.int .u8)).toArray 5)) := by
  rw [← made_noughts]
  exact run_make_row' 22 5 (.int .u8 0) 1 Tryd.underlying22 info_u8y rfl .i64 .i64 n (by omega) (by omega) w
theorem made_row (w : World) (zs : List Int) (e : TypeId) (h : zs.length ≤ 140737488355328) : (w.alloc (.cells (zs.map (Value.int .u8)).toArray e)).ownsRow w.heap.size e 1 (.slice (some ⟨w.heap.size, 0, none⟩) zs.length zs.length) zs.length (zs.map (Value.int .u8)) := by
  refine ⟨by simp, .inr ⟨w.heap.size, zs.length, (zs.map (Value.int .u8)).toArray, rfl, Nat.le_refl _, heap_alloc_new w _, Nat.le_refl _, ?_, by simp, ?_⟩⟩
  · unfold maxLen
    omega
  · simp only [Nat.mul_one]
    exact List.take_of_length_le (by simp)

end Go.Proofs.YthcmebmohhajaaaDoor

namespace Go.Proofs.YthcmebmohhajaaaDoor
open Go.RowKit
set_option linter.unusedVariables false

/-- Bits that lie somewhere, behind a row. -/
theorem wpList_appB {P : Program} {ops : Array Oper} {rest : List Oper} {o : Oper} {a : Act} {Q : Exit → Act → World → Prop} (hgd : o.guard = none) (s x : Operand) (t : TypeId)
    (ho : o.op = .call { callee := .builtin .append, args := #[s, x], argTypes := #[t, t] })
    (base : Nat) (e : TypeId) (i : TypeInfo) (z : Value) (bytes : Nat) (ht : P.underlying t = some (.slice e)) (hi : P.info? e = some i) (hz : i.zero = some z)
    (hsize : i.size = 1) (hby : i.bytes = bytes) (hzs : z.cells.size = 1)
    {w : World} {ra : Option Addr} {rc : Nat} {n : Nat} {xs : List Value} (hown : w.ownsRow base e 1 (.slice ra n rc) n xs) {ao : Option Addr} {zs : List Bool} {cap : Nat} (hseg : SegB w ao zs) (hnil : ao = none → cap = 0)
    (hs : a.eval s = .slice ra n rc) (hx : a.eval x = .slice ao zs.length cap)
    (h63 : n + zs.length ≤ 140737488355328) (hbytes : (n + zs.length) * bytes ≤ 140737488355328) (hbase : base ≤ w.heap.size)
    (h : ∀ (b : Option Addr) (c : Nat) (w' : World), w'.ownsRow base e 1 (.slice b (n + zs.length) c) (n + zs.length) (xs ++ zs.map Value.bool) → w.grownBy w' (Value.slice ra n rc).ownBlock → Fresh w (.slice ra n rc) (.slice b (n + zs.length) c) → wpList P ops Q rest (a.put o.dst (.slice b (n + zs.length) c)) w') : wpList P ops Q (o :: rest) a w := by
  cases ao with
  | none =>
    have hz : zs = [] := by
      cases zs with
      | nil => rfl
      | cons z r => obtain ⟨b, off, hx, _⟩ := hseg.at_ 0 (by simp); cases hx
    subst hz
    rw [hnil rfl] at hx
    refine wpList_append_own_none hgd s x t ho base e i 1 ht hi _ n xs hs hown hx ?_
    have := h ra rc w (by simpa using hown) (World.grownBy.refl _ _) (fun k hk => .inl hk)
    simpa using this
  | some ad =>
    exact wpList_app hgd s x t ho base e i z bytes ht hi hz hsize hby hzs hown (by simp) (segB_cells hseg) (bools_oneCell _) hs hx h63 hbytes hbase (fun b c w' h1 h2 h3 _ => h b c w' h1 h2 h3)
theorem RB.set1 {w : World} {b B : Nat} {T : TypeId} {x : Value} {a : Option Addr} {cap : Nat} {L : List Bool} (h : RB w b B T [x] a cap L) (u : Value) : RB (w.setCell ⟨b, 1, none⟩ u) b B T [u] a cap L ∧ Kp (fun j => j = b) w (w.setCell ⟨b, 1, none⟩ u) := by
  have hk : Kp (fun j => j = b) w (w.setCell ⟨b, 1, none⟩ u) := Kp.set (S := fun j => j = b) rfl _
  refine ⟨⟨?_, own_kp h.own hk (fun j e1 e2 => h.ne (e2 ▸ e1)), h.ne, Nat.le_trans h.bB hk.size⟩, hk⟩
  have hp : w.heap[b]? = some (.cells #[.slice a L.length cap, x] T (0, 0)) := h.hp
  exact two_set1 hp u
/-- A row that was made anew is laid into the first cell, and a number into the second. -/
theorem RB.renew {w w2 : World} {b B : Nat} {T : TypeId} {x : Value} {a a' : Option Addr} {cap cap' : Nat} {L M : List Bool} {o : Obj} (h : RB w b B T [x] a cap L) (u : Value)
    (hown : w2.ownsRow w.heap.size 4 1 (.slice a' (0 + M.length) cap') (0 + M.length) ([] ++ M.map Value.bool)) (hg : (w.alloc o).grownBy w2 (some w.heap.size)) (hf : Fresh (w.alloc o) (.slice (some ⟨w.heap.size, 0, none⟩) 0 0) (.slice a' (0 + M.length) cap')) :
    RB ((w2.setCell ⟨b, 0, none⟩ (.slice a' M.length cap')).setCell ⟨b, 1, none⟩ u) b B T [u] a' cap' M ∧ Kp (WS b (.slice a L.length cap)) w ((w2.setCell ⟨b, 0, none⟩ (.slice a' M.length cap')).setCell ⟨b, 1, none⟩ u) ∧ Fresh w (.slice a L.length cap) (.slice a' M.length cap') := by
  rw [Nat.zero_add] at hown hf
  have hk : Kp (fun k => (Value.slice a L.length cap).ownBlock = some k) w w2 := by
    have h1 : Kp (fun k => w.heap.size ≤ k) w w2 := (Kp.alloc w o).trans (Kp.grown (S := fun k => w.heap.size ≤ k) hg (by intro i e; cases e; exact Nat.le_refl _)) (fun _ _ e => e)
    exact h1.mono (fun i hi e => by omega)
  have hf2 : Fresh w (.slice a L.length cap) (.slice a' M.length cap') := by
    intro k e
    right
    rcases hf k e with e | e
    · cases e; exact Nat.le_refl _
    · simp at e; omega
  have hs := h.store hk (own_base (by simpa using hown) h.bB) hf2
  have h1 := hs.1.set1 u
  exact ⟨h1.1, hs.2.1.trans h1.2 (fun j _ e => .inl e), hf2⟩

end Go.Proofs.YthcmebmohhajaaaDoor

namespace Go.Proofs.YthcmebmohhajaaaDoor
open Go.RowKit
set_option linter.unusedVariables false

theorem seg_bool1 (w : World) (y : Bool) : SegB (w.alloc (.cells #[.bool y] 4)) (some ⟨w.heap.size, 0, none⟩) [y] := by
  refine ⟨fun i hi => ⟨w.heap.size, 0, rfl, ?_⟩⟩
  simp only [List.length_cons, List.length_nil] at hi
  match i, hi with
  | 0, _ => simp
theorem and_oneI (v : Nat) : bits .and .i64 (v : Int) 1 = ((v % 2 : Nat) : Int) := by
  have h1 : (BitVec.ofInt 64 1).toNat = 2 ^ 1 - 1 := by decide
  have key : (BitVec.ofInt 64 (v : Int) &&& BitVec.ofInt 64 1).toNat = ((v : Int) % ((2 ^ 64 : Nat) : Int)).toNat % 2 ^ 1 := by
    rw [BitVec.toNat_and, BitVec.toNat_ofInt, h1, Nat.and_two_pow_sub_one_eq_mod]
  show IntKind.i64.wrap ((BitVec.ofInt 64 (v : Int) &&& BitVec.ofInt 64 1).toNat : Nat) = ((v % 2 : Nat) : Int)
  rw [key, IntKind.wrap_i64]
  omega
set_option maxRecDepth 100000 in
set_option maxHeartbeats 1000000 in
theorem row5_any (x k : Nat) (w : World) (hx : x < 32768) (hk : k ≤ 15) :
    Calls Tryd.prog 96 #[.int .i64 (x : Int), .int .i64 (k : Int)] w fun e w' => ∃ a c, e = .returned (.slice a k c) ∧ w'.ownsRow w.heap.size 4 1 (.slice a k c) k ((bN x k).reverse.map Value.bool) ∧ Below w.heap.size w w' := by
  obtain ⟨i0, hi, hz0, hz1, hz2⟩ := info_parts info_b1
  go_enter Tryd.func96, Tryd.ntmps96
  go_wp2_with fail
  go_loopw [5, 6] (fun tl ti wr => ∃ (m : Nat) (a1 : Option Addr) (c1 : Nat), m ≤ k ∧ ti = .int .i64 ((m : Int) - 1) ∧ tl = .slice a1 (k - m) c1 ∧ wr.ownsRow w.heap.size 4 1 (.slice a1 (k - m) c1) (k - m) (((bN x k).reverse.take (k - m)).map Value.bool) ∧ Below w.heap.size w wr) (fun _ ti _ => (intOf ti + 1).toNat)
  case atStart => exact ⟨k, none, 0, Nat.le_refl _, rfl, by rw [Nat.sub_self], by rw [Nat.sub_self, List.take_zero]; exact World.ownsRow_nil _ _ _ _, Below.refl _ _⟩
  case round =>
    obtain ⟨m, a1, c1, hm, rfl, rfl, O1, B1⟩ := hrel
    by_cases hlt : 0 < m
    · obtain ⟨i, rfl⟩ : ∃ i, m = i + 1 := ⟨m - 1, by omega⟩
      have hbs := rev_take x k i (by omega)
      have him : (((i + 1 : Nat) : Int) - 1) = (i : Int) := by omega
      rw [him]
      have HK : Hid (k - (i + 1) + 1 = k - i) := by show _ = _; omega
      have HB : Hid (((bN x k).reverse.take (k - (i + 1))).map Value.bool ++ [x.testBit i].map Value.bool = ((bN x k).reverse.take (k - i)).map Value.bool) := by show _ = _; rw [hbs, List.map_append]
      have hq := shr_nat x i
      have ha := and_oneI (x / 2 ^ i)
      have hb := bit_eq x i
      have hq0 : x / 2 ^ i < 32768 := Nat.lt_of_le_of_lt (Nat.div_le_self _ _) hx
      have hkm : k - (i + 1) ≤ 15 := by omega
      have hi15 : i ≤ 15 := by omega
      have hsz := B1.size
      clear him hbs
      generalize hqq : x / 2 ^ i = q at *
      clear hqq
      have hb2 : q % 2 < 2 := by omega
      generalize q % 2 = bb at *
      generalize x.testBit i = y at *
      generalize k - (i + 1) = r at *
      go_wp2_with (first
        | (at_builtin; refine wpList_appB rfl (.tmp 13) (.tmp 19) 38 rfl w.heap.size 4 i0 (.bool false) 1 Tryd.underlying38 hi hz0 hz1 hz2 rfl (O1.alloc _) (seg_bool1 wr y) (by intro h; cases h) rfl rfl (by simp; omega) (by simp; omega) (by simp; omega) ?_; intro a2 c2 w2 hown2 hg2 hf2; clear hf2))
      have B2 : Below w.heap.size w w2 := (B1.alloc hsz _).trans (below_own (O1.alloc _) hg2 (by simp; omega))
      rw [HB.out, show r + [y].length = k - i from HK.out] at hown2
      refine ⟨⟨i, a2, c2, by omega, rfl, by rw [← HK.out], hown2, B2⟩, ?_⟩
      show (((i : Int) - 1) + 1).toNat < ((i : Int) + 1).toNat
      omega
    · obtain rfl : m = 0 := by omega
      go_wp2_with fail
      go_ret
      rw [Nat.sub_zero, List.take_of_length_le (by rw [rev_len]; omega)] at O1
      exact ⟨a1, c1, by rw [Nat.sub_zero]; rfl, O1, B1⟩

theorem costV_in {zs : List Int} {k : Nat} (hk : k < zs.length) : costV zs k = zs.getD k 0 := by
  unfold costV
  rw [if_pos ⟨by omega, by omega⟩, Int.toNat_natCast]
theorem putB_in {zs : List Int} (h : errC zs = 0) {k : Nat} (hk : k < zs.length) : putB zs k = (bN (cd zs k) (ln zs k)).reverse := by
  have hL := (errS_zero (errC_zero h).1)
  have HLN := hL.2.ln k
  unfold putB
  rw [costV_in hk, HLN.1, Int.toNat_natCast]
  by_cases hz : ln zs k = 0
  · rw [if_pos (by omega), hz]; rfl
  · rw [if_neg (by omega)]; rfl
theorem putB_out {zs : List Int} {s : Int} (h : s < 0 ∨ (zs.length : Int) ≤ s) : putB zs s = [] := by
  have h0 : costV zs s = 0 := by unfold costV; rw [if_neg (by omega)]
  unfold putB
  rw [if_pos h0]
theorem putB_cost {zs : List Int} (h : errC zs = 0) (s : Int) : costV zs s = ((putB zs s).length : Int) := by
  by_cases hs : 0 ≤ s ∧ s < zs.length
  · obtain ⟨k, rfl⟩ : ∃ k : Nat, s = k := ⟨s.toNat, by omega⟩
    rw [putB_in h (by omega), rev_len]
    unfold costV
    rw [if_pos hs, Int.toNat_natCast]
    exact ((errS_zero (errC_zero h).1).2.ln k).1
  · rw [putB_out (by omega)]
    unfold costV
    rw [if_neg hs]
    rfl
theorem putB_err {zs : List Int} (h : errC zs = 0) (s : Int) : errP zs s = if (putB zs s).length = 0 then 53 else 0 := by
  unfold errP
  rw [putB_cost h]
  by_cases hz : (putB zs s).length = 0
  · rw [if_pos (by omega), if_pos hz]
  · rw [if_neg (by omega), if_neg hz]
theorem putB_le {zs : List Int} (h : errC zs = 0) (s : Int) : (putB zs s).length ≤ 15 := by
  by_cases hs : 0 ≤ s ∧ s < zs.length
  · obtain ⟨k, rfl⟩ : ∃ k : Nat, s = k := ⟨s.toNat, by omega⟩
    rw [putB_in h (by omega), rev_len]
    exact ((errS_zero (errC_zero h).1).2.ln k).2
  · rw [putB_out (by omega)]
    simp

set_option maxRecDepth 100000 in
theorem put5_made (b N : Nat) (zs : List Int) (s : Int) (w : World) (h : En w b N zs) : Calls Tryd.prog 35 #[.pointer (some ⟨b, 0, none⟩), .pointer none, .int .i64 s] w fun e w' => e = .returned (.int .i64 2) ∧ w' = w := by
  obtain ⟨la, lc, ca, cc, c0, _, _, _, _⟩ := h.cells
  go_enter Tryd.func35, Tryd.ntmps35
  go_wp2_with fail
  go_ret
  exact ⟨rfl, rfl⟩

def EncF (w : World) (zs : List Int) (e : Ending) (w' : World) : Prop := (errC zs = 0 → ∃ b, e = .returned (.tuple #[.pointer (some ⟨b, 0, none⟩), .int .i64 0]) ∧ w.heap.size ≤ b ∧ En w' b w'.heap.size zs ∧ ∀ W, Kp (fun k => k < w.heap.size) w' W → En W b w'.heap.size zs) ∧ (errC zs ≠ 0 → e = .returned (.tuple #[.pointer none, .int .i64 (errC zs)])) ∧ Below w.heap.size w w'
set_option maxRecDepth 100000 in
set_option maxHeartbeats 1000000 in
theorem newEnc_far (a : Option Addr) (zs : List Int) (n cap : Nat) (hn : Hid (zs.length = n)) (w : World) (hs : SegZ w a zs) (hnil : a = none → cap = 0) (hl : n ≤ 9223372036854775807) :
    Calls Tryd.prog 34 #[.slice a n cap] w fun e w' => EncF w zs e w' := by
  have HC := codes_any a zs n cap hn w hs hl
  by_cases hok : errC zs = 0
  · have HOK : Hid (errC zs = 0) := hok
    have HL := errS_zero (errC_zero hok).1
    have hn288 : n ≤ 288 := by have := hn.out; have := HL.1; omega
    clear hok HL
    have HCL : Hid (∀ W, Below w.heap.size w W → Calls Tryd.prog 55 #[.slice a n cap] W fun e w' => ∃ a' c', e = .returned (.slice a' n c') ∧ w'.ownsRow W.heap.size 3 1 (.slice a' n c') n (zs.map (Value.int .i64)) ∧ Below W.heap.size W w') := fun W hW => clone5_any a zs n cap hn W (hs.old hW) hnil (by omega)
    have e1 : Hid (cdsR zs = cds zs) := by show _ = _; unfold cdsR; rw [if_pos HOK.out]
    have e3 : Hid ((cds zs).length = n) := by show _ = _; rw [cds_len]; exact hn.out
    go_enter Tryd.func34, Tryd.ntmps34
    go_wp2_with fail
    refine HC.mono ?_
    rintro e W1 ⟨b1, c1, rfl, O1, B1⟩
    rw [e1.out, e3.out] at O1
    rw [e1.out, e3.out, HOK.out]
    go_wp2_with fail
    refine (HCL.out _ B1).mono ?_
    rintro e W2 ⟨a2, c2, rfl, O2, B2⟩
    have B12 : Below w.heap.size w W2 := B1.trans (B2.mono B1.size)
    have O1b := own_below O1 B2
    go_wp2_with fail
    go_ret2
    have hbl := own_blk O2
    have hbl1 := own_blk O1b
    have hzb : ∀ z ∈ zs, -9223372036854775808 ≤ z ∧ z ≤ 9223372036854775807 := hs.mem
    have HEN : En (W2.alloc (.cells #[.bool true, .slice a2 n c2, .slice b1 n c1] 120)) W2.heap.size (W2.alloc (.cells #[.bool true, .slice a2 n c2, .slice b1 n c1] 120)).heap.size zs := by
      refine ⟨HOK.out, by simp, a2, c2, b1, c1, ?_, ?_, ?_, ?_, ?_⟩
      · rw [hn.out]; exact heap_alloc_new W2 _
      · exact (own_segZ O2 hzb).alloc _
      · exact (own_segZ O1b (cds_bd HOK.out)).alloc _
      · intro x hx
        have := hbl x hx
        simp
        omega
      · intro x hx
        have := hbl1 x hx
        simp
        omega
    refine ⟨fun _ => ⟨W2.heap.size, rfl, B12.size, HEN, fun W hW => ?_⟩, fun h => absurd HOK.out h, B12.alloc B12.size _⟩
    refine ⟨HOK.out, by simp, a2, c2, b1, c1, ?_, ?_, ?_, ?_, ?_⟩
    · rw [hn.out]; exact hW.heap (heap_alloc_new W2 _) (by have := B12.size; omega)
    · exact ((own_segZ O2 hzb).alloc _).kp hW (fun b off e _ => by have := hbl _ e; have := B1.size; simp at *; omega)
    · exact ((own_segZ O1b (cds_bd HOK.out)).alloc _).kp hW (fun b off e _ => by have := hbl1 _ e; simp at *; omega)
    · intro x hx
      have := hbl x hx
      simp
      omega
    · intro x hx
      have := hbl1 x hx
      simp
      omega
  · have HNK : Hid (¬ errC zs = 0) := hok
    have key : ∀ E : Int, E = 50 ∨ E = 51 ∨ E = 52 → errC zs = E → Calls Tryd.prog 34 #[.slice a n cap] w fun e w' => EncF w zs e w' := by
      intro E hE hEE
      have HEE : Hid (errC zs = E) := hEE
      clear hEE hok
      rcases hE with rfl | rfl | rfl
      all_goals
        go_enter Tryd.func34, Tryd.ntmps34
        go_wp2_with fail
        refine HC.mono ?_
        rintro e W1 ⟨b1, c1, rfl, O1, B1⟩
        rw [HEE.out]
        clear O1
        go_wp2_with fail
        go_ret2
        exact ⟨fun h => absurd h HNK.out, fun _ => by rw [HEE.out]; rfl, B1⟩
    rcases errC_cases zs with h | h | h | h
    · exact absurd h hok
    · exact key 50 (.inl rfl) h
    · exact key 51 (.inr (.inl rfl)) h
    · exact key 52 (.inr (.inr rfl)) h
end Go.Proofs.YthcmebmohhajaaaDoor

namespace Go.Proofs.YthcmebmohhajaaaDoor
open Go.RowKit
set_option linter.unusedVariables false

theorem seg_lit {w : World} : SegZ (w.alloc (.cells #[.int .i64 2, .int .i64 1, .int .i64 3, .int .i64 3] 3)) (some ⟨w.heap.size, 0, none⟩) [2, 1, 3, 3] := by
  refine ⟨fun i hi => ⟨w.heap.size, 0, rfl, ?_⟩, getD_bdz (by intro z hz; simp at hz; omega)⟩
  simp only [List.length_cons, List.length_nil] at hi
  match i, hi with
  | 0, _ => simp
  | 1, _ => simp
  | 2, _ => simp
  | 3, _ => simp
theorem ex_ok : errC [2, 1, 3, 3] = 0 := by decide
theorem ex_put2 : errP [2, 1, 3, 3] 2 = 0 ∧ putB [2, 1, 3, 3] 2 = [true, true, false] := by decide
theorem ex_put1 : errP [2, 1, 3, 3] 1 = 0 ∧ putB [2, 1, 3, 3] 1 = [false] := by decide
theorem ex_beg2 : Beg [2, 1, 3, 3] (bN 3 8) 2 := by unfold Beg; decide
theorem ex_beg1 : Beg [2, 1, 3, 3] ((bN 3 8).drop 3) 1 := by unfold Beg; decide
theorem toB_three : toB [true, true, false, false] = [3] := by
  rw [toB_eq (by decide)]
  rw [show ([true, true, false, false] : List Bool).drop 8 = [] from by decide, toB_nil]
  decide
theorem ex_lok : LOk [2, 1, 3, 3] := by unfold LOk; decide

end Go.Proofs.YthcmebmohhajaaaDoor

namespace Go.Proofs.YthcmebmohhajaaaDoor
open Go.RowKit
set_option linter.unusedVariables false

/-- The bits of symbols, one behind the other. -/
def PB (zs ps : List Int) : List Bool := ps.flatMap (putB zs)
theorem PB_nil (zs : List Int) : PB zs [] = [] := rfl
theorem PB_append (zs ps qs : List Int) : PB zs (ps ++ qs) = PB zs ps ++ PB zs qs := by simp [PB]
theorem PB_snoc (zs ps : List Int) (s : Int) : PB zs (ps ++ [s]) = PB zs ps ++ putB zs s := by rw [PB_append]; simp [PB]
theorem PB_len {zs : List Int} (h : errC zs = 0) : ∀ ps : List Int, (PB zs ps).length ≤ 15 * ps.length
  | [] => by simp [PB]
  | s :: ps => by
    have h1 := PB_len h ps
    have h2 := putB_le h s
    have : PB zs (s :: ps) = putB zs s ++ PB zs ps := by simp [PB]
    rw [this, List.length_append, List.length_cons]
    omega
theorem putB_lenIn {zs : List Int} (h : errC zs = 0) {k : Nat} (hk : k < zs.length) : (putB zs k).length = ln zs k := by rw [putB_in h hk, rev_len]
theorem putB_vB {zs : List Int} (h : errC zs = 0) {k : Nat} (hk : k < zs.length) : vB (putB zs k) (ln zs k) = cd zs k := by
  rw [putB_in h hk]
  unfold vB
  rw [List.take_of_length_le (by rw [rev_len]; exact Nat.le_refl _), List.reverse_reverse, num_bN_lt (cd_small h hk).1]
theorem vB_same {H c : List Bool} {l : Nat} (h : H.take l = c.take l) : vB H l = vB c l := by unfold vB; rw [h]
/-- What is held, and what comes behind it, are the symbol's bits and those behind. -/
theorem held_split {zs P : List Int} {i fed : Nat} {H : List Bool} (hi : i < P.length) (hH : PB zs (P.take i) ++ H = bB ((toB (PB zs P)).take fed)) :
    ∃ Y, H ++ bB ((toB (PB zs P)).drop fed) = putB zs (P.getD i 0) ++ Y := by
  obtain ⟨k, _, hB⟩ := bB_toB (L := PB zs P)
  have h1 : bB (toB (PB zs P)) = PB zs (P.take i) ++ H ++ bB ((toB (PB zs P)).drop fed) := by
    rw [hH, ← bB_append, List.take_append_drop]
  have h2 : PB zs P = PB zs (P.take i) ++ (putB zs (P.getD i 0) ++ PB zs (P.drop (i + 1))) := by
    rw [← List.append_assoc, ← PB_snoc, ← take_snocZ hi, ← PB_append, List.take_append_drop]
  refine ⟨PB zs (P.drop (i + 1)) ++ List.replicate k false, ?_⟩
  rw [hB] at h1
  have h3 : PB zs (P.take i) ++ (H ++ bB ((toB (PB zs P)).drop fed)) = PB zs (P.take i) ++ (putB zs (P.getD i 0) ++ (PB zs (P.drop (i + 1)) ++ List.replicate k false)) := by
    rw [← List.append_assoc, ← h1]
    generalize bB ((toB (PB zs P)).drop fed) = Z at *
    rw [h2]
    simp only [List.append_assoc]
  exact List.append_cancel_left h3
theorem held_beg {zs P : List Int} {i fed k : Nat} {H : List Bool} (hok : errC zs = 0) (hi : i < P.length) (hs : P.getD i 0 = (k : Int)) (hk : k < zs.length) (hk0 : zs.getD k 0 ≠ 0) (hH : PB zs (P.take i) ++ H = bB ((toB (PB zs P)).take fed)) (hl : ln zs k ≤ H.length) :
    Beg zs H k ∧ PB zs (P.take (i + 1)) ++ H.drop (ln zs k) = bB ((toB (PB zs P)).take fed) ∧ (PB zs (P.take (i + 1))).length = (PB zs (P.take i)).length + ln zs k := by
  obtain ⟨Y, hY⟩ := held_split hi hH
  rw [hs] at hY
  have hpl := putB_lenIn hok hk
  have h1 := congrArg (List.take (ln zs k)) hY
  rw [List.take_append_of_le_length hl, List.take_left' hpl] at h1
  have h2 : PB zs (P.take (i + 1)) = PB zs (P.take i) ++ putB zs k := by rw [take_snocZ hi, PB_snoc, hs]
  refine ⟨⟨hk, hk0, hl, ?_⟩, ?_, ?_⟩
  · rw [vB_same (c := putB zs k) (by rw [h1, List.take_of_length_le (by rw [hpl]; exact Nat.le_refl _)]), putB_vB hok hk]
  · rw [h2, ← h1, List.append_assoc, List.take_append_drop, hH]
  · rw [h2, List.length_append, hpl]
theorem held_may {zs P : List Int} {i fed k : Nat} {H : List Bool} (hok : errC zs = 0) (hi : i < P.length) (hs : P.getD i 0 = (k : Int)) (hk : k < zs.length) (hk0 : zs.getD k 0 ≠ 0) (hH : PB zs (P.take i) ++ H = bB ((toB (PB zs P)).take fed)) (hl : H.length < ln zs k) :
    (∀ s, ¬ Beg zs H s) ∧ May zs H ∧ fed < (toB (PB zs P)).length := by
  obtain ⟨Y, hY⟩ := held_split hi hH
  rw [hs] at hY
  have hpl := putB_lenIn hok hk
  have hlok := (errS_zero (errC_zero hok).1).2
  have h1 := congrArg (List.take H.length) hY
  rw [List.take_left' rfl, List.take_append_of_le_length (by omega)] at h1
  have hv : ∀ l, l ≤ H.length → vB H l = cd zs k / 2 ^ (ln zs k - l) := by
    intro l hle
    have e1 : H.take l = (putB zs k).take l := by
      have := congrArg (List.take l) h1
      rw [List.take_take, Nat.min_eq_left hle] at this
      exact this
    rw [vB_same e1, ← vB_div (putB zs k) (a := l) (b := ln zs k) (by omega) (by omega), putB_vB hok hk]
  refine ⟨fun s hb => ?_, ⟨k, hk, hk0, hl, (hv _ (Nat.le_refl _)).symm⟩, ?_⟩
  · obtain ⟨b1, b2, b3, b4⟩ := hb
    rw [hv _ b3] at b4
    have := cd_apart hlok b1 hk b2 (by omega) b4
    subst this
    omega
  · rcases Nat.lt_or_ge fed (toB (PB zs P)).length with h | h
    · exact h
    · exfalso
      rw [List.drop_eq_nil_of_le h] at hY
      have := congrArg List.length hY
      simp only [bB, List.append_nil, List.length_append, hpl] at this
      omega
end Go.Proofs.YthcmebmohhajaaaDoor

namespace Go.Proofs.YthcmebmohhajaaaDoor
open Go.RowKit
set_option linter.unusedVariables false

/-! A reader of lengths as a machine: one part at a time. -/
structure S8 where
  nx : Nat
  lit : Nat
  dist : Nat
  told : Nat
  sized : Nat
  sym : Nat
  sz : List Int
  out : List Int
def ini8 : S8 := ⟨0, 0, 0, 0, 0, 0, List.replicate 19 0, []⟩
/-- The counts are there. -/
def cts8 (s : S8) (v : Nat) : S8 := { s with lit := 257 + v % 32, dist := 1 + v / 32 % 32, told := 4 + v / 1024, nx := if 286 < 257 + v % 32 ∨ 30 < 1 + v / 32 % 32 then 5 else 1 }
/-- A size more. -/
def ssz8 (s : S8) (v : Nat) : List Int := s.sz.set (ordL.getD s.sized 0).toNat (v : Int)
def siz8 (s : S8) (v : Nat) : S8 := { s with sz := ssz8 s v, sized := s.sized + 1, nx := if s.sized + 1 = s.told then (if (∀ z ∈ ssz8 s v, z = 0) ∨ errC (ssz8 s v) ≠ 0 then 5 else 2) else s.nx }
/-- What a symbol stands for. -/
def vls8 (s : S8) : Int := if s.sym = 16 then s.out.getLastD 0 else if 16 < s.sym then 0 else (s.sym : Int)
def lay8 (s : S8) (k : Nat) : S8 :=
  if s.lit + s.dist < s.out.length + k then { s with nx := 5 } else
  { s with out := s.out ++ List.replicate k (vls8 s), nx := if s.out.length + k = s.lit + s.dist then (if tld8 errC ((s.out ++ List.replicate k (vls8 s)).take s.lit) ((s.out ++ List.replicate k (vls8 s)).drop s.lit) then 4 else 5) else 2 }
def sym8 (s : S8) (x : Nat) : S8 :=
  if x = 16 ∧ s.out = [] then { s with sym := x, nx := 5 } else if 16 ≤ x then { s with sym := x, nx := 3 } else lay8 { s with sym := x } 1
/-- One part, of the bits that are held; so many bits go. -/
inductive One8 : S8 → List Bool → S8 → Nat → Prop
  | cts {s : S8} {H : List Bool} : s.nx = 0 → 14 ≤ H.length → One8 s H (cts8 s (num (H.take 14))) 14
  | siz {s : S8} {H : List Bool} : s.nx = 1 → 3 ≤ H.length → One8 s H (siz8 s (num (H.take 3))) 3
  | sym {s : S8} {H : List Bool} {x : Nat} : s.nx = 2 → Beg s.sz H x → One8 s H (sym8 s x) (ln s.sz x)
  | bad {s : S8} {H : List Bool} : s.nx = 2 → (∀ x, ¬ Beg s.sz H x) → ¬ May s.sz H → One8 s H { s with nx := 5 } 0
  | mor {s : S8} {H : List Bool} : s.nx = 3 → mor8 s.sym ≤ H.length → One8 s H (lay8 s ((lst8 s.sym).toNat + num (H.take (mor8 s.sym)))) (mor8 s.sym)
/-- It waits for more bits, or it is at its end. -/
def Wait8 (s : S8) (H : List Bool) : Prop := (s.nx = 0 ∧ H.length < 14) ∨ (s.nx = 1 ∧ H.length < 3) ∨ (s.nx = 2 ∧ (∀ x, ¬ Beg s.sz H x) ∧ May s.sz H) ∨ (s.nx = 3 ∧ H.length < mor8 s.sym) ∨ 4 ≤ s.nx
inductive Run8 : S8 → List Bool → S8 → Nat → Prop
  | nil {s : S8} {H : List Bool} : Run8 s H s 0
  | cons {s s1 s2 : S8} {H : List Bool} {n m : Nat} : One8 s H s1 n → Run8 s1 (H.drop n) s2 m → Run8 s H s2 (n + m)
theorem One8.le {s s' : S8} {H : List Bool} {n : Nat} (h : One8 s H s' n) : n ≤ H.length := by
  cases h with
  | cts _ h => exact h
  | siz _ h => exact h
  | sym _ h => exact h.2.2.1
  | bad => omega
  | mor _ h => exact h
theorem Run8.le {s s' : S8} {H : List Bool} {n : Nat} (h : Run8 s H s' n) : n ≤ H.length := by
  induction h with
  | nil => omega
  | cons h _ ih => have := h.le; rw [List.length_drop] at ih; omega
theorem Run8.trans {s s1 s2 : S8} {H : List Bool} {n m : Nat} (h : Run8 s H s1 n) (h2 : Run8 s1 (H.drop n) s2 m) : Run8 s H s2 (n + m) := by
  induction h with
  | nil => simpa using h2
  | cons h _ ih => rw [Nat.add_assoc]; exact .cons h (ih (by rw [List.drop_drop]; exact h2))
theorem vB_app {H : List Bool} (X : List Bool) {n : Nat} (h : n ≤ H.length) : vB (H ++ X) n = vB H n := by
  unfold vB
  rw [List.take_append_of_le_length h]
theorem Beg.app {zs : List Int} {H : List Bool} {x : Nat} (h : Beg zs H x) (X : List Bool) : Beg zs (H ++ X) x :=
  ⟨h.1, h.2.1, by rw [List.length_append]; have := h.2.2.1; omega, by rw [vB_app X h.2.2.1]; exact h.2.2.2⟩
end Go.Proofs.YthcmebmohhajaaaDoor

namespace Go.Proofs.YthcmebmohhajaaaDoor
open Go.RowKit
set_option linter.unusedVariables false

theorem num_take_app {H : List Bool} (X : List Bool) {n : Nat} (h : n ≤ H.length) : (H ++ X).take n = H.take n := List.take_append_of_le_length h
theorem none_app8 {zs : List Int} {H : List Bool} (h1 : ∀ x, ¬ Beg zs H x) (h2 : ¬ May zs H) (X : List Bool) : (∀ x, ¬ Beg zs (H ++ X) x) ∧ ¬ May zs (H ++ X) := by
  refine ⟨fun x hb => ?_, ?_⟩
  · by_cases hl : ln zs x ≤ H.length
    · exact h1 x ⟨hb.1, hb.2.1, hl, by rw [← vB_app X hl]; exact hb.2.2.2⟩
    · refine h2 ⟨x, hb.1, hb.2.1, by omega, ?_⟩
      rw [← hb.2.2.2, vB_div (H ++ X) (a := H.length) (by omega) hb.2.2.1, vB_app X (Nat.le_refl _)]
  · rintro ⟨x, a, b, c, d⟩
    rw [List.length_append] at c d
    refine h2 ⟨x, a, b, by omega, ?_⟩
    have e : cd zs x / 2 ^ (ln zs x - H.length) = cd zs x / 2 ^ (ln zs x - (H.length + X.length)) / 2 ^ X.length := by
      rw [Nat.div_div_eq_div_mul, ← Nat.pow_add]
      congr 2
      omega
    rw [e, d, ← vB_app X (Nat.le_refl _), ← vB_div (H ++ X) (a := H.length) (b := H.length + X.length) (by omega) (by simp)]
    congr 2
    omega
theorem One8.app {s s' : S8} {H : List Bool} {n : Nat} (h : One8 s H s' n) (X : List Bool) : One8 s (H ++ X) s' n := by
  cases h with
  | cts h0 h => rw [← num_take_app X h]; exact .cts h0 (by rw [List.length_append]; omega)
  | siz h0 h => rw [← num_take_app X h]; exact .siz h0 (by rw [List.length_append]; omega)
  | sym h0 h => exact .sym h0 (h.app X)
  | bad h0 h1 h2 => exact .bad h0 (none_app8 h1 h2 X).1 (none_app8 h1 h2 X).2
  | mor h0 h => rw [← num_take_app X h]; exact .mor h0 (by rw [List.length_append]; omega)
theorem Run8.app {s s' : S8} {H : List Bool} {n : Nat} (h : Run8 s H s' n) (X : List Bool) : Run8 s (H ++ X) s' n := by
  induction h with
  | nil => exact .nil
  | cons h _ ih => exact .cons (h.app X) (by rw [List.drop_append_of_le_length h.le]; exact ih)
/-- What holds of a reader at every step. -/
structure Ok8 (s : S8) : Prop where
  szl : s.sz.length = 19
  szb : ∀ z ∈ s.sz, 0 ≤ z ∧ z ≤ 7
  ob : ∀ z ∈ s.out, 0 ≤ z ∧ z ≤ 15
  ld : s.lit ≤ 288 ∧ s.dist ≤ 32
  ol : s.out.length ≤ 316
  td : s.sized ≤ 19 ∧ s.told ≤ 19
  at0 : s.nx = 0 → s.sized = 0 ∧ s.out = []
  at1 : s.nx = 1 → s.sized < s.told ∧ 257 ≤ s.lit ∧ s.lit ≤ 286 ∧ s.dist ≤ 30 ∧ s.out = []
  at2 : s.nx = 2 ∨ s.nx = 3 → errC s.sz = 0 ∧ 257 ≤ s.lit ∧ s.lit ≤ 286 ∧ s.dist ≤ 30 ∧ s.out.length < s.lit + s.dist
  at3 : s.nx = 3 → 16 ≤ s.sym ∧ s.sym ≤ 18 ∧ (s.sym = 16 → s.out ≠ [])
  at4 : s.nx = 4 → s.out.length = s.lit + s.dist ∧ tld8 errC (s.out.take s.lit) (s.out.drop s.lit)
  top : s.nx ≤ 5
theorem ini8_ok : Ok8 ini8 := ⟨by simp [ini8], by simp [ini8], by simp [ini8], by simp [ini8], by simp [ini8], by simp [ini8], fun _ => ⟨rfl, rfl⟩, by simp [ini8], by simp [ini8], by simp [ini8], by simp [ini8], by simp [ini8]⟩
theorem One8.det {s a b : S8} {H : List Bool} {n m : Nat} (ok : Ok8 s) (h1 : One8 s H a n) (h2 : One8 s H b m) : a = b ∧ n = m := by
  cases h1 with
  | cts h0 h => cases h2 <;> first | exact ⟨rfl, rfl⟩ | (exfalso; omega)
  | siz h0 h => cases h2 <;> first | exact ⟨rfl, rfl⟩ | (exfalso; omega)
  | mor h0 h => cases h2 <;> first | exact ⟨rfl, rfl⟩ | (exfalso; omega)
  | sym h0 h =>
    cases h2 with
    | sym _ k =>
      have := beg_one (errS_zero (errC_zero (ok.at2 (.inl h0)).1).1).2 h k
      subst this
      exact ⟨rfl, rfl⟩
    | bad _ k _ => exact absurd h (k _)
    | cts k => exfalso; omega
    | siz k => exfalso; omega
    | mor k => exfalso; omega
  | bad h0 h k =>
    cases h2 with
    | sym _ k => exact absurd k (h _)
    | bad => exact ⟨rfl, rfl⟩
    | cts k => exfalso; omega
    | siz k => exfalso; omega
    | mor k => exfalso; omega
theorem One8.wait {s s' : S8} {H : List Bool} {n : Nat} (h : One8 s H s' n) : ¬ Wait8 s H := by
  unfold Wait8
  cases h with
  | cts h0 h => omega
  | siz h0 h => omega
  | mor h0 h => omega
  | sym h0 h =>
    rintro (e | e | e | e | e)
    · omega
    · omega
    · exact e.2.1 _ h
    · omega
    · omega
  | bad h0 h k =>
    rintro (e | e | e | e | e)
    · omega
    · omega
    · exact k e.2.2
    · omega
    · omega
end Go.Proofs.YthcmebmohhajaaaDoor
