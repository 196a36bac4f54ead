import Derived.Test.YtboangeopbblnaaPr
import Derived.Deep.RegionLaw
import Derived.Deep.OwnRows
import Derived.Test.YtboangeopbblnaaPp
import Derived.Test.YtboangeopbblnaaPn
import Derived.Test.YtboangeopbblnaaPq
import Derived.Deep.RegionHeld3
import Derived.Test.YtboangeopbblnaaPk
namespace Go.Proofs.Ytboangeopbblnaa
open Go.RowKit
set_option linter.unusedVariables false
theorem Fresh.refl (w : World) (v : Value) : Fresh w v v := fun k e => .inl e
/-- A block whose first cell is a list of bits in a row of its own. -/
structure RB (w : World) (b B : Nat) (T : TypeId) (xs : List Value) (a : Option Addr) (cap : Nat) (L : List Bool) : Prop where
  hp : w.heap[b]? = some (.cells (.slice a L.length cap :: xs).toArray T (0, 0))
  own : w.ownsRow B 4 1 (.slice a L.length cap) L.length (L.map Value.bool)
  ne : (Value.slice a L.length cap).ownBlock ≠ some b
  bB : B ≤ w.heap.size
variable {w w' wr w2 : World} {b B : Nat} {T : TypeId} {xs : List Value} {a : Option Addr} {cap : Nat} {L : List Bool}
theorem RB.b_lt (h : RB w b B T xs a cap L) : b < w.heap.size := (Array.getElem?_eq_some_iff.1 h.hp).1
theorem RB.kp {S : Nat → Prop} (h : RB w b B T xs a cap L) (hk : Kp S w w') (h1 : ¬ S b) (h2 : ∀ k, (Value.slice a L.length cap).ownBlock = some k → ¬ S k) : RB w' b B T xs a cap L :=
  ⟨hk.heap h.hp h1, own_kp h.own hk h2, h.ne, Nat.le_trans h.bB hk.size⟩
theorem RB.free (h : RB w b B T xs a cap L) (i : Nat) : w.frozen? ⟨b, i, none⟩ = false := by simp [World.frozen?, h.hp]
theorem RB.seg (h : RB w b B T xs a cap L) : SegB w a L := own_segB h.own
theorem RB.own_lt (h : RB w b B T xs a cap L) : ∀ k, (Value.slice a L.length cap).ownBlock = some k → B ≤ k ∧ k < w.heap.size ∧ k ≠ b :=
  fun k e => ⟨(h.own.lt k e).1, (h.own.lt k e).2, fun e2 => h.ne (e2 ▸ e)⟩

/-- A new row is laid into the first cell. -/
theorem RB.store (h : RB wr b B T xs a cap L) {a' : Option Addr} {cap' : Nat} {L' : List Bool} (hk : Kp (fun k => (Value.slice a L.length cap).ownBlock = some k) wr w2)
    (hown : w2.ownsRow B 4 1 (.slice a' L'.length cap') L'.length (L'.map Value.bool)) (hf : Fresh wr (.slice a L.length cap) (.slice a' L'.length cap')) :
    RB (w2.setCell ⟨b, 0, none⟩ (.slice a' L'.length cap')) b B T xs a' cap' L' ∧ Kp (WS b (.slice a L.length cap)) wr (w2.setCell ⟨b, 0, none⟩ (.slice a' L'.length cap')) ∧ Fresh wr (.slice a L.length cap) (.slice a' L'.length cap') := by
  have hp2 : w2.heap[b]? = some (.cells (.slice a L.length cap :: xs).toArray T (0, 0)) := hk.heap h.hp h.ne
  have hne : (Value.slice a' L'.length cap').ownBlock ≠ some b := by
    intro e
    rcases hf b e with e | e
    · exact h.ne e
    · have := h.b_lt; omega
  have hkb : Kp (fun j => j = b) w2 (w2.setCell ⟨b, 0, none⟩ (.slice a' L'.length cap')) := Kp.set (S := fun j => j = b) rfl _
  refine ⟨⟨?_, own_kp hown hkb (fun j e1 e2 => hne (e2 ▸ e1)), hne, Nat.le_trans h.bB (Nat.le_trans hk.size hkb.size)⟩, ?_, hf⟩
  · simp [World.setCell, Array.getElem?_modify, hp2]
  · exact (hk.mono (S' := WS b (.slice a L.length cap)) (fun i _ e => .inr e)).trans hkb (fun i _ e => .inl e)
/-- The document's Writer with these bits; v: its row. -/
def RwL (w : World) (b B : Nat) (v : Value) (L : List Bool) : Prop := ∃ a cap, v = .slice a L.length cap ∧ RB w b B 179 [] a cap L
theorem RwL.kp {v : Value} {S : Nat → Prop} (h : RwL w b B v L) (hk : Kp S w w') (h1 : ¬ S b) (h2 : ∀ k, v.ownBlock = some k → ¬ S k) : RwL w' b B v L := by
  obtain ⟨a, cap, rfl, h⟩ := h
  exact ⟨a, cap, rfl, h.kp hk h1 h2⟩
theorem RwL.b_lt {v : Value} (h : RwL w b B v L) : b < w.heap.size := by
  obtain ⟨a, cap, rfl, h⟩ := h
  exact h.b_lt
theorem RwL.own_lt {v : Value} (h : RwL w b B v L) : ∀ k, v.ownBlock = some k → B ≤ k ∧ k < w.heap.size ∧ k ≠ b := by
  obtain ⟨a, cap, rfl, h⟩ := h
  exact h.own_lt
end Go.Proofs.Ytboangeopbblnaa

namespace Go.Proofs.Ytboangeopbblnaa
open Go.RowKit
set_option linter.unusedVariables false
theorem RwL.far {w : World} {b B N : Nat} {v : Value} {L : List Bool} (h : RwL w b B v L) (h1 : N ≤ b) (h2 : N ≤ B) {g : Nat} (hg : g < N) : ¬ WS b v g := by
  rintro (e | e)
  · omega
  · have := (h.own_lt g e).1; omega
theorem RwL.below {w w' : World} {b B N : Nat} {v : Value} {L : List Bool} (h : RwL w b B v L) (hk : Kp (WS b v) w w') (h1 : N ≤ b) (h2 : N ≤ B) : Below N w w' :=
  hk.below (fun i e => by
    rcases e with e | e
    · omega
    · have := (h.own_lt i e).1; omega) (by have := h.b_lt; omega)

end Go.Proofs.Ytboangeopbblnaa

namespace Go.Proofs.Ytboangeopbblnaa
open Go.RowKit
set_option linter.unusedVariables false
structure S8 where
  nx : Nat
  lit : Nat
  dist : Nat
  told : Nat
  sized : Nat
  sym : Nat
  sz : List Int
  out : List Int
def ini8 : S8 := ⟨0, 0, 0, 0, 0, 0, List.replicate 19 0, []⟩
/-- The counts are there. -/
def cts8 (s : S8) (v : Nat) : S8 := { s with lit := 257 + v % 32, dist := 1 + v / 32 % 32, told := 4 + v / 1024, nx := if 286 < 257 + v % 32 ∨ 30 < 1 + v / 32 % 32 then 5 else 1 }
/-- A size more. -/
def ssz8 (s : S8) (v : Nat) : List Int := s.sz.set (ordL.getD s.sized 0).toNat (v : Int)
def siz8 (s : S8) (v : Nat) : S8 := { s with sz := ssz8 s v, sized := s.sized + 1, nx := if s.sized + 1 = s.told then (if (∀ z ∈ ssz8 s v, z = 0) ∨ errC (ssz8 s v) ≠ 0 then 5 else 2) else s.nx }
/-- What a symbol stands for. -/
def vls8 (s : S8) : Int := if s.sym = 16 then s.out.getLastD 0 else if 16 < s.sym then 0 else (s.sym : Int)
def lay8 (s : S8) (k : Nat) : S8 :=
  if s.lit + s.dist < s.out.length + k then { s with nx := 5 } else
  { s with out := s.out ++ List.replicate k (vls8 s), nx := if s.out.length + k = s.lit + s.dist then (if tld8 errC ((s.out ++ List.replicate k (vls8 s)).take s.lit) ((s.out ++ List.replicate k (vls8 s)).drop s.lit) then 4 else 5) else 2 }
def sym8 (s : S8) (x : Nat) : S8 :=
  if x = 16 ∧ s.out = [] then { s with sym := x, nx := 5 } else if 16 ≤ x then { s with sym := x, nx := 3 } else lay8 { s with sym := x } 1
/-- One part, of the bits that are held; so many bits go. -/
inductive One8 : S8 → List Bool → S8 → Nat → Prop
  | cts {s : S8} {H : List Bool} : s.nx = 0 → 14 ≤ H.length → One8 s H (cts8 s (num (H.take 14))) 14
  | siz {s : S8} {H : List Bool} : s.nx = 1 → 3 ≤ H.length → One8 s H (siz8 s (num (H.take 3))) 3
  | sym {s : S8} {H : List Bool} {x : Nat} : s.nx = 2 → Beg s.sz H x → One8 s H (sym8 s x) (ln s.sz x)
  | bad {s : S8} {H : List Bool} : s.nx = 2 → (∀ x, ¬ Beg s.sz H x) → ¬ May s.sz H → One8 s H { s with nx := 5 } 0
  | mor {s : S8} {H : List Bool} : s.nx = 3 → mor8 s.sym ≤ H.length → One8 s H (lay8 s ((lst8 s.sym).toNat + num (H.take (mor8 s.sym)))) (mor8 s.sym)
inductive Run8 : S8 → List Bool → S8 → Nat → Prop
  | nil {s : S8} {H : List Bool} : Run8 s H s 0
  | cons {s s1 s2 : S8} {H : List Bool} {n m : Nat} : One8 s H s1 n → Run8 s1 (H.drop n) s2 m → Run8 s H s2 (n + m)
theorem One8.le {s s' : S8} {H : List Bool} {n : Nat} (h : One8 s H s' n) : n ≤ H.length := by
  cases h with
  | cts _ h => exact h
  | siz _ h => exact h
  | sym _ h => exact h.2.2.1
  | bad => omega
  | mor _ h => exact h
theorem Run8.le {s s' : S8} {H : List Bool} {n : Nat} (h : Run8 s H s' n) : n ≤ H.length := by
  induction h with
  | nil => omega
  | cons h _ ih => have := h.le; rw [List.length_drop] at ih; omega
theorem Run8.trans {s s1 s2 : S8} {H : List Bool} {n m : Nat} (h : Run8 s H s1 n) (h2 : Run8 s1 (H.drop n) s2 m) : Run8 s H s2 (n + m) := by
  induction h with
  | nil => simpa using h2
  | cons h _ ih => rw [Nat.add_assoc]; exact .cons h (ih (by rw [List.drop_drop]; exact h2))
end Go.Proofs.Ytboangeopbblnaa

namespace Go.Proofs.Ytboangeopbblnaa
open Go.RowKit
set_option linter.unusedVariables false
/-- What holds of a reader at every step. -/
structure Ok8 (s : S8) : Prop where
  szl : s.sz.length = 19
  szb : ∀ z ∈ s.sz, 0 ≤ z ∧ z ≤ 7
  ob : ∀ z ∈ s.out, 0 ≤ z ∧ z ≤ 15
  ld : s.lit ≤ 288 ∧ s.dist ≤ 32
  ol : s.out.length ≤ 316
  td : s.sized ≤ 19 ∧ s.told ≤ 19
  at0 : s.nx = 0 → s.sized = 0 ∧ s.out = []
  at1 : s.nx = 1 → s.sized < s.told ∧ 257 ≤ s.lit ∧ s.lit ≤ 286 ∧ s.dist ≤ 30 ∧ s.out = []
  at2 : s.nx = 2 ∨ s.nx = 3 → errC s.sz = 0 ∧ 257 ≤ s.lit ∧ s.lit ≤ 286 ∧ s.dist ≤ 30 ∧ s.out.length < s.lit + s.dist
  at3 : s.nx = 3 → 16 ≤ s.sym ∧ s.sym ≤ 18 ∧ (s.sym = 16 → s.out ≠ [])
  at4 : s.nx = 4 → s.out.length = s.lit + s.dist ∧ tld8 errC (s.out.take s.lit) (s.out.drop s.lit)
  top : s.nx ≤ 5
end Go.Proofs.Ytboangeopbblnaa
