
import Derived.Test.YtkjccbihdinlkaaBtTwo
import Derived.Deep.RegionLaw
namespace Go.Proofs.Ytkjccbihdinlkaa
open Go.RowKit
set_option linter.unusedVariables false

theorem Fresh.refl (w : World) (v : Value) : Fresh w v v := fun k e => .inl e
theorem info_b1 : (Try.prog.info? 4).map (fun i => (i.zero, i.size, i.bytes)) = some (some (.bool false), 1, 1) := by kernel_rfl

/-- A block whose first cell is a list of bits in a row of its own. -/
structure RB (w : World) (b B : Nat) (T : TypeId) (xs : List Value) (a : Option Addr) (cap : Nat) (L : List Bool) : Prop where
  hp : w.heap[b]? = some (.cells (.slice a L.length cap :: xs).toArray T (0, 0))
  own : w.ownsRow B 4 1 (.slice a L.length cap) L.length (L.map Value.bool)
  ne : (Value.slice a L.length cap).ownBlock ≠ some b
  bB : B ≤ w.heap.size
variable {w w' wr w2 : World} {b B : Nat} {T : TypeId} {xs : List Value} {a : Option Addr} {cap : Nat} {L : List Bool}
theorem RB.b_lt (h : RB w b B T xs a cap L) : b < w.heap.size := (Array.getElem?_eq_some_iff.1 h.hp).1
theorem RB.kp {S : Nat → Prop} (h : RB w b B T xs a cap L) (hk : Kp S w w') (h1 : ¬ S b) (h2 : ∀ k, (Value.slice a L.length cap).ownBlock = some k → ¬ S k) : RB w' b B T xs a cap L :=
  ⟨hk.heap h.hp h1, own_kp h.own hk h2, h.ne, Nat.le_trans h.bB hk.size⟩
theorem RB.cell0 (h : RB w b B T xs a cap L) : w.cell? ⟨b, 0, none⟩ = some (.slice a L.length cap) := by simp [World.cell?, h.hp]
theorem RB.free (h : RB w b B T xs a cap L) (i : Nat) : w.frozen? ⟨b, i, none⟩ = false := by simp [World.frozen?, h.hp]
theorem RB.seg (h : RB w b B T xs a cap L) : SegB w a L := own_segB h.own
theorem RB.own_lt (h : RB w b B T xs a cap L) : ∀ k, (Value.slice a L.length cap).ownBlock = some k → B ≤ k ∧ k < w.heap.size ∧ k ≠ b :=
  fun k e => ⟨(h.own.lt k e).1, (h.own.lt k e).2, fun e2 => h.ne (e2 ▸ e)⟩

/-- A new row is laid into the first cell. -/
theorem RB.store (h : RB wr b B T xs a cap L) {a' : Option Addr} {cap' : Nat} {L' : List Bool} (hk : Kp (fun k => (Value.slice a L.length cap).ownBlock = some k) wr w2)
    (hown : w2.ownsRow B 4 1 (.slice a' L'.length cap') L'.length (L'.map Value.bool)) (hf : Fresh wr (.slice a L.length cap) (.slice a' L'.length cap')) :
    RB (w2.setCell ⟨b, 0, none⟩ (.slice a' L'.length cap')) b B T xs a' cap' L' ∧ Kp (WS b (.slice a L.length cap)) wr (w2.setCell ⟨b, 0, none⟩ (.slice a' L'.length cap')) ∧ Fresh wr (.slice a L.length cap) (.slice a' L'.length cap') := by
  have hp2 : w2.heap[b]? = some (.cells (.slice a L.length cap :: xs).toArray T (0, 0)) := hk.heap h.hp h.ne
  have hne : (Value.slice a' L'.length cap').ownBlock ≠ some b := by
    intro e
    rcases hf b e with e | e
    · exact h.ne e
    · have := h.b_lt; omega
  have hkb : Kp (fun j => j = b) w2 (w2.setCell ⟨b, 0, none⟩ (.slice a' L'.length cap')) := Kp.set (S := fun j => j = b) rfl _
  refine ⟨⟨?_, own_kp hown hkb (fun j e1 e2 => hne (e2 ▸ e1)), hne, Nat.le_trans h.bB (Nat.le_trans hk.size hkb.size)⟩, ?_, hf⟩
  · simp [World.setCell, Array.getElem?_modify, hp2]
  · exact (hk.mono (S' := WS b (.slice a L.length cap)) (fun i _ e => .inr e)).trans hkb (fun i _ e => .inl e)
theorem RB.pushed (h : RB wr b B T xs a cap L) {o : Obj} {gg cap2 : Nat} {y : Bool}
    (hown : w2.ownsRow B 4 1 (.slice (some ⟨gg, 0, none⟩) (L.length + 1) cap2) (L.length + 1) (L.map Value.bool ++ [.bool y]))
    (hgrow : ((wr.alloc o).drew).grownBy w2 (Value.slice a L.length cap).ownBlock) (hat : (Value.slice a L.length cap).ownBlock = some gg ∨ gg = wr.heap.size + 1) :
    RB (w2.setCell ⟨b, 0, none⟩ (.slice (some ⟨gg, 0, none⟩) (L.length + 1) cap2)) b B T xs (some ⟨gg, 0, none⟩) cap2 (L ++ [y]) ∧ Kp (WS b (.slice a L.length cap)) wr (w2.setCell ⟨b, 0, none⟩ (.slice (some ⟨gg, 0, none⟩) (L.length + 1) cap2)) ∧
      Fresh wr (.slice a L.length cap) (.slice (some ⟨gg, 0, none⟩) (L ++ [y]).length cap2) := by
  have hlen : (L ++ [y]).length = L.length + 1 := by simp
  have hk : Kp (fun k => (Value.slice a L.length cap).ownBlock = some k) wr w2 := ((Kp.alloc wr o).drew).trans (Kp.grown (S := fun k => (Value.slice a L.length cap).ownBlock = some k) hgrow (fun i e => e)) (fun _ _ e => e)
  have := h.store (L' := L ++ [y]) (a' := some ⟨gg, 0, none⟩) (cap' := cap2) hk (by rw [hlen]; simpa using hown) (by
    intro k e
    cases e
    rcases hat with e | e
    · exact .inl e
    · right; show wr.heap.size ≤ gg; omega)
  rw [hlen] at this
  simpa using this
theorem RB.pushed1 (h : RB wr b B T xs a cap L) {g2 c2 : Nat} {y : Bool}
    (hown : w2.ownsRow B 4 1 (.slice (some ⟨g2, 0, none⟩) (L.length + 1) c2) (L.length + 1) (L.map Value.bool ++ [.bool y]))
    (hgrow : wr.grownBy w2 (Value.slice a L.length cap).ownBlock) (hf : Fresh wr (.slice a L.length cap) (.slice (some ⟨g2, 0, none⟩) (L.length + 1) c2)) :
    RB (w2.setCell ⟨b, 0, none⟩ (.slice (some ⟨g2, 0, none⟩) (L.length + 1) c2)) b B T xs (some ⟨g2, 0, none⟩) c2 (L ++ [y]) ∧ Kp (WS b (.slice a L.length cap)) wr (w2.setCell ⟨b, 0, none⟩ (.slice (some ⟨g2, 0, none⟩) (L.length + 1) c2)) ∧
      Fresh wr (.slice a L.length cap) (.slice (some ⟨g2, 0, none⟩) (L ++ [y]).length c2) := by
  have hlen : (L ++ [y]).length = L.length + 1 := by simp
  have hk : Kp (fun k => (Value.slice a L.length cap).ownBlock = some k) wr w2 := Kp.grown hgrow (fun i e => e)
  have := h.store (L' := L ++ [y]) (a' := some ⟨g2, 0, none⟩) (cap' := c2) hk (by rw [hlen]; simpa using hown) (by rw [hlen]; exact hf)
  rw [hlen] at this
  simpa using this

/-- The document's Writer with these bits; v: its row. -/
def RwL (w : World) (b B : Nat) (v : Value) (L : List Bool) : Prop := ∃ a cap, v = .slice a L.length cap ∧ RB w b B 50 [] a cap L
theorem RwL.kp {v : Value} {S : Nat → Prop} (h : RwL w b B v L) (hk : Kp S w w') (h1 : ¬ S b) (h2 : ∀ k, v.ownBlock = some k → ¬ S k) : RwL w' b B v L := by
  obtain ⟨a, cap, rfl, h⟩ := h
  exact ⟨a, cap, rfl, h.kp hk h1 h2⟩
theorem RwL.b_lt {v : Value} (h : RwL w b B v L) : b < w.heap.size := by
  obtain ⟨a, cap, rfl, h⟩ := h
  exact h.b_lt
theorem RwL.own_lt {v : Value} (h : RwL w b B v L) : ∀ k, v.ownBlock = some k → B ≤ k ∧ k < w.heap.size ∧ k ≠ b := by
  obtain ⟨a, cap, rfl, h⟩ := h
  exact h.own_lt
theorem RwL.new (h : w.heap[b]? = some (.cells #[.slice none 0 0] 50 (0, 0))) (hB : B ≤ w.heap.size) : RwL w b B (.slice none 0 0) [] :=
  ⟨none, 0, rfl, ⟨h, World.ownsRow_nil _ _ _ _, by simp [Value.ownBlock], hB⟩⟩

end Go.Proofs.Ytkjccbihdinlkaa
