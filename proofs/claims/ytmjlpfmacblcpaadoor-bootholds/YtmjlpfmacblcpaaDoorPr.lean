import Derived.Test.YtmjlpfmacblcpaaDoorPq
import Derived.Test.YtmjlpfmacblcpaaDoorPd
import Derived.Test.YtmjlpfmacblcpaaDoorProg
import Derived.WalkKit
import Derived.Lib.BitFns
import Derived.Laws.BitsAllLaws
import Derived.Test.YtmjlpfmacblcpaaDoorPa
import Derived.WalkSpells
import Derived.WalkLawsBesides
import Derived.Test.YtmjlpfmacblcpaaDoorPc
import Derived.Test.YtmjlpfmacblcpaaDoorPl
import Derived.ArgAppend
import Derived.Lib.SmallJoins
import Derived.Lib.SlBytesConst
import Derived.Laws.BitsLemmas
import Derived.Test.YtmjlpfmacblcpaaDoorPp
import Derived.StillTailTactics
import Derived.Laws.StructEq
import Derived.Test.YtmjlpfmacblcpaaDoorPb
import Derived.Test.YtmjlpfmacblcpaaDoorPh
namespace Go.Proofs.YtmjlpfmacblcpaaDoor
open Go.RowKit Go.Shelf
set_option linter.unusedVariables false
set_option linter.unusedSimpArgs false
/-- Bytes one by one. -/
def tk22 : Fs21 → Pw22 → List Int → Fs21 × Pw22 × Int
  | S, P, [] => (S, P, 0)
  | S, P, c :: L =>
    if (P.bf ++ [c]).length = S.pg then
      if lyE22 S { P with bf := P.bf ++ [c] } ≠ 0 then (lyS22 S { P with bf := P.bf ++ [c] }, lyP22 S { P with bf := P.bf ++ [c] }, lyE22 S { P with bf := P.bf ++ [c] })
      else tk22 (lyS22 S { P with bf := P.bf ++ [c] }) (lyP22 S { P with bf := P.bf ++ [c] }) L
    else tk22 S { P with bf := P.bf ++ [c] } L
theorem tk22_some (S : Fs21) : ∀ (cs : List Int) (P : Pw22) (L : List Int), P.bf.length + cs.length < S.pg → tk22 S P (cs ++ L) = tk22 S { P with bf := P.bf ++ cs } L
  | [], P, L, _ => by simp
  | c :: cs, P, L, h => by
    have h1 : ¬ (P.bf ++ [c]).length = S.pg := by simp at h ⊢; omega
    rw [List.cons_append, tk22, if_neg h1, tk22_some S cs { P with bf := P.bf ++ [c] } L (by simp at h ⊢; omega)]
    simp
theorem tk22_full (S : Fs21) : ∀ (cs : List Int) (P : Pw22) (L : List Int), P.bf.length + cs.length = S.pg → 0 < cs.length →
    tk22 S P (cs ++ L) = if lyE22 S { P with bf := P.bf ++ cs } ≠ 0 then (lyS22 S { P with bf := P.bf ++ cs }, lyP22 S { P with bf := P.bf ++ cs }, lyE22 S { P with bf := P.bf ++ cs }) else tk22 (lyS22 S { P with bf := P.bf ++ cs }) (lyP22 S { P with bf := P.bf ++ cs }) L
  | [], P, L, _, h => by simp at h
  | [c], P, L, h, _ => by
    have h1 : (P.bf ++ [c]).length = S.pg := by simp at h ⊢; omega
    rw [List.cons_append, tk22, if_pos h1]
    rfl
  | c :: d :: cs, P, L, h, _ => by
    have h1 : ¬ (P.bf ++ [c]).length = S.pg := by simp at h ⊢; omega
    rw [List.cons_append, tk22, if_neg h1, tk22_full S (d :: cs) { P with bf := P.bf ++ [c] } L (by simp at h ⊢; omega) (by simp)]
    simp
def tkE22 (S : Fs21) (P : Pw22) (L : List Int) : Int := (tk22 S P L).2.2
def tkS22 (S : Fs21) (P : Pw22) (L : List Int) : Fs21 := (tk22 S P L).1
def tkP22 (S : Fs21) (P : Pw22) (L : List Int) : Pw22 := if (tk22 S P L).2.2 = 0 then { (tk22 S P L).2.1 with wn := (tk22 S P L).2.1.wn + L.length } else (tk22 S P L).2.1
section
variable {w w' : World} {v s g b pg : Nat} {F : Nat → Prop} {S : Fs21} {P P' : Pw22}
theorem Wr22.copy (h : Wr22 w v s g b pg P) {Y cs : List Int} (hY : w.heap[g]? = some (.cells ((P.bf ++ Y).map (Value.int .u8)).toArray 5 (0, 0))) (hl : P.bf.length + Y.length = pg) (hb : ∀ y ∈ P.bf ++ Y, 0 ≤ y ∧ y ≤ 255) (hc : ∀ y ∈ cs, 0 ≤ y ∧ y ≤ 255) (hn : P.bf.length + cs.length ≤ pg)
    (k5 : Kp (fun k => k = g) w w') (h5 : w'.heap[g]? = some (.cells ((sp21 (P.bf ++ Y) P.bf.length cs).map (Value.int .u8)).toArray 5 (0, 0))) (m : Nat) (hm : P.bf.length + cs.length = m) :
    Wr22 (w'.setCell ⟨s, 3, none⟩ (.int .i64 (m : Int))) v s g b pg { P with bf := P.bf ++ cs } := by
  have h1 := h.lt
  have e1 : w'.heap[v]? = w.heap[v]? := k5.block v h1.1 h.ne_vg
  have e2 : w'.heap[s]? = w.heap[s]? := k5.block s h1.2.1 h.ne_sg
  refine ⟨(set_other22 w' _ h.ne_vs).trans (e1.trans h.hv), ?_, Y.drop cs.length, ?_, ?_, ?_⟩
  · have := (seven_set22 (e2.trans h.hs) (.int .i64 (m : Int))).1
    rw [this]
    simp [← hm]
  · rw [set_other22 w' _ h.ne_sg.symm, h5, sp21_at P.bf Y cs _ rfl]
  · simp; omega
  · intro y hy
    simp at hy
    rcases hy with hy | hy | hy
    · exact hb y (by simp [hy])
    · exact hc y hy
    · exact hb y (List.mem_append_right _ (List.mem_of_mem_drop hy))
end
/-- What holds of take's loop behind k bytes. -/
structure Ti22 (w wr : World) (v s g b : Nat) (F : Nat → Prop) (S : Fs21) (P : Pw22) (L : List Int) (k : Nat) (F' : Nat → Prop) (S' : Fs21) (P' : Pw22) : Prop where
  pe : Pe22 wr v s g b F' S' P'
  fr : ∀ x, F' x → F x ∨ w.heap.size ≤ x
  kp : Kp (fun x => F x ∨ x = s ∨ x = g) w wr
  ok : Ok21 S'
  pg : S'.pg = S.pg
  tk : tk22 S P L = tk22 S' P' (L.drop k)
  lt : P'.bf.length < S'.pg
  ar : P'.ar = P.ar
  wn : P'.wn = P.wn
  pn : P'.pn ≤ P.pn + k
  lg : S'.lg.length ≤ S.lg.length + 2 * k
section
variable {w wr w2 : World} {v s g b : Nat} {F F' F2 : Nat → Prop} {S S' : Fs21} {P P' : Pw22} {L : List Int} {k : Nat}
theorem Ti22.some (h : Ti22 w wr v s g b F S P L k F' S' P') {nn : Nat} (hk : k + nn = L.length) (hn : P'.bf.length + nn < S'.pg) (hp : Pn22 wr w2 v s g b F' S' { P' with bf := P'.bf ++ (L.drop k).take nn }) :
    ∃ F2, Ti22 w w2 v s g b F S P L (k + nn) F2 S' { P' with bf := P'.bf ++ (L.drop k).take nn } := by
  obtain ⟨F2, h1, h2, h3⟩ := Pn22.cons h.fr h.kp hp
  have hl : ((L.drop k).take nn).length = nn := by simp; omega
  refine ⟨F2, h1, h2, h3, h.ok, h.pg, ?_, ?_, h.ar, h.wn, Nat.le_trans h.pn (by omega), Nat.le_trans h.lg (by omega)⟩
  · rw [h.tk, ← List.drop_drop]
    have := tk22_some S' ((L.drop k).take nn) P' ((L.drop k).drop nn) (by omega)
    rw [List.take_append_drop] at this
    exact this
  · simp only [List.length_append]; omega
theorem Ti22.no (h : Ti22 w wr v s g b F S P L k F' S' P') {nn : Nat} (hk : k + nn ≤ L.length) (h0 : 0 < nn) (hn : P'.bf.length + nn = S'.pg) (hE : lyE22 S' { P' with bf := P'.bf ++ (L.drop k).take nn } ≠ 0)
    (hp : Pn22 wr w2 v s g b F' (lyS22 S' { P' with bf := P'.bf ++ (L.drop k).take nn }) (lyP22 S' { P' with bf := P'.bf ++ (L.drop k).take nn })) :
    tkE22 S P L = lyE22 S' { P' with bf := P'.bf ++ (L.drop k).take nn } ∧ Pn22 w w2 v s g b F (tkS22 S P L) (tkP22 S P L) := by
  have hl : ((L.drop k).take nn).length = nn := by simp; omega
  have := tk22_full S' ((L.drop k).take nn) P' ((L.drop k).drop nn) (by omega) (by omega)
  rw [List.take_append_drop, if_pos hE, ← h.tk] at this
  unfold tkE22 tkS22 tkP22
  rw [this]
  refine ⟨rfl, ?_⟩
  rw [if_neg hE]
  exact Pn22.cons h.fr h.kp hp
theorem Ti22.fin (h : Ti22 w wr v s g b F S P L L.length F' S' P') (hp : Pn22 wr w2 v s g b F' S' { P' with wn := P.wn + L.length }) :
    tkE22 S P L = 0 ∧ Pn22 w w2 v s g b F (tkS22 S P L) (tkP22 S P L) := by
  have := h.tk
  rw [List.drop_eq_nil_of_le (Nat.le_refl _)] at this
  unfold tkE22 tkS22 tkP22
  rw [this, tk22]
  refine ⟨rfl, ?_⟩
  rw [if_pos rfl]
  have e := Pn22.cons h.fr h.kp hp
  rw [← h.wn] at e
  exact e
end
end Go.Proofs.YtmjlpfmacblcpaaDoor

namespace Go.Proofs.YtmjlpfmacblcpaaDoor
open Go.RowKit Go.Shelf
set_option linter.unusedVariables false
set_option linter.unusedSimpArgs false
theorem Pn22.more {w w1 w2 : World} {v s g b : Nat} {F : Nat → Prop} {S : Fs21} {P : Pw22} (h : Pn22 w w1 v s g b F S P) (hb : Below w1.heap.size w1 w2) : Pn22 w w2 v s g b F S P := by
  obtain ⟨F1, q, f, k⟩ := h
  exact Pn22.cons f k (q.stay hb)
end Go.Proofs.YtmjlpfmacblcpaaDoor

namespace Go.Proofs.YtmjlpfmacblcpaaDoor
open Go.RowKit Go.Shelf
set_option linter.unusedVariables false
set_option linter.unusedSimpArgs false
def fu22 (S : Fs21) (P : Pw22) (n : Nat) : Prop := (mx22 S : Int) - (P.wn : Int) < (n : Int)
instance (S : Fs21) (P : Pw22) (n : Nat) : Decidable (fu22 S P n) := inferInstanceAs (Decidable ((mx22 S : Int) - (P.wn : Int) < (n : Int)))
section
variable {w w' : World} {v s g b : Nat} {F : Nat → Prop} {S : Fs21} {P : Pw22}
end
end Go.Proofs.YtmjlpfmacblcpaaDoor

namespace Go.Proofs.YtmjlpfmacblcpaaDoor
open Go.RowKit Go.Shelf
set_option linter.unusedVariables false
set_option linter.unusedSimpArgs false
section
variable {w w' : World} {u b : Nat} {G H : Nat → Prop} {ha : Option Addr} {hc : Nat} {S S' : Fs21} {P P' : Pw22}
theorem Rw22.setO (h : Rw22 w u b ha hc P) (h0 : P.cl = 0) : Rw22 (w.setCell ⟨u, 6, none⟩ (.bool true)) u b ha hc { P with cl := 221 } := by
  refine ⟨?_, own_tr22 h.ow (fun r hr => set_other22 w _ (h.ne r hr)), h.ne, h.bd⟩
  have q := (seven_set22 h.hu (.bool true)).2.2.2
  have e1 : (if P.cl = 221 then 0 else P.cl) = 0 := by rw [h0]; rfl
  rw [e1] at q
  exact q
theorem Rh22.over (h : Rh22 w u b G H ha hc S P) (h0 : P.cl = 0) : Ren22 w (w.setCell ⟨u, 6, none⟩ (.bool true)) u b H S { P with cl := 221 } := by
  have hk : Kp H w (w.setCell ⟨u, 6, none⟩ (.bool true)) := Kp.set h.uH _
  refine ⟨H, ⟨G, ha, hc, ⟨h.fl.kp (fun k e => set_other22 w _ (fun q => h.nu (q ▸ e))) hk.size, h.wr.setO h0, h.nu, h.nh, h.gH, h.uH, h.hH, fun k e => Nat.lt_of_lt_of_le (h.lt k e) hk.size⟩⟩, fun _ e => .inl e, hk⟩
theorem Rh22.same (h : Rh22 w u b G H ha hc S P) : Ren22 w w u b H S P := ⟨H, ⟨G, ha, hc, h⟩, fun _ e => .inl e, Kp.refl _ _⟩
end
end Go.Proofs.YtmjlpfmacblcpaaDoor

namespace Go.Proofs.YtmjlpfmacblcpaaDoor
open Go.RowKit Go.Shelf
set_option linter.unusedVariables false
set_option linter.unusedSimpArgs false
def V21 (N : Nat) (W : World) (k : Nat) : Prop := N ≤ k ∧ ∃ cur : Array Value, W.heap[k]? = some (Obj.cells cur 5 (0, 0))
def KB21 (W W' : World) : Prop := ∀ (k : Nat) (cur : Array Value), W.heap[k]? = some (Obj.cells cur 5 (0, 0)) → W'.heap[k]? = W.heap[k]?
theorem V21.kb {N : Nat} {W W' : World} {k : Nat} (h : V21 N W k) (hk : KB21 W W') : V21 N W' k := by
  obtain ⟨h1, cur, h2⟩ := h
  exact ⟨h1, cur, (hk k cur h2).trans h2⟩
def Pk21 (N : Nat) (W : World) (S : Fs21) (x y : Nat) (d : Pd21) : Prop := Seg W (some ⟨d.k, d.off, none⟩) d.b ∧ V21 N W d.k ∧ d.b = fb21 S (x : Int) (y : Int) ∧ d.er = (sh21 S (x : Int) (y : Int)).er ∧ d.wr = (sh21 S (x : Int) (y : Int)).wr ∧ d.b.length ≤ d.c
theorem Pk21.kb {N : Nat} {W W' : World} {S : Fs21} {x y : Nat} {d : Pd21} (h : Pk21 N W S x y d) (hk : KB21 W W') : Pk21 N W' S x y d := by
  obtain ⟨h1, h2, h3⟩ := h
  refine ⟨h1.of_cells fun b' off' i v hi ha hc => ?_, h2.kb hk, h3⟩
  cases ha
  obtain ⟨_, cur, hcur⟩ := h2
  rw [World.cell?_of_block (a := ⟨d.k, d.off + i, none⟩) (hk d.k cur hcur)]
  exact hc
def Ac21 (N : Nat) (W : World) (S : Fs21) (x gx cx : Nat) (L : List Pd21) : Prop := (∃ X : List Value, W.heap[gx]? = some (.cells (pdl21 L ++ X).toArray 110 (0, 0))) ∧ (L.length : Int) = pn21 S.ps (x : Int) ∧ L.length ≤ cx ∧ N ≤ gx ∧ ∀ y d, L[y]? = some d → Pk21 N W S x y d
theorem Ac21.kb {N : Nat} {W W' : World} {S : Fs21} {x gx cx : Nat} {L : List Pd21} (h : Ac21 N W S x gx cx L) (hk : KB21 W W') (hg : W'.heap[gx]? = W.heap[gx]?) : Ac21 N W' S x gx cx L := by
  obtain ⟨⟨X, h1⟩, h2, h3, h4, h5⟩ := h
  exact ⟨⟨X, hg.trans h1⟩, h2, h3, h4, fun y d e => (h5 y d e).kb hk⟩
end Go.Proofs.YtmjlpfmacblcpaaDoor

namespace Go.Proofs.YtmjlpfmacblcpaaDoor
open Go.RowKit Go.Shelf
set_option linter.unusedVariables false
set_option linter.unusedSimpArgs false
theorem cel21 {V V' : World} (hb : Below V.heap.size V V') {p : Addr} {v : Value} (h : V.cell? p = some v) : V'.cell? p = some v :=
  (hb.cell (World.block_lt_of_cell? _ _ h)).trans h
/-- What holds while a page is saved: its box, its bytes, the device. -/
structure Sb21 (gb b pg n cap : Nat) (a : Option Addr) (L : List Int) (wr : Int) (V : World) : Prop where
  x0 : V.cell? ⟨gb, 0, none⟩ = some (.slice a n cap)
  x1 : V.cell? ⟨gb, 1, none⟩ = some (.bool false)
  x2 : V.cell? ⟨gb, 2, none⟩ = some (.int .i64 wr)
  c0 : V.cell? ⟨b, 0, none⟩ = some (.int .i64 (pg : Int))
  sg : Seg V a L
theorem Sb21.kp {gb b pg n cap : Nat} {a : Option Addr} {L : List Int} {wr : Int} {V V' : World} (h : Sb21 gb b pg n cap a L wr V) {Q : Nat → Prop} (hk : Kp Q V V') (hg : ¬ Q gb) (hb : ¬ Q b) (ha : ∀ k off s, a = some ⟨k, off, s⟩ → 0 < L.length → ¬ Q k) : Sb21 gb b pg n cap a L wr V' := by
  have lg := World.block_lt_of_cell? _ _ h.x0
  have lb := World.block_lt_of_cell? _ _ h.c0
  refine ⟨?_, ?_, ?_, ?_, ?_⟩
  · rw [World.cell?_of_block (a := ⟨gb, 0, none⟩) (hk.block gb lg hg)]; exact h.x0
  · rw [World.cell?_of_block (a := ⟨gb, 1, none⟩) (hk.block gb lg hg)]; exact h.x1
  · rw [World.cell?_of_block (a := ⟨gb, 2, none⟩) (hk.block gb lg hg)]; exact h.x2
  · rw [World.cell?_of_block (a := ⟨b, 0, none⟩) (hk.block b lb hb)]; exact h.c0
  · refine h.sg.of_cells fun k off i v hi he hc => ?_
    have lk := World.block_lt_of_cell? _ _ hc
    rw [World.cell?_of_block (a := ⟨k, off + i, none⟩) (hk.block k lk (ha k off none he (by omega)))]
    exact hc
theorem Sb21.old {gb b pg n cap : Nat} {a : Option Addr} {L : List Int} {wr : Int} {V V' : World} (h : Sb21 gb b pg n cap a L wr V) (hb : Below V.heap.size V V') : Sb21 gb b pg n cap a L wr V' :=
  ⟨cel21 hb h.x0, cel21 hb h.x1, cel21 hb h.x2, cel21 hb h.c0, h.sg.old hb⟩
end Go.Proofs.YtmjlpfmacblcpaaDoor

namespace Go.Proofs.YtmjlpfmacblcpaaDoor
open Go.RowKit Go.Shelf
set_option linter.unusedVariables false
set_option linter.unusedSimpArgs false
/-- All bytes of all pages are bytes. -/
def By21 (S : Fs21) : Prop := ∀ x y, ∀ z ∈ (sh21 S x y).b, 0 ≤ z ∧ z ≤ 255
theorem Fl21.by {w : World} {b : Nat} {F : Nat → Prop} {S : Fs21} (h : Fl21 w b F S) : By21 S := by
  obtain ⟨m, c, f, ta, tc, la, lc, V, h1, _⟩ := h
  intro x y
  obtain ⟨a, cap, -, hs, -⟩ := h1.shv x y
  exact hs.mem
section
variable {w : World} {b : Nat} {F : Nat → Prop} {S : Fs21}
end
end Go.Proofs.YtmjlpfmacblcpaaDoor

namespace Go.Proofs.YtmjlpfmacblcpaaDoor
open Go.RowKit
set_option linter.unusedVariables false
set_option linter.unusedSimpArgs false
theorem sq (e : Nat) : act (onN e oneW) (onN e oneW) = onN (2 * e) oneW := by
  rw [act_pow', ← onN_add]
  congr 1
  omega

end Go.Proofs.YtmjlpfmacblcpaaDoor

namespace Go.Proofs.YtmjlpfmacblcpaaDoor
open Go.RowKit Go.Shelf
set_option linter.unusedVariables false
set_option linter.unusedSimpArgs false
theorem Pn22.below {w w' : World} {v s g b N : Nat} {F : Nat → Prop} {S : Fs21} {P : Pw22} (h : Pn22 w w' v s g b F S P) (hF : ∀ k, F k → N ≤ k) (hs : N ≤ s) (hg : N ≤ g) (hN : N ≤ w.heap.size) : ∃ F', Pe22 w' v s g b F' S P ∧ (∀ k, F' k → N ≤ k) ∧ Below N w w' := by
  obtain ⟨F', h1, h2, h3⟩ := h
  refine ⟨F', h1, fun k e => ?_, h3.below (fun i e => ?_) hN⟩
  · rcases h2 k e with q | q
    · exact hF k q
    · omega
  · rcases e with e | e | e
    · exact hF i e
    · omega
    · omega
end Go.Proofs.YtmjlpfmacblcpaaDoor

namespace Go.Proofs.YtmjlpfmacblcpaaDoor
open Go.RowKit Go.Shelf
set_option linter.unusedVariables false
set_option linter.unusedSimpArgs false
section
variable {w w1 w2 wr : World} {u b g c1 k : Nat} {G H H' : Nat → Prop} {ha : Option Addr} {hc : Nat} {S S' : Fs21} {P P' : Pw22} {L : List Int} {x : Int}
theorem Rh22.push (h : Rh22 w u b G H ha hc S P) (hx : 0 ≤ x ∧ x ≤ 255) (ho : w1.ownsRow 0 5 1 (.slice (some ⟨g, 0, none⟩) (P.bf.length + 1) c1) (P.bf.length + 1) ((P.bf ++ [x]).map (Value.int .u8)))
    (hk : Kp (fun k => (Value.slice ha P.bf.length hc).ownBlock = some k) w w1) (hg : (Value.slice ha P.bf.length hc).ownBlock = some g ∨ w.heap.size ≤ g) :
    Ren22 w (w1.setCell ⟨u, 2, none⟩ (.slice (some ⟨g, 0, none⟩) (P.bf.length + 1) c1)) u b H S { P with bf := P.bf ++ [x] } := by
  have hgl : g < w1.heap.size := (ho.lt g rfl).2
  have hgu : g ≠ u := by
    rcases hg with e | e
    · exact h.wr.ne g e
    · have := h.lt u h.uH; omega
  have hgG : ¬ G g := by
    rcases hg with e | e
    · exact h.nh g e
    · intro q; have := h.fl.lts g q; omega
  have hu1 : w1.heap[u]? = w.heap[u]? := hk.block u (h.lt u h.uH) (fun e => h.wr.ne u e rfl)
  have ks : Kp (fun k => k = u) w1 (w1.setCell ⟨u, 2, none⟩ (.slice (some ⟨g, 0, none⟩) (P.bf.length + 1) c1)) := Kp.set (S := fun k => k = u) rfl _
  have hl : (P.bf ++ [x]).length = P.bf.length + 1 := by simp
  refine ⟨fun k => H k ∨ k = g, ⟨G, some ⟨g, 0, none⟩, c1, ⟨h.fl.kp (fun k e => ?_) (Nat.le_trans hk.size ks.size), ⟨?_, ?_, fun k e => ?_, ?_⟩, h.nu, fun k e => ?_, fun k e => .inl (h.gH k e), .inl h.uH, fun k e => ?_, fun k e => ?_⟩⟩, fun k e => ?_, (hk.mono (fun k _ e => h.hH k e)).trans (ks.mono (fun k _ e => by rw [e]; exact h.uH)) (fun _ _ e => e)⟩
  · rw [set_other22 _ _ (show k ≠ u from fun q => h.nu (by rw [← q]; exact e))]
    exact hk.block k (h.fl.lts k e) (fun q => h.nh k q e)
  · have := hu1.trans h.wr.hu
    show _ = some (Obj.cells #[_, _, .slice _ (P.bf ++ [x]).length c1, _, _, _, _] _ _)
    rw [hl]
    simp [World.setCell, Array.getElem?_modify, this]
  · show World.ownsRow _ 0 _ 1 (.slice _ (P.bf ++ [x]).length c1) (P.bf ++ [x]).length _
    rw [hl]
    exact own_tr22 ho (fun r hr => by simp only [Value.ownBlock, Option.some.injEq] at hr; exact set_other22 _ _ (by omega))
  · simp only [Value.ownBlock, Option.some.injEq] at e; omega
  · intro y hy
    rcases List.mem_append.1 hy with hy | hy
    · exact h.wr.bd y hy
    · simp at hy; subst hy; exact hx
  · simp only [Value.ownBlock, Option.some.injEq] at e; rw [← e]; exact hgG
  · simp only [Value.ownBlock, Option.some.injEq] at e; exact .inr e.symm
  · have hz := Nat.le_trans hk.size ks.size
    rcases e with e | e
    · exact Nat.lt_of_lt_of_le (h.lt k e) hz
    · rw [e]; exact Nat.lt_of_lt_of_le hgl ks.size
  · rcases e with e | e
    · exact .inl e
    · rcases hg with q | q
      · exact .inl (by rw [e]; exact h.hH g q)
      · exact .inr (by omega)
theorem Rh22.drew (h : Rh22 w u b G H ha hc S P) : Rh22 w.drew u b G H ha hc S P := ⟨h.fl.old ((Below.refl _ _).drew), ⟨h.wr.hu, h.wr.ow.drew, h.wr.ne, h.wr.bd⟩, h.nu, h.nh, h.gH, h.uH, h.hH, h.lt⟩
theorem Rh22.wrote (h : Rh22 w u b G H ha hc S P) (n : Nat) : Ren22 w (w.setCell ⟨u, 3, none⟩ (.int .i64 (n : Int))) u b H S { P with wn := n } := by
  have hk : Kp H w (w.setCell ⟨u, 3, none⟩ (.int .i64 (n : Int))) := Kp.set h.uH _
  exact ⟨H, ⟨G, ha, hc, ⟨h.fl.kp (fun k e => set_other22 w _ (fun q => h.nu (q ▸ e))) hk.size, ⟨(seven_set22 h.wr.hu _).1, own_tr22 h.wr.ow (fun r hr => set_other22 w _ (h.wr.ne r hr)), h.wr.ne, h.wr.bd⟩, h.nu, h.nh, h.gH, h.uH, h.hH, fun k e => Nat.lt_of_lt_of_le (h.lt k e) hk.size⟩⟩, fun _ e => .inl e, hk⟩
/-- What holds of Write's loop behind k bytes. -/
structure Tg22 (w wr : World) (u b : Nat) (H : Nat → Prop) (S : Fs21) (P : Pw22) (L : List Int) (k : Nat) (H' : Nat → Prop) (S' : Fs21) (P' : Pw22) : Prop where
  re : Re22 wr u b H' S' P'
  fr : ∀ x, H' x → H x ∨ w.heap.size ≤ x
  kp : Kp H w wr
  ok : Ok21 S'
  pg : S'.pg = S.pg
  tk : tk22 S P L = tk22 S' P' (L.drop k)
  lt : P'.bf.length < S'.pg
  ar : P'.ar = P.ar
  wn : P'.wn = P.wn
  cl : P'.cl = 0
  pn : P'.pn ≤ P.pn + k
  lg : S'.lg.length ≤ S.lg.length + 2 * k
theorem Tg22.join (h : Tg22 w wr u b H S P L k H' S' P') {S2 : Fs21} {P2 : Pw22} (hn : Ren22 wr w2 u b H' S2 P2) : ∃ H2, Re22 w2 u b H2 S2 P2 ∧ (∀ x, H2 x → H x ∨ w.heap.size ≤ x) ∧ Kp H w w2 := Ren22.cons h.fr h.kp hn
theorem Tg22.more (h : Tg22 w wr u b H S P L k H' S' P') (hk : L[k]? = some x) (hne : ¬ (P'.bf ++ [x]).length = S'.pg) (hn : Ren22 wr w2 u b H' S' { P' with bf := P'.bf ++ [x] }) : ∃ H2, Tg22 w w2 u b H S P L (k + 1) H2 S' { P' with bf := P'.bf ++ [x] } := by
  obtain ⟨H2, h1, h2, h3⟩ := h.join hn
  have hkl := (List.getElem?_eq_some_iff.1 hk).1
  have hd : L.drop k = x :: L.drop (k + 1) := by
    have h1 : L[k] = x := by rw [List.getElem?_eq_getElem hkl] at hk; injection hk
    rw [← h1]; exact List.drop_eq_getElem_cons hkl
  refine ⟨H2, h1, h2, h3, h.ok, h.pg, ?_, ?_, h.ar, h.wn, h.cl, Nat.le_trans h.pn (by omega), Nat.le_trans h.lg (by omega)⟩
  · rw [h.tk, hd, tk22, if_neg hne]
  · have := h.lt; simp only [List.length_append, List.length_cons, List.length_nil] at hne ⊢; omega
theorem Tg22.no (h : Tg22 w wr u b H S P L k H' S' P') (hk : L[k]? = some x) (he : (P'.bf ++ [x]).length = S'.pg) (hE : lyE22 S' { P' with bf := P'.bf ++ [x] } ≠ 0) (hn : Ren22 wr w2 u b H' (lyS22 S' { P' with bf := P'.bf ++ [x] }) (lyP22 S' { P' with bf := P'.bf ++ [x] })) :
    tkE22 S P L = lyE22 S' { P' with bf := P'.bf ++ [x] } ∧ Ren22 w w2 u b H (tkS22 S P L) (tkP22 S P L) := by
  have hkl := (List.getElem?_eq_some_iff.1 hk).1
  have hd : L.drop k = x :: L.drop (k + 1) := by
    have h1 : L[k] = x := by rw [List.getElem?_eq_getElem hkl] at hk; injection hk
    rw [← h1]; exact List.drop_eq_getElem_cons hkl
  have ht := h.tk
  rw [hd, tk22, if_pos he, if_pos hE] at ht
  unfold tkE22 tkS22 tkP22
  rw [ht]
  refine ⟨rfl, ?_⟩
  rw [if_neg hE]
  exact h.join hn
theorem Tg22.fin (h : Tg22 w wr u b H S P L L.length H' S' P') (hn : Ren22 wr w2 u b H' S' { P' with wn := P.wn + L.length }) :
    tkE22 S P L = 0 ∧ Ren22 w w2 u b H (tkS22 S P L) (tkP22 S P L) := by
  have ht := h.tk
  rw [List.drop_eq_nil_of_le (Nat.le_refl _)] at ht
  unfold tkE22 tkS22 tkP22
  rw [ht, tk22]
  refine ⟨rfl, ?_⟩
  rw [if_pos rfl]
  have e := h.join hn
  rw [← h.wn] at e
  exact e
end
end Go.Proofs.YtmjlpfmacblcpaaDoor

namespace Go.Proofs.YtmjlpfmacblcpaaDoor
open Go.RowKit
set_option linter.unusedVariables false
def two {α : Type} (x y : α) : Nat → α := fun i => if i = 0 then x else y
end Go.Proofs.YtmjlpfmacblcpaaDoor

namespace Go.Proofs.YtmjlpfmacblcpaaDoor
open Go.RowKit
set_option linter.unusedVariables false
set_option linter.unusedSimpArgs false
def OX (w : World) (base : Nat) (e : TypeId) (v : Value) (n : Nat) (xs : List Value) : Prop := xs.length = n ∧ ((v = .slice none 0 0 ∧ n = 0) ∨ ∃ (g cap : Nat) (cur : Array Value), v = .slice (some ⟨g, 0, none⟩) n cap ∧ base ≤ g ∧ w.heap[g]? = some (.cells cur e (0, 0)) ∧ n ≤ cap ∧ cap ≤ maxLen ∧ cap ≤ cur.size ∧ cur.toList.take n = xs)
section
variable {w w' : World} {base n : Nat} {e : TypeId} {v : Value} {xs : List Value}
theorem OX.of (h : w.ownsRow base e 1 v n xs) : OX w base e v n xs := by
  refine ⟨by have := h.1; omega, ?_⟩
  rcases h.2 with h0 | ⟨g, cap, cur, h1, h2, h3, h4, h5, h6, h7⟩
  · exact .inl h0
  · exact .inr ⟨g, cap, cur, h1, h2, h3, h4, h5, by omega, by simpa using h7⟩
theorem OX.lt (h : OX w base e v n xs) : ∀ k, v.ownBlock = some k → base ≤ k ∧ k < w.heap.size := by
  intro k hk
  rcases h.2 with ⟨rfl, _⟩ | ⟨g, cap, cur, rfl, h2, h3, _⟩
  · cases hk
  · cases hk; exact ⟨h2, (Array.getElem?_eq_some_iff.1 h3).1⟩
theorem OX.kept {row : Option Nat} (h : OX w base e v n xs) (hg : w.grownBy w' row) (hne : v.ownBlock = none ∨ v.ownBlock ≠ row) : OX w' base e v n xs := by
  refine ⟨h.1, ?_⟩
  rcases h.2 with hn | ⟨g, cap, cur, rfl, hb, hgg, rest⟩
  · exact .inl hn
  · refine .inr ⟨g, cap, cur, rfl, hb, ?_, rest⟩
    rw [hg.block g (Array.getElem?_eq_some_iff.1 hgg).1 (by simpa [Value.ownBlock] using hne)]
    exact hgg
theorem OX.below (h : OX w base e v n xs) (hb : Below w.heap.size w w') : OX w' base e v n xs := by
  refine ⟨h.1, ?_⟩
  rcases h.2 with hn | ⟨g, cap, cur, rfl, hb0, hgg, rest⟩
  · exact .inl hn
  · exact .inr ⟨g, cap, cur, rfl, hb0, (hb.block g (Array.getElem?_eq_some_iff.1 hgg).1).trans hgg, rest⟩
theorem OX.stored {g cap : Nat} (h : OX w base e (.slice (some ⟨g, 0, none⟩) n cap) n xs) (j : Nat) (u : Value) :
    OX (w.setCell ⟨g, j, none⟩ u) base e (.slice (some ⟨g, 0, none⟩) n cap) n (xs.set j u) ∧ w.grownBy (w.setCell ⟨g, j, none⟩ u) (some g) := by
  refine ⟨?_, grownBy_set (World.grownBy.refl _ _) _⟩
  rcases h.2 with ⟨h', _⟩ | ⟨g', cap', cur, h', hb, hg, hnc, hcm, hcs, htake⟩
  · cases h'
  · simp only [Value.slice.injEq, Option.some.injEq, Addr.mk.injEq, and_true, true_and] at h'
    obtain ⟨rfl, rfl⟩ := h'
    refine ⟨by simpa using h.1, .inr ⟨g, cap, cur.setIfInBounds j u, rfl, hb, by simp [World.setCell, Array.getElem?_modify, hg], hnc, hcm, by simpa using hcs, ?_⟩⟩
    rw [Array.toList_setIfInBounds, List.take_set, htake]
theorem OX.cells {g cap : Nat} (h : OX w base e (.slice (some ⟨g, 0, none⟩) n cap) n xs) : ∀ j u, xs[j]? = some u → w.cell? ((⟨g, 0, none⟩ : Addr).add j) = some u := by
  intro j u hu
  rcases h.2 with ⟨h', _⟩ | ⟨g', cap', cur, h', hb, hg, hnc, hcm, hcs, htake⟩
  · cases h'
  · simp only [Value.slice.injEq, Option.some.injEq, Addr.mk.injEq, and_true, true_and] at h'
    obtain ⟨rfl, rfl⟩ := h'
    have hadd : (⟨g, 0, none⟩ : Addr).add j = ⟨g, j, none⟩ := by unfold Addr.add; split <;> simp_all
    rw [hadd]
    simp only [World.cell?, hg]
    rw [← htake, List.getElem?_take] at hu
    split at hu
    · simpa using hu
    · cases hu
end
theorem ox_take {w : World} {base m l g cap : Nat} {e : TypeId} {xs : List Value} (h : OX w base e (.slice (some ⟨g, 0, none⟩) m cap) m xs) (hl : l ≤ m) : OX w base e (.slice (some ⟨g, 0, none⟩) l cap) l (xs.take l) := by
  have hx : xs.length = m := h.1
  refine ⟨by simp; omega, ?_⟩
  rcases h.2 with ⟨h0, _⟩ | ⟨g', cap', cur, hv, hb, hg, hc, hm, hs, ht⟩
  · cases h0
  · simp only [Value.slice.injEq, Option.some.injEq, Addr.mk.injEq, and_true, true_and] at hv
    obtain ⟨rfl, rfl⟩ := hv
    exact .inr ⟨g, cap, cur, rfl, hb, hg, by omega, hm, hs, by rw [← ht, List.take_take, Nat.min_eq_left hl]⟩
end Go.Proofs.YtmjlpfmacblcpaaDoor

namespace Go.Proofs.YtmjlpfmacblcpaaDoor
open Go.RowKit
set_option linter.unusedVariables false
set_option linter.unusedSimpArgs false
abbrev RowX (eT : TypeId) (w : World) (base : Nat) (v : Value) (ys : List Int) : Prop := OX w base eT v ys.length (ys.map (Value.int .u8))
structure OSX (eT sT : TypeId) (w : World) (base bl G n : Nat) (vs gs : Nat → Value) (ys zs : Nat → List Int) : Prop where
  rv : ∀ i, i < n → RowX eT w base (vs i) (ys i)
  rg : ∀ i, i < n → RowX eT w base (gs i) (zs i)
  vv : ∀ i j, i < n → j < n → i ≠ j → Ap (vs i).ownBlock (vs j).ownBlock
  gv : ∀ i j, i < n → j < n → i ≠ j → Ap (gs i).ownBlock (vs j).ownBlock
  gg : ∀ i j, i < n → j < n → i ≠ j → Ap (gs i).ownBlock (gs j).ownBlock
  sl : Slots sT w bl n vs
  sg : Slots sT w G n gs
  nv : ∀ i k, i < n → (vs i).ownBlock = some k → k ≠ bl ∧ k ≠ G
  ng : ∀ i k, i < n → (gs i).ownBlock = some k → k ≠ bl ∧ k ≠ G
  ne : bl ≠ G
  bG : base ≤ G
  bs : base ≤ w.heap.size

variable {eT sT : TypeId} {w : World} {base bl G n : Nat} {vs gs : Nat → Value} {ys zs : Nat → List Int}
/-- The grown list lies elsewhere, or it goes on behind the list. -/
def SharesX (v g : Value) (y z : List Int) : Prop := Ap g.ownBlock v.ownBlock ∨ ∃ b l m c, v = .slice (some ⟨b, 0, none⟩) l c ∧ g = .slice (some ⟨b, 0, none⟩) m c ∧ l ≤ m ∧ y = z.take l
theorem SharesX.row {w : World} {base : Nat} {v g : Value} {y z : List Int} (h : SharesX v g y z) (hg : RowX eT w base g z) (hv : Ap g.ownBlock v.ownBlock → RowX eT w base v y) : RowX eT w base v y := by
  rcases h with h | ⟨b, l, m, c, rfl, rfl, hl, rfl⟩
  · exact hv h
  · have hm : m = z.length := by
      rcases hg.2 with ⟨h0, _⟩ | ⟨g', c', cur, h0, _⟩
      · cases h0
      · cases h0; rfl
    subst hm
    have := ox_take hg hl
    rw [← List.map_take] at this
    show OX _ _ _ _ _ _
    rw [show (z.take l).length = l by simp; omega]
    exact this

/-- A grown list grows by a byte. -/
theorem OSX.push (h : OSX eT sT w base bl G n vs gs ys zs) (i : Nat) (hi : i < n) (x : Int) (g c : Nat) (w' : World) (hsh : SharesX (vs i) (gs i) (ys i) (zs i))
    (h1 : OX w' base eT (.slice (some ⟨g, 0, none⟩) ((zs i).length + 1) c) ((zs i).length + 1) ((zs i).map (Value.int .u8) ++ [.int .u8 x])) (h2 : w.grownBy w' (gs i).ownBlock) (h3 : RowX eT w' base (gs i) (zs i))
    (h5 : gs i = .slice (some ⟨g, 0, none⟩) (zs i).length c ∨ w.heap.size ≤ g) :
    OSX eT sT (w'.setCell ⟨G, i, none⟩ (.slice (some ⟨g, 0, none⟩) ((zs i).length + 1) c)) base bl G n vs (updO gs i (.slice (some ⟨g, 0, none⟩) ((zs i).length + 1) c)) ys (updO zs i (zs i ++ [x])) ∧
      Below base w (w'.setCell ⟨G, i, none⟩ (.slice (some ⟨g, 0, none⟩) ((zs i).length + 1) c)) ∧ SharesX (vs i) (.slice (some ⟨g, 0, none⟩) ((zs i).length + 1) c) (ys i) (zs i ++ [x]) := by
  obtain ⟨v', hv'⟩ : ∃ v', v' = Value.slice (some ⟨g, 0, none⟩) ((zs i).length + 1) c := ⟨_, rfl⟩
  rw [← hv'] at h1 ⊢
  have h4 : (∃ g c, gs i = .slice (some ⟨g, 0, none⟩) (zs i).length c ∧ v' = .slice (some ⟨g, 0, none⟩) ((zs i).length + 1) c) ∨ ∃ g, v'.ownBlock = some g ∧ w.heap.size ≤ g := by
    rcases h5 with e | e
    · exact .inl ⟨g, c, e, hv'⟩
    · exact .inr ⟨g, by rw [hv']; rfl, e⟩
  clear h5
  have hnew : ∀ k, v'.ownBlock = some k → (gs i).ownBlock = some k ∨ w.heap.size ≤ k := by
    intro k hk
    rcases h4 with ⟨g, c, e1, e2⟩ | ⟨g, e1, e2⟩
    · rw [e2] at hk; rw [e1]; exact .inl hk
    · rw [e1] at hk; cases hk; exact .inr e2
  have hvlt : ∀ j k, j < n → (vs j).ownBlock = some k → k < w.heap.size := fun j k hj hk => ((h.rv j hj).lt k hk).2
  have hglt : ∀ j k, j < n → (gs j).ownBlock = some k → k < w.heap.size := fun j k hj hk => ((h.rg j hj).lt k hk).2
  have apv : ∀ j, j < n → j ≠ i → Ap v'.ownBlock (vs j).ownBlock := by
    intro j hj hne k hk hk2
    rcases hnew k hk with e | e
    · exact h.gv i j hi hj (Ne.symm hne) k e hk2
    · have := hvlt j k hj hk2; omega
  have apg : ∀ j, j < n → j ≠ i → Ap v'.ownBlock (gs j).ownBlock := by
    intro j hj hne k hk hk2
    rcases hnew k hk with e | e
    · exact h.gg i j hi hj (Ne.symm hne) k e hk2
    · have := hglt j k hj hk2; omega
  have hvi : RowX eT w' base (vs i) (ys i) := hsh.row h3 fun hap => (h.rv i hi).kept h2 hap.symm.or
  have hgr : w'.grownBy (w'.setCell ⟨G, i, none⟩ v') (some G) := grownBy_set (World.grownBy.refl _ _) _
  have notG : ∀ (v : Value) (hG : ∀ k, v.ownBlock = some k → k ≠ bl ∧ k ≠ G), v.ownBlock = none ∨ v.ownBlock ≠ some G := by
    intro v hG
    cases e : v.ownBlock with
    | none => exact .inl rfl
    | some k => exact .inr fun e2 => by cases e2; exact (hG G e).2 rfl
  have ng' : ∀ k, v'.ownBlock = some k → k ≠ bl ∧ k ≠ G := by
    intro k hk
    rcases hnew k hk with e | e
    · exact h.ng i k hi e
    · have a1 := h.sl.lt
      have a2 := h.sg.lt
      exact ⟨by omega, by omega⟩
  have hrow' : RowX eT w' base v' (zs i ++ [x]) := by
    show OX _ _ _ _ _ _
    simpa using h1
  have rowsg : (gs i).ownBlock ≠ some bl ∧ (gs i).ownBlock ≠ some G := ⟨fun e => (h.ng i bl hi e).1 rfl, fun e => (h.ng i G hi e).2 rfl⟩
  refine ⟨⟨?_, ?_, h.vv, ?_, ?_, (h.sl.grown h2 (Ne.symm rowsg.1)).grown hgr (by intro e; cases e; exact h.ne rfl), (h.sg.grown h2 (Ne.symm rowsg.2)).set i hi _, h.nv, ?_, h.ne, h.bG, ?_⟩, ?_, ?_⟩
  · intro j hj
    by_cases e : j = i
    · subst e; exact hvi.kept hgr (notG _ (fun k hk => h.nv j k hj hk))
    · exact ((h.rv j hj).kept h2 (h.gv i j hi hj (Ne.symm e)).symm.or).kept hgr (notG _ (fun k hk => h.nv j k hj hk))
  · intro j hj
    by_cases e : j = i
    · subst e; rw [upd_at, upd_at]; exact hrow'.kept hgr (notG _ ng')
    · rw [upd_ne _ _ _ _ e, upd_ne _ _ _ _ e]
      exact ((h.rg j hj).kept h2 (h.gg j i hj hi e).or).kept hgr (notG _ (fun k hk => h.ng j k hj hk))
  · intro j l hj hl hne
    by_cases e : j = i
    · subst e; rw [upd_at]; exact apv l hl (Ne.symm hne)
    · rw [upd_ne _ _ _ _ e]; exact h.gv j l hj hl hne
  · intro j l hj hl hne
    by_cases e : j = i
    · subst e; rw [upd_at, upd_ne _ _ _ _ (Ne.symm hne)]; exact apg l hl (Ne.symm hne)
    · rw [upd_ne _ _ _ _ e]
      by_cases e2 : l = i
      · subst e2; rw [upd_at]; exact (apg j hj e).symm
      · rw [upd_ne _ _ _ _ e2]; exact h.gg j l hj hl hne
  · intro j k hj
    by_cases e : j = i
    · subst e; rw [upd_at]; exact ng' k
    · rw [upd_ne _ _ _ _ e]; exact h.ng j k hj
  · have := h2.size
    have := h.bs
    simp [World.setCell]; omega
  · have hb1 : Below base w w' := (Below.refl _ _).grown h2 h.bs (fun k hk => ((h.rg i hi).lt k hk).1)
    exact hb1.trans ((Below.refl _ _).grown hgr (Nat.le_trans h.bs h2.size) (by intro j e; cases e; exact h.bG))
  · rcases h4 with ⟨g, c, e1, e2⟩ | ⟨g, e1, e2⟩
    · rcases hsh with hs | ⟨b, l, m, c2, a1, a2, a3, a4⟩
      · left
        rw [e2]
        rw [e1] at hs
        exact hs
      · right
        rw [e1] at a2
        cases a2
        exact ⟨g, l, _, c, a1, e2, by omega, by rw [List.take_append_of_le_length a3]; exact a4⟩
    · left
      intro k hk hk2
      rw [e1] at hk
      cases hk
      have := hvlt i g hi hk2
      omega
end Go.Proofs.YtmjlpfmacblcpaaDoor
