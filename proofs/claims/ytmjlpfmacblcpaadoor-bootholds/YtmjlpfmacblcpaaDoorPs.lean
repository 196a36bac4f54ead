import Derived.Test.YtmjlpfmacblcpaaDoorPa
import Derived.WalkKit
import Derived.ProofKit
import Derived.OpenShut
import Derived.SizedLaws
import Derived.Test.YtmjlpfmacblcpaaDoorProg
import Derived.Test.YtmjlpfmacblcpaaDoorPo
import Derived.WalkSpells
import Derived.WalkLawsBesides
import Derived.Deep.QuietTactic
import Derived.BigQuiet
import Derived.Test.YtmjlpfmacblcpaaDoorPr
import Derived.Test.YtmjlpfmacblcpaaDoorPq
import Derived.Test.YtmjlpfmacblcpaaDoorPl
import Derived.Test.YtmjlpfmacblcpaaDoorPp
import Derived.StillTailTactics
import Derived.Laws.StructEq
import Derived.Test.YtmjlpfmacblcpaaDoorPd
import Derived.Lib.BitFns
import Derived.Laws.BitsAllLaws
import Derived.Test.YtmjlpfmacblcpaaDoorPc
import Derived.Deep.CutRange
import Derived.Test.YtmjlpfmacblcpaaDoorPm
import Derived.Test.YtmjlpfmacblcpaaDoorPn
import Derived.Deep.Slices
import Derived.Lib.SmallJoins
import Derived.Deep.CutBlock
import Derived.Deep.RegionLaw
import Derived.Test.YtmjlpfmacblcpaaDoorPb
namespace Go.Proofs.YtmjlpfmacblcpaaDoor
open Go.ChangeShapes Go.WideShapes Go.ChangeAt Go.RowKit
set_option linter.unusedVariables false
/-- A slice of whole numbers that came in: what lies there, and how it was read. -/
theorem open_seg {H : Type} {enc : TypeId × Value → H} {P : Program} {W : World} {T e : TypeId} {k : IntKind} {M : Int} {a : Option Addr} {len cap : Nat} {d : DataW H} {p : List MemPlace}
    (hT : P.underlying T = some (.slice e)) (he : P.underlying e = some (.int k)) (hc : P.cellsOf e = 1) (hM : 0 ≤ M) (hwf : ∀ n, (Lit.int k n).wf = true → 0 ≤ n ∧ n ≤ M)
    (h : DataW.Trod enc P W 0 (fun _ => true) true T (.slice a len cap) d p) :
    ∃ zs : List Int, zs.length = len ∧ SegK k M W a zs ∧ len ≤ cap ∧ (a = none → cap = 0) ∧ ((d = .nil ∧ len = 0) ∨ ∃ elems spare, d = .slice elems spare ∧ elems.length = len) := by
  obtain ⟨fuel, hf⟩ := h
  rcases open_ints hT he hc hf with ⟨hcs, hx⟩ | ⟨x, l, c, zs, hcs, _, hl, hm, hz, hx, hcell, hwz⟩
  · simp [Value.cells] at hcs
    obtain ⟨rfl, rfl, rfl⟩ := hcs
    simp only [Prod.mk.injEq] at hx
    exact ⟨[], rfl, SegK.nil hM _ _, Nat.le_refl _, fun _ => rfl, Or.inl ⟨hx.1, rfl⟩⟩
  · simp [Value.cells] at hcs
    obtain ⟨rfl, rfl, rfl⟩ := hcs
    simp only [Prod.mk.injEq] at hx
    simp only [if_true] at hz
    refine ⟨zs.take len, by simp; omega, ⟨fun i hi => ?_, hM, getD_bd hM ?_⟩, hl, (by intro h; cases h), Or.inr ⟨_, _, hx.1, by simp [ChangeShapes.lits]; omega⟩⟩
    · simp at hi
      have hi2 : i < len := by omega
      have h1 := hcell i (by omega)
      obtain ⟨b, off, spot⟩ := x
      have hs : spot = none := by
        have := hcell 0 (by omega)
        simpa [Addr.add] using World.cell?_spot this
      subst hs
      refine ⟨b, off, rfl, ?_⟩
      have hadd : (⟨b, off, none⟩ : Addr).add i = ⟨b, off + i, none⟩ := by unfold Addr.add; split <;> simp_all
      rw [hadd] at h1
      rw [h1]
      simp [List.getD, hi2]
    · intro z hz1
      exact hwf z (hwz z (List.mem_of_mem_take hz1))
end Go.Proofs.YtmjlpfmacblcpaaDoor

namespace Go.Proofs.YtmjlpfmacblcpaaDoor
open Go.RowKit
set_option linter.unusedVariables false
def lentL (zs : List Int) : List Int := zs ++ [171, 172, 173, 174, 175]

end Go.Proofs.YtmjlpfmacblcpaaDoor

namespace Go.Proofs.YtmjlpfmacblcpaaDoor
open Go.RowKit Go.Shelf
set_option linter.unusedVariables false
set_option linter.unusedSimpArgs false
structure Dv21 (B V : World) (f b : Nat) (F G F' G' : Nat → Prop) (S S2 : Fs21) : Prop where
  p : Fl21 V f F' S
  d : Rl21d V b G' S2
  dj : ∀ k, F' k → ¬ G' k
  fF : ∀ k, F' k → F k ∨ B.heap.size ≤ k
  gG : ∀ k, G' k → G k ∨ B.heap.size ≤ k
  kk : Kp (fun k => F k ∨ G k) B V
section
variable {B V V' : World} {f b : Nat} {F G F' G' : Nat → Prop} {S S2 S' : Fs21}
theorem Dv21.below (h : Dv21 B V f b F G F' G' S S2) (hb : Below V.heap.size V V') : Dv21 B V' f b F G F' G' S S2 :=
  ⟨h.p.old hb, h.d.old hb, h.dj, h.fF, h.gG, h.kk.trans (Kp.of_below hb) (fun _ _ e => e)⟩
theorem Dv21.prog (h : Dv21 B V f b F G F' G' S S2) (hn : Fn21 V V' f F' S') : ∃ F'', Dv21 B V' f b F G F'' G' S' S2 := by
  obtain ⟨F'', h1, h2, h3⟩ := hn
  refine ⟨F'', h1, h.d.kp (fun k e => h3.block k (h.d.lts k e) (fun q => h.dj k q e)) h3.size, fun k e q => ?_, fun k e => ?_, h.gG, h.kk.trans h3 (fun i hi e => ?_)⟩
  · rcases h2 k e with e | e
    · exact h.dj k e q
    · have := h.d.lts k q; omega
  · rcases h2 k e with e | e
    · exact h.fF k e
    · exact .inr (Nat.le_trans h.kk.size e)
  · rcases h.fF i e with e | e
    · exact .inl e
    · omega
theorem Dv21.blk (h : Dv21 B V f b F G F' G' S S2) {k : Nat} (hk : k < B.heap.size) (h1 : ¬ F k) (h2 : ¬ G k) : V.heap[k]? = B.heap[k]? :=
  h.kk.block k hk (fun e => e.elim h1 h2)
/-- A block that is none of theirs is written. -/
theorem Dv21.set (h : Dv21 B V f b F G F' G' S S2) {g : Nat} (hk : Kp (fun k => k = g) V V') (hf : ¬ F' g) (hg : ¬ G' g) (hlt : B.heap.size ≤ g ∨ F g ∨ G g) : Dv21 B V' f b F G F' G' S S2 := by
  have hltF : ∀ k, F' k → k < V.heap.size := by
    obtain ⟨m, c, f, ta, tc, la, lc, W, _, _, _, _, _, h6⟩ := h.p
    exact h6
  refine ⟨h.p.kp (fun k e => hk.block k (hltF k e) (fun q => hf (q ▸ e))) hk.size, h.d.kp (fun k e => hk.block k (h.d.lts k e) (fun q => hg (q ▸ e))) hk.size, h.dj, h.fF, h.gG, h.kk.trans hk (fun i hi e => ?_)⟩
  subst e
  rcases hlt with e | e | e
  · omega
  · exact .inl e
  · exact .inr e
end
def lgl21 (S S' : Fs21) : Prop := S'.lg.length ≤ S.lg.length + 1 ∧ S'.pg = S.pg ∧ S'.ps = S.ps
theorem lgl21_rn (S : Fs21) (kd x y : Int) (s : Sh21) : lgl21 S (rn21 S kd x y s) := by
  unfold rn21 cu21 go21 lgl21
  split <;> simp
theorem ok21_cu' {S : Fs21} (h : Ok21 S) (n : Int) (hn : In21 n) (L : List Int) : Ok21 (cuS21 S n L) := by
  unfold cuS21
  split
  · exact h
  · split
    · exact h
    · exact ⟨h.pg, h.ps, h.ac, h.lm, by unfold In21 at hn; show 0 ≤ n ∧ n ≤ 9223372036854775807; omega, by show (if 0 < n then L else []).length ≤ S.pg; (split <;> (first | omega | simp)), h.sh⟩
end Go.Proofs.YtmjlpfmacblcpaaDoor

namespace Go.Proofs.YtmjlpfmacblcpaaDoor
open Go.RowKit Go.Shelf
set_option linter.unusedVariables false
set_option linter.unusedSimpArgs false
theorem rw_seg21 {w : World} {g : Nat} {zs : List Int} (h : Rw21 w g zs) (hb : ∀ z ∈ zs, 0 ≤ z ∧ z ≤ 255) : Seg w (some ⟨g, 0, none⟩) zs := by
  obtain ⟨X, hX⟩ := h
  have e5 : zs.map (Value.int .u8) ++ X.map (Value.int .u8) = (zs ++ X).map (Value.int .u8) := by simp
  rw [← e5] at hX
  refine ⟨fun i hi => ⟨g, 0, rfl, ?_⟩, by decide, getD_bd (by decide) hb⟩
  simp only [World.cell?, hX, Nat.zero_add]
  rw [List.getElem?_toArray, List.getElem?_append_left (by simpa using hi)]
  simp [List.getD, hi]
/-- The call's box, the lent bytes, the bytes themselves: as long as no device has them. -/
structure Bx21 (B : World) (gc gl n cap : Nat) (ba : Option Addr) (bc : Nat) (c a p nn : Int) (L : List Int) (V : World) : Prop where
  hb : V.heap[gc]? = some (.cells #[.int .i64 c, .int .i64 a, .int .i64 p, .int .i64 nn, .slice ba n bc] 39 (0, 0))
  sg : Seg V ba L
  ln : L.length = n
  lo : V.ownsRow (gc + 1) 5 1 (.slice (some ⟨gl, 0, none⟩) (n + 5) cap) (n + 5) ((lentL L).map (Value.int .u8))
theorem Bx21.c {B V : World} {gc gl n cap bc : Nat} {ba : Option Addr} {c a p nn : Int} {L : List Int} (h : Bx21 B gc gl n cap ba bc c a p nn L V) : V.cell? ⟨gc, 0, none⟩ = some (.int .i64 c) ∧ V.cell? ⟨gc, 1, none⟩ = some (.int .i64 a) ∧ V.cell? ⟨gc, 2, none⟩ = some (.int .i64 p) ∧ V.cell? ⟨gc, 3, none⟩ = some (.int .i64 nn) ∧ V.cell? ⟨gc, 4, none⟩ = some (.slice ba n bc) := by
  have := h.hb
  simp [World.cell?, this]
/-- The part of the lent bytes that is handed on. -/
theorem Bx21.part {B V : World} {gc gl n cap bc : Nat} {ba : Option Addr} {c a p nn : Int} {L : List Int} (h : Bx21 B gc gl n cap ba bc c a p nn L V) : Seg V (some ⟨gl, 0, none⟩) L := by
  have hm := h.sg.mem
  have hlb : ∀ z ∈ lentL L, 0 ≤ z ∧ z ≤ 255 := by
    intro z hz
    rcases List.mem_append.1 hz with hz | hz
    · exact hm z hz
    · simp at hz; omega
  obtain ⟨-, a', c', hv, sg, -⟩ := own_seg (M := 255) h.lo (by decide) hlb
  injection hv with h1 h2 h3
  subst h1
  have := sg.take L.length
  rwa [show (lentL L).take L.length = L from List.take_left] at this
end Go.Proofs.YtmjlpfmacblcpaaDoor

namespace Go.Proofs.YtmjlpfmacblcpaaDoor
open Go.RowKit Go.Shelf
set_option linter.unusedVariables false
set_option linter.unusedSimpArgs false
/-- What holds while New lays area a: the areas ahead are laid, cur is a's slice. -/
structure Nd21 (w W : World) (b p q : Nat) (ac : Int) (sl : Array Value) (S : Fs21) (a : Nat) (g c : Nat → Nat) (A : Nat → List Pd21) (cur : Value) : Prop where
  bl : Below w.heap.size w W
  gs : W.heap[w.heap.size]? = some (.cells sl 46 (0, 0))
  hp : W.heap[b]? = some (.cells #[.int .i64 (p : Int), .int .i64 (q : Int), .int .i64 ac, (if 0 < a then .slice (some ⟨g 0, 0, none⟩) (A 0).length (c 0) else if a = 0 then cur else .slice none 0 0), (if 1 < a then .slice (some ⟨g 1, 0, none⟩) (A 1).length (c 1) else if a = 1 then cur else .slice none 0 0), .slice none 0 0, .slice none 0 0, .bool false, .int .i64 0, .slice none 0 0, .int .i64 0] 107 (0, 0))
  ar : ∀ x, x < a → Ac21 w.heap.size W S x (g x) (c x) (A x)
  gi : ∀ x y, x < a → y < a → x ≠ y → g x ≠ g y
  bN : w.heap.size ≤ b
section
variable {w W W' : World} {b p q : Nat} {ac : Int} {sl : Array Value} {S : Fs21} {a : Nat} {g c : Nat → Nat} {A : Nat → List Pd21} {cur : Value}
theorem Nd21.lt (h : Nd21 w W b p q ac sl S a g c A cur) : b < W.heap.size := (Array.getElem?_eq_some_iff.1 h.hp).1
theorem Nd21.cel (h : Nd21 w W b p q ac sl S a g c A cur) (ha : a < 2) : W.cell? ⟨b, 3 + a, none⟩ = some cur := by
  rcases (show a = 0 ∨ a = 1 by omega) with rfl | rfl
  · simp [World.cell?, h.hp]
  · simp [World.cell?, h.hp]
theorem Nd21.fr (h : Nd21 w W b p q ac sl S a g c A cur) (i : Nat) : W.frozen? ⟨b, i, none⟩ = false := by simp [World.frozen?, h.hp]
/-- Only new blocks. -/
theorem Nd21.old (h : Nd21 w W b p q ac sl S a g c A cur) (hb : Below W.heap.size W W') : Nd21 w W' b p q ac sl S a g c A cur := by
  have hkb : KB21 W W' := fun k cur e => hb.block k (Array.getElem?_eq_some_iff.1 e).1
  refine ⟨h.bl.trans (hb.mono h.bl.size), (hb.block _ (Array.getElem?_eq_some_iff.1 h.gs).1).trans h.gs, (hb.block b h.lt).trans h.hp, fun x hx => ?_, h.gi, h.bN⟩
  obtain ⟨X, hX⟩ := (h.ar x hx).1
  exact (h.ar x hx).kb hkb (hb.block _ (Array.getElem?_eq_some_iff.1 hX).1)
/-- The area's slice anew: all is kept but b and a row of pages that is none of the laid ones. -/
theorem Nd21.put (h : Nd21 w W b p q ac sl S a g c A cur) (ha : a < 2) {Q : Nat → Prop} {W1 : World} (hk : Kp Q W W1) (hQ : ∀ k, Q k → w.heap.size ≤ k ∧ (∀ x, x < a → k ≠ g x) ∧ k ≠ b ∧ (∀ cur : Array Value, W.heap[k]? ≠ some (Obj.cells cur 5 (0, 0))) ∧ (∀ cur : Array Value, W.heap[k]? ≠ some (Obj.cells cur 46 (0, 0)))) (v : Value) :
    Nd21 w (W1.setCell ⟨b, 3 + a, none⟩ v) b p q ac sl S a g c A v := by
  have hk2 : Kp (fun k => k = b ∨ Q k) W (W1.setCell ⟨b, 3 + a, none⟩ v) := (hk.mono (fun _ _ e => .inr e)).trans (Kp.set (S := fun k => k = b ∨ Q k) (.inl rfl) _) (fun _ _ e => e)
  have hkb : KB21 W (W1.setCell ⟨b, 3 + a, none⟩ v) := fun k cur e => hk2.block k (Array.getElem?_eq_some_iff.1 e).1 (fun q => by
    rcases q with q | q
    · subst q; rw [h.hp] at e; injection e with e; injection e with _ e _; exact absurd e (by decide)
    · exact (hQ k q).2.2.2.1 cur e)
  have hb1 : W1.heap[b]? = W.heap[b]? := hk.block b h.lt (fun e => (hQ b e).2.2.1 rfl)
  refine ⟨h.bl.trans (hk2.below (fun i e => ?_) h.bl.size), ?_, ?_, fun x hx => ?_, h.gi, h.bN⟩
  · rcases e with e | e
    · rw [e]; exact h.bN
    · exact (hQ i e).1
  · refine (hk2.block _ (Array.getElem?_eq_some_iff.1 h.gs).1 (fun q => ?_)).trans h.gs
    rcases q with q | q
    · have := h.hp; rw [← q, h.gs] at this; injection this with e; injection e with _ e _; exact absurd e (by decide)
    · exact (hQ _ q).2.2.2.2 _ h.gs
  · have := hb1.trans h.hp
    rcases (show a = 0 ∨ a = 1 by omega) with rfl | rfl
    · simp [World.setCell, Array.getElem?_modify, this]
    · simp [World.setCell, Array.getElem?_modify, this]
  · obtain ⟨X, hX⟩ := (h.ar x hx).1
    refine (h.ar x hx).kb hkb (hk2.block _ (Array.getElem?_eq_some_iff.1 hX).1 (fun q => ?_))
    rcases q with q | q
    · have := h.hp; rw [← q, hX] at this; injection this with e; injection e with _ e _; exact absurd e (by decide)
    · exact (hQ _ q).2.1 x hx rfl
end
theorem Nd21.next {w W : World} {b p q : Nat} {ac : Int} {sl : Array Value} {S : Fs21} {a : Nat} {g c : Nat → Nat} {A : Nat → List Pd21} {r cap n : Nat} {L : List Pd21} (h : Nd21 w W b p q ac sl S a g c A (.slice (some ⟨r, 0, none⟩) n cap)) (ha : a < 2) (hL : L.length = n) (hac : Ac21 w.heap.size W S a r cap L) (hr : ∀ x, x < a → r ≠ g x) :
    ∃ g' c' A', Nd21 w W b p q ac sl S (a + 1) g' c' A' (.slice none 0 0) := by
  refine ⟨fun x => if x = a then r else g x, fun x => if x = a then cap else c x, fun x => if x = a then L else A x, h.bl, h.gs, ?_, fun x hx => ?_, fun x y hx hy hne => ?_, h.bN⟩
  · have := h.hp
    rcases (show a = 0 ∨ a = 1 by omega) with rfl | rfl
    · simpa [hL] using this
    · simpa [hL] using this
  · by_cases e : x = a
    · subst e; simpa using hac
    · simpa [e] using h.ar x (by omega)
  · by_cases e : x = a
    · have e2 : ¬ y = a := by omega
      simp only [e, if_true, e2, if_false]; exact hr y (by omega)
    · by_cases e2 : y = a
      · simp only [e, if_false, e2, if_true]; exact fun q => hr x (by omega) q.symm
      · simp only [e, e2, if_false]; exact h.gi x y (by omega) (by omega) hne
end Go.Proofs.YtmjlpfmacblcpaaDoor

namespace Go.Proofs.YtmjlpfmacblcpaaDoor
open Go.RowKit Go.Shelf
set_option linter.unusedVariables false
set_option linter.unusedSimpArgs false
structure Dv22 where
  p : Nat
  q : Nat
  ac : Bool
  a0 : Option Addr
  l0 : List Int
  k0 : Nat
  a1 : Option Addr
  l1 : List Int
  k1 : Nat
def Dv22.P (d : Dv22) : Nat := 64 + d.p % 9
def Dv22.Q (d : Dv22) : Nat := 1 + d.q % 4
def Dv22.A (d : Dv22) : Int := if d.ac then 1 else 0
def Dv22.S (d : Dv22) : Fs21 := nw21 d.P d.Q d.A (d.l0.take (d.P * d.Q)) (d.l1.take (d.P * d.Q))
theorem Dv22.bd (d : Dv22) : 64 ≤ d.P ∧ d.P ≤ 72 ∧ 1 ≤ d.Q ∧ d.Q ≤ 4 ∧ d.P * d.Q ≤ 288 := by
  have h1 : 64 ≤ d.P ∧ d.P ≤ 72 := by unfold Dv22.P; omega
  have h2 : 1 ≤ d.Q ∧ d.Q ≤ 4 := by unfold Dv22.Q; omega
  exact ⟨h1.1, h1.2, h2.1, h2.2, Nat.mul_le_mul h1.2 h2.2⟩
theorem Dv22.ok (d : Dv22) : Ok21 d.S := by
  have := d.bd
  exact ok21_new d.P d.Q d.A _ _ (by omega) (by omega) (by unfold Dv22.A; split <;> omega)
theorem slice_none22 (W : World) : (Instr.slice 22 (.slice none 0 0) none (some (.int .i64 0)) none).run Tryd.prog W = .ok (.slice none 0 0) W := by kernel_rfl
theorem slice_hi22 (a : Option Addr) (n k m : Nat) (hnk : n ≤ k) (hm : m ≤ k) (hn : a = none → k = 0) (W : World) : (Instr.slice 22 (.slice a n k) none (some (.int .i64 (m : Int))) none).run Tryd.prog W = .ok (.slice a m k) W := by
  have h1 : (m : Int) ≤ (k : Int) := by omega
  have h0 : (0 : Int) ≤ (m : Int) := by omega
  cases a with
  | none =>
    have := hn rfl
    subst this
    obtain rfl : m = 0 := by omega
    obtain rfl : n = 0 := by omega
    exact slice_none22 W
  | some x => go_simp
end Go.Proofs.YtmjlpfmacblcpaaDoor

namespace Go.Proofs.YtmjlpfmacblcpaaDoor
open Go.RowKit Go.Shelf
set_option linter.unusedVariables false
set_option linter.unusedSimpArgs false
def rs24 (a : Option Addr) (c d : Nat) : Option Addr := if c = d then a else a.map fun x => x.add d
theorem seg_rs24 {V : World} {a : Option Addr} {L : List Int} {c d : Nat} (h : Seg V a L) (hd : d ≤ L.length) (hc : L.length ≤ c) : Seg V (rs24 a c d) (L.drop d) := by
  unfold rs24
  by_cases h0 : L.drop d = []
  · rw [h0]
    exact SegK.nil (by decide) _ _
  · have hl : d < L.length := by
      rcases Nat.lt_or_ge d L.length with x | x
      · exact x
      · exact absurd (List.drop_eq_nil_of_le x) h0
    rw [if_neg (by omega)]
    obtain ⟨b, off, rfl, _⟩ := h.at_ 0 (by omega)
    have hadd : (⟨b, off, none⟩ : Addr).add d = ⟨b, off + d, none⟩ := by simp [Addr.add]
    simp only [Option.map_some, hadd]
    exact h.drop d
/-- The reader in memory: what is left lies in the bytes that came in, whose world is w. -/
structure Rm24 (w V : World) (p : Nat) (L : List Int) (x : Bool) : Prop where
  bl : Below w.heap.size w V
  ge : w.heap.size ≤ p
  blk : ∃ a n k, V.heap[p]? = some (.cells #[.slice a n k, .bool x] 85 (0, 0)) ∧ Seg w a L ∧ L.length = n ∧ n ≤ k ∧ (a = none → k = 0)
theorem Rm24.kp {w V W : World} {p : Nat} {L : List Int} {x : Bool} {S : Nat → Prop} (h : Rm24 w V p L x) (hk : Kp S V W) (hS : ∀ k, S k → w.heap.size ≤ k) (hp : ¬ S p) : Rm24 w W p L x := by
  obtain ⟨h1, h2, a, n, k, h3, h4⟩ := h
  exact ⟨h1.trans (hk.below hS h1.size), h2, a, n, k, hk.heap h3 hp, h4⟩
theorem Rm24.lt {w V : World} {p : Nat} {L : List Int} {x : Bool} (h : Rm24 w V p L x) : p < V.heap.size := by
  obtain ⟨h1, h2, a, n, k, h3, h4⟩ := h
  exact (Array.getElem?_eq_some_iff.1 h3).1
section
variable {w V : World} {p : Nat} {L : List Int} {x : Bool}
theorem Rm24.rest (h : Rm24 w V p L x) (a : Option Addr) (n k : Nat) (hb : V.heap[p]? = some (.cells #[.slice a n k, .bool x] 85 (0, 0))) (hs : Seg w a L) (hl : L.length = n) (hn : n ≤ k) (hz : a = none → k = 0) (m : Nat) (hm : m ≤ n) : Rm24 w (V.setCell ⟨p, 0, none⟩ (.slice (rs24 a k m) (n - m) (k - m))) p (L.drop m) x ∧ Kp (fun k => k = p) V (V.setCell ⟨p, 0, none⟩ (.slice (rs24 a k m) (n - m) (k - m))) := by
  have hk : Kp (fun k => k = p) V (V.setCell ⟨p, 0, none⟩ (.slice (rs24 a k m) (n - m) (k - m))) := Kp.set (S := fun k => k = p) rfl _
  refine ⟨⟨h.bl.trans (hk.below (fun i e => by have := h.ge; omega) h.bl.size), h.ge, _, _, _, two_set0 hb _, seg_rs24 hs (by omega) (by omega), by simp; omega, by omega, fun e => ?_⟩, hk⟩
  have : a = none := by
    unfold rs24 at e
    split at e
    · exact e
    · cases a with
      | none => rfl
      | some y => cases e
  have := hz this
  omega
end
end Go.Proofs.YtmjlpfmacblcpaaDoor
