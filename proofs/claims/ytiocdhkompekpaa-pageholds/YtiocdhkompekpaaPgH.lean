
import Derived.Test.YtiocdhkompekpaaPgO
import Derived.Test.YtiocdhkompekpaaPgQ
import Derived.Test.YtiocdhkompekpaaPgG
import Derived.Test.YtiocdhkompekpaaRfC
import Derived.Test.YtiocdhkompekpaaPtA
import Derived.StillTailTactics
namespace Go.Proofs.Ytiocdhkompekpaa
open Go.RowKit Go.Shelf
set_option linter.unusedVariables false
set_option linter.unusedSimpArgs false

/-! PageHolds: what holds at the heads of its loop. -/
theorem still_all22 {P : Program} {id : Nat} {Q : Exit → Act → World → Prop} {a : Act} {w : World} {l : List Oper} (hm : P.follows .mixedOrders = true) (hB : Region.lexB .any l.toArray = true)
    (h : wpStill P l.toArray w.drew (fun a' => Q .normal a' w.drew) l a) : (Code.region id l.toArray true).wp P Q a w := wp_region_still_lit hm hB h
theorem run_conv22 {P : Program} {w : World} {a : Option Addr} {zs : List Int} (cap n : Nat) (hn : zs.length = n) (h : Seg w a zs) (src e dst : TypeId) (hs : P.underlying src = some (.slice e)) (he : P.underlying e = some (.int .u8)) (hd : P.underlying dst = some .string) :
    (convert src dst (.slice a n cap)).run P w = .ok (.string (strOfNums zs)) w := by
  subst hn
  by_cases hz : 0 < zs.length
  · obtain ⟨b, off, rfl, _⟩ := h.at_ 0 hz
    refine run_convert_bytes_arg w src e hs he b off zs.length cap zs rfl (fun i hi => ?_) dst hd
    obtain ⟨b', off', hb, hc⟩ := h.at_ i hi
    cases hb
    exact hc
  · have : zs = [] := List.eq_nil_of_length_eq_zero (by omega)
    subst this
    cases a with
    | none => exact run_convert_bytes_nil w src e hs he _ _ dst hd
    | some x =>
      rw [run_convert_bytes_string w src dst e _ _ cap hs he hd]
      have hl : (loadCells x 0).run P w = .ok (([] : List Int).map (Value.int .u8)).toArray w := by simp [loadCells, loadCellsFrom]
      have := run_bytesToString (P := P) w x 0 cap [] hl
      exact this
structure Hw22 (w wr : World) (v s g f g8 gb : Nat) (p q : Nat) (B0 : List Int) (S0 : Fs21) (ar : Int) (L : List Int) (F : Nat → Prop) (S : Fs21) (P : Pw22) (ra : Option Addr) (rc : Nat) : Prop where
  pe : Pe22 wr v s g f F S P
  hp : Hp22 S0 S P ar L
  wn : P.wn = L.length
  le : L.length ≤ S0.pg * S0.ps
  fN : ∀ k, F k → w.heap.size ≤ k
  sN : w.heap.size ≤ s ∧ w.heap.size ≤ g ∧ w.heap.size ≤ v
  bl : Below w.heap.size w wr
  s8 : wr.heap[g8]? = some (.cells #[.int .i64 (p : Int), .int .i64 (q : Int)] 62 (0, 0))
  n8 : ¬ F g8
  sb : Rw21 wr gb B0
  nb : ¬ F gb ∧ gb ≠ g
  ow : wr.ownsRow w.heap.size 5 1 (.slice ra L.length rc) L.length (L.map (Value.int .u8))
  no : ∀ r, (Value.slice ra L.length rc).ownBlock = some r → ¬ F r ∧ r ≠ g ∧ r ≠ gb
  mL : ∀ z ∈ L, 0 ≤ z ∧ z ≤ 255
section
variable {w wr w' : World} {v s g f g8 gb p q : Nat} {B0 : List Int} {S0 : Fs21} {ar : Int} {L L' : List Int} {F : Nat → Prop} {S S' : Fs21} {P P' : Pw22} {ra : Option Addr} {rc : Nat}
theorem Hw22.ty (h : Hw22 w wr v s g f g8 gb p q B0 S0 ar L F S P ra rc) : g8 ≠ s ∧ g8 ≠ g ∧ gb ≠ s ∧ gb ≠ v ∧ g8 ≠ v ∧ ∀ r, (Value.slice ra L.length rc).ownBlock = some r → r < wr.heap.size ∧ r ≠ s ∧ r ≠ v ∧ r ≠ g8 ∧ w.heap.size ≤ r := by
  obtain ⟨Y, hY, _⟩ := h.pe.wr.hg
  obtain ⟨X, hX⟩ := h.sb
  have hs := h.pe.wr.hs
  have hv := h.pe.wr.hv
  have h8 := h.s8
  have tyne : ∀ (a b : Nat) (ca cb : Array Value) (ta tb : TypeId), wr.heap[a]? = some (Obj.cells ca ta (0, 0)) → wr.heap[b]? = some (Obj.cells cb tb (0, 0)) → ta ≠ tb → a ≠ b := fun a b ca cb ta tb e1 e2 hne e => by
    rw [e, e2] at e1; injection e1 with e1; injection e1 with _ e1 _; exact hne e1.symm
  refine ⟨tyne _ _ _ _ _ _ h8 hs (by decide), tyne _ _ _ _ _ _ h8 hY (by decide), tyne _ _ _ _ _ _ hX hs (by decide), tyne _ _ _ _ _ _ hX hv (by decide), tyne _ _ _ _ _ _ h8 hv (by decide), fun r hr => ?_⟩
  rcases h.ow.2 with ⟨h1, _⟩ | ⟨q', cp, cu, h1, h2, h3, _⟩
  · rw [h1] at hr; cases hr
  · rw [h1] at hr
    simp [Value.ownBlock] at hr
    subst hr
    exact ⟨(Array.getElem?_eq_some_iff.1 h3).1, tyne _ _ _ _ _ _ h3 hs (by decide), tyne _ _ _ _ _ _ h3 hv (by decide), tyne _ _ _ _ _ _ h3 h8 (by decide), h2⟩
theorem own_old22 {N n : Nat} {e : TypeId} {k : Nat} {v : Value} {xs : List Value} (h : wr.ownsRow N e k v n xs) (hk : ∀ r, v.ownBlock = some r → w'.heap[r]? = wr.heap[r]?) : w'.ownsRow N e k v n xs := by
  refine ⟨h.1, ?_⟩
  rcases h.2 with q | ⟨q, cap, cur, q1, q2, q3, q4⟩
  · exact .inl q
  · exact .inr ⟨q, cap, cur, q1, q2, (hk q (by rw [q1]; rfl)).trans q3, q4⟩
theorem Hw22.old (h : Hw22 w wr v s g f g8 gb p q B0 S0 ar L F S P ra rc) (hb : Below wr.heap.size wr w') : Hw22 w w' v s g f g8 gb p q B0 S0 ar L F S P ra rc := by
  obtain ⟨X, hX⟩ := h.sb
  have ht := h.ty
  exact ⟨h.pe.old hb, h.hp, h.wn, h.le, h.fN, h.sN, h.bl.trans (hb.mono h.bl.size), (hb.block _ (Array.getElem?_eq_some_iff.1 h.s8).1).trans h.s8, h.n8, ⟨X, (hb.block _ (Array.getElem?_eq_some_iff.1 hX).1).trans hX⟩, h.nb, own_old22 h.ow (fun r hr => hb.block r (ht.2.2.2.2.2 r hr).1), h.no, h.mL⟩
/-- Behind a call of the writer. -/
theorem Hw22.put (h : Hw22 w wr v s g f g8 gb p q B0 S0 ar L F S P ra rc) (hn : Pn22 wr w' v s g f F S' P') :
    ∃ F', Pe22 w' v s g f F' S' P' ∧ (∀ k, F' k → w.heap.size ≤ k) ∧ Below w.heap.size w w' ∧ w'.heap[g8]? = some (.cells #[.int .i64 (p : Int), .int .i64 (q : Int)] 62 (0, 0)) ∧ ¬ F' g8 ∧ Rw21 w' gb B0 ∧ ¬ F' gb ∧ w'.ownsRow w.heap.size 5 1 (.slice ra L.length rc) L.length (L.map (Value.int .u8)) ∧ ∀ r, (Value.slice ra L.length rc).ownBlock = some r → ¬ F' r ∧ r ≠ g ∧ r ≠ gb := by
  obtain ⟨F', h1, h2, h3⟩ := hn
  obtain ⟨X, hX⟩ := h.sb
  obtain ⟨t1, t2, t3, t4, t5, t6⟩ := h.ty
  have hl8 := (Array.getElem?_eq_some_iff.1 h.s8).1
  have hlb := (Array.getElem?_eq_some_iff.1 hX).1
  have nF : ∀ k, k < wr.heap.size → ¬ F k → ¬ F' k := fun k hk hf e => by rcases h2 k e with q | q; (exact hf q); omega
  refine ⟨F', h1, fun k e => ?_, h.bl.trans (h3.below (fun i e => ?_) h.bl.size), ?_, nF _ hl8 h.n8, ⟨X, ?_⟩, nF _ hlb h.nb.1, own_old22 h.ow (fun r hr => ?_), fun r hr => ⟨nF r (t6 r hr).1 (h.no r hr).1, (h.no r hr).2⟩⟩
  · rcases h2 k e with q | q
    · exact h.fN k q
    · exact Nat.le_trans h.bl.size q
  · rcases e with e | e | e
    · exact h.fN i e
    · rw [e]; exact h.sN.1
    · rw [e]; exact h.sN.2.1
  · exact (h3.block g8 hl8 (by rintro (e | e | e); (exact h.n8 e); (exact t1 e); (exact t2 e))).trans h.s8
  · exact (h3.block gb hlb (by rintro (e | e | e); (exact h.nb.1 e); (exact t3 e); (exact h.nb.2 e))).trans hX
  · exact h3.block r (t6 r hr).1 (by rintro (e | e | e); (exact (h.no r hr).1 e); (exact (t6 r hr).2.1 e); (exact (h.no r hr).2.1 e))
end
end Go.Proofs.Ytiocdhkompekpaa
