import Derived.Test.YtodioefbfchckaaPc
import Derived.Deep.RegionHeld
namespace Go.Proofs.Ytodioefbfchckaa
open Go.RowKit Go.Shelf
set_option linter.unusedVariables false

/-! A region that draws its order, in a loop's round: what yields in every world of S may be taken first; S holds behind every operation but the last one, fin, which waits for all that are taken first. -/
section
variable {P : Program} {ops : Array Oper} {Q : Exit → Act → World → Prop} {md : Region.Mode} {S : World → Prop} {fin : Nat}
def wpAnyK (P : Program) (md : Region.Mode) (ops : Array Oper) (Q : Exit → Act → World → Prop) (S : World → Prop) (fin : Nat) : Nat → Array Bool → Act → World → Prop
  | 0, listed, a, w => Region.ready md ops listed = [] ∧ Q .normal a w
  | fuel + 1, listed, a, w =>
    (Region.ready md ops listed = [] → Q .normal a w) ∧
    ∀ i ∈ Region.ready md ops listed, wpOp P ops Q i (fun a' w' => (i ≠ fin → S w') ∧ wpAnyK P md ops Q S fin fuel (listed.setIfInBounds i true) a' w') a w
theorem wpAny_of_K : ∀ (fuel : Nat) (listed : Array Bool) (a : Act) (w : World), wpAnyK P md ops Q S fin fuel listed a w → wpAny P md ops Q fuel listed a w
  | 0, _, _, _, h => h
  | fuel + 1, _, _, _, h => ⟨h.1, fun i hi => wpOp_mono (fun a' w' h' => wpAny_of_K fuel _ a' w' h'.2) (h.2 i hi)⟩
theorem wpAnyK_first {i : Nat} {oi : Oper} {v : Value} (hi : ops[i]? = some oi) (hsel : ∀ (j : Nat) (o : Oper) cs b, ops[j]? = some o → o.op ≠ .select cs b)
    (hQ : ∀ c a w, Q (.panic c) (a.put oi.dst v) w → Q (.panic c) a w) (hfin : ∀ o, ops[fin]? = some o → ∃ e ∈ o.after, Region.binds md e = true ∧ e.on = i) :
    ∀ (fuel : Nat) (listed : Array Bool) (a : Act) (w : World),
      (∀ j oj, ops[j]? = some oj → j ≠ i → listed.getD j true = false → (∀ e ∈ oj.after, Region.binds md e = true → e.on ≠ i) → oi.apart ops oj = true) →
      i ∈ Region.ready md ops listed → YieldsIf P ops S oi v a → S w →
      wpAnyK P md ops Q S fin fuel (listed.setIfInBounds i true) (a.put oi.dst v) w → wpAnyK P md ops Q S fin (fuel + 1) listed a w := by
  intro fuel
  induction fuel with
  | zero =>
    intro listed a w _ hr hy hS H
    refine ⟨fun h => (by rw [h] at hr; cases hr), fun j hj => ?_⟩
    by_cases hji : j = i
    · subst hji; exact hy.wpOp hi hS ⟨fun _ => hS, H⟩
    · have := ready_mono hj hji
      rw [H.1] at this
      cases this
  | succ fuel ih =>
    intro listed a w hfree hr hy hS H
    refine ⟨fun h => (by rw [h] at hr; cases hr), fun j hj => ?_⟩
    by_cases hji : j = i
    · subst hji; exact hy.wpOp hi hS ⟨fun _ => hS, H⟩
    · have h1 := H.2 j (ready_mono hj hji)
      obtain ⟨hjun, oj, hoj, hall⟩ := mem_ready.1 hj
      have hnot : ∀ e ∈ oj.after, Region.binds md e = true → e.on ≠ i := fun e he hb heq => by
        have h1 := hall e he hb
        have h0 := (mem_ready.1 hr).1
        rw [heq] at h1
        rcases Nat.lt_or_ge i listed.size with h' | h'
        · simp [h'] at h0 h1; rw [h0] at h1; cases h1
        · simp [Array.getElem?_eq_none h'] at h1
      have hjf : j ≠ fin := by
        intro e
        subst e
        obtain ⟨e, he, hb, ho⟩ := hfin oj hoj
        exact hnot e he hb ho
      have h2 := wpOp_putIf hoj (hfree j oj hoj hji hjun hnot) (fun cs b => hsel i oi cs b hi) (fun cs b => hsel j oj cs b hoj) hQ hy h1
      have hfree' : ∀ k ok, ops[k]? = some ok → k ≠ i → (listed.setIfInBounds j true).getD k true = false →
          (∀ e ∈ ok.after, Region.binds md e = true → e.on ≠ i) → oi.apart ops ok = true := fun k ok hk hki hun hno => by
        refine hfree k ok hk hki ?_ hno
        by_cases hjk : j = k
        · subst hjk; exact hjun
        · rw [getD_set_ne true hjk] at hun; exact hun
      refine wpOp_mono (fun a' w' h3 => ⟨h3.2.1, ih (listed.setIfInBounds j true) a' w' hfree' (ready_mono hr (Ne.symm hji)) h3.1 (h3.2.1 hjf) ?_⟩) h2
      rw [Array.setIfInBounds_comm _ _ hji]
      exact h3.2.2
def fin16 (md : Region.Mode) (ops : Array Oper) (fin i : Nat) : Bool := decide (ops.size ≤ fin) || Region.waitsFor md ops fin i
theorem fin16_spec {i : Nat} (h : fin16 md ops fin i = true) : ∀ o, ops[fin]? = some o → ∃ e ∈ o.after, Region.binds md e = true ∧ e.on = i := by
  intro o ho
  simp only [fin16, Bool.or_eq_true, decide_eq_true_eq] at h
  rcases h with h | h
  · rw [Array.getElem?_eq_none h] at ho; cases ho
  · obtain ⟨oj, hj, e, he, hb⟩ := Region.waitsFor_spec h
    rw [ho] at hj
    cases hj
    exact ⟨e, he, hb⟩
theorem wpAnyK_take {i : Nat} {oi : Oper} {v : Value} {fuel : Nat} {listed : Array Bool} {a : Act} {w : World} (hi : ops[i]? = some oi)
    (hs : Region.noSelect ops = true) (hf : Region.free md ops listed i = true) (hr : (Region.ready md ops listed).contains i = true) (hfin : fin16 md ops fin i = true)
    (hQ : ∀ c a w, Q (.panic c) (a.put oi.dst v) w → Q (.panic c) a w) (hy : YieldsIf P ops S oi v a) (hS : S w)
    (h : wpAnyK P md ops Q S fin fuel (listed.setIfInBounds i true) (a.put oi.dst v) w) : wpAnyK P md ops Q S fin (fuel + 1) listed a w :=
  wpAnyK_first hi (Region.noSelect_spec hs) hQ (fin16_spec hfin) fuel listed a w (Region.free_spec hi hf) (by simpa using hr) hy hS h
/-- The one that may come up. -/
theorem wpAnyK_one {i : Nat} {fuel : Nat} {listed : Array Bool} {a : Act} {w : World} {o : Oper} (hr : Region.ready md ops listed = [i]) (ho : ops[i]? = some o)
    (h : ∀ K' : Act → World → Prop, Shut (∀ a w, (i ≠ fin → S w) → ((i ≠ fin → S w) → wpAnyK P md ops Q S fin fuel (listed.setIfInBounds i true) a w) → K' a w) → if Region.wanted o (yielded ops a.tmps) = true then Oper.wp P o a w K' Q else K' (a.put o.dst undef) w) :
    wpAnyK P md ops Q S fin (fuel + 1) listed a w :=
  ⟨fun h0 => (by rw [hr] at h0; cases h0), fun j hj => by
    rw [hr] at hj
    have : j = i := by simpa using hj
    subst this
    exact wpOp_step ho (fun K' hK => h K' (fun a w hS hW => hK a w ⟨hS, hW hS⟩))⟩
theorem wpAnyK_done {listed : Array Bool} {a : Act} {w : World} (hr : Region.ready md ops listed = []) (h : Q .normal a w) :
    ∀ fuel, wpAnyK P md ops Q S fin fuel listed a w
  | 0 => ⟨hr, h⟩
  | _ + 1 => ⟨fun _ => h, by rw [hr]; simp⟩
end
theorem round_region16 {P : Program} {n id rd : Nat} {Q : Exit → Act → World → Prop} {a : Act} {w : World} {ops : Array Oper} (S : World → Prop) (fin : Nat) (hm : P.follows .mixedOrders = true) (hd : nodef14 ops = true) (hS : S w.drew)
    (h : S w.drew → wpAnyK P .any ops (nrm14 Q) S fin ops.size (Array.replicate ops.size false) a w.drew) : (Code.region id ops true).wpIn (Fence.wide.inRound rd) n P Q a w :=
  wpIn_mono (wpIn_region_any hm (anyIn_of_any14 hd _ _ _ _ (wpAny_of_K _ _ _ _ (h hS)))) fun e a' w' he => by
    obtain ⟨rfl, h2⟩ := he
    exact h2
/-- The same outside of a round. -/
theorem plain_region16 {P : Program} {id : Nat} {Q : Exit → Act → World → Prop} {a : Act} {w : World} {ops : Array Oper} (S : World → Prop) (fin : Nat) (hm : P.follows .mixedOrders = true) (hS : S w.drew)
    (h : S w.drew → wpAnyK P .any ops Q S fin ops.size (Array.replicate ops.size false) a w.drew) : (Code.region id ops true).wp P Q a w :=
  wp_region_any hm (wpAny_of_K _ _ _ _ (h hS))
end Go.Proofs.Ytodioefbfchckaa

namespace Go.Proofs.Ytodioefbfchckaa
open Go.RowKit Go.Shelf
set_option linter.unusedVariables false
attribute [local go_sem] Oper.semAt_some

/-! span: the least place that is read, and the one behind the greatest. -/
theorem fn16_ofP {f : FuncId} {P : Program} {c : Code} {Q : Exit → Act → World → Prop} {a : Act} {w : World} (h : c.wp P Q a w) : fn16 f P c Q a w := fn16_of (n := 0) (wpIn_wide.2 h)
theorem one_cell16 {w : World} {b : Nat} {x : Value} {t : TypeId} (h : w.heap[b]? = some (.cells #[x] t (0, 0))) : w.cell? ⟨b, 0, none⟩ = some x := by simp [World.cell?, h]
theorem one_free16 {w : World} {b i : Nat} {x : Value} {t : TypeId} (h : w.heap[b]? = some (.cells #[x] t (0, 0))) : w.frozen? ⟨b, i, none⟩ = false := by simp [World.frozen?, h]
theorem one_set16 {w : World} {b : Nat} {x : Value} {t : TypeId} (h : w.heap[b]? = some (.cells #[x] t (0, 0))) (u : Value) : (w.setCell ⟨b, 0, none⟩ u).heap[b]? = some (.cells #[u] t (0, 0)) := by
  simp [World.setCell, Array.getElem?_modify, h]
theorem below_drewN16 {B : Nat} {a b : World} (h : Below B a b) (n : Nat) : Below B a (b.drewN n) := ⟨h.os, h.tape, h.output, h.size, h.block⟩
theorem cell_far16 {w : World} {b i b' j : Nat} {v x : Value} (hc : w.cell? ⟨b', j, none⟩ = some x) (h : b' ≠ b) : (w.setCell ⟨b, i, none⟩ v).cell? ⟨b', j, none⟩ = some x := by
  rw [World.cell?_of_block (w := w) (a := ⟨b', j, none⟩) (heap_setCell_other _ _ _ _ h)]; exact hc
structure Sq16 (w : World) (f1 f2 : Nat) (x y : Int) (W : World) : Prop where
  h1 : W.heap[f1]? = some (.cells #[.int .i64 x] 3 (0, 0))
  h2 : W.heap[f2]? = some (.cells #[.int .i64 y] 3 (0, 0))
  bl : Below w.heap.size w W
theorem Sq16.kp {w W W' : World} {f1 f2 : Nat} {x y : Int} {E : Nat → Prop} (h : Sq16 w f1 f2 x y W) (hk : Kp E W W') (h1 : ¬ E f1) (h2 : ¬ E f2) (hE : ∀ k, E k → w.heap.size ≤ k) : Sq16 w f1 f2 x y W' :=
  ⟨hk.heap h.h1 h1, hk.heap h.h2 h2, h.bl.trans (hk.below hE h.bl.size)⟩
set_option maxRecDepth 100000 in
set_option maxHeartbeats 4000000 in
theorem pspan16 (a : Option Addr) (n cap : Nat) (S : List St16) (w : World) (hs : SegS w a S) (hn : Hid (S.length = n)) (hl : n ≤ 1073741824) (hok : Hid (Ok16 S n)) :
    Calls Try.prog 73 #[.slice a n cap] w fun e w' => e = .returned (.tuple #[.int .i64 (fi16 S n), .int .i64 (en16 S n)]) ∧ Below w.heap.size w w' := by
  refine callsIn_wide.1 (callsIn_of_fn16 (n := 5) Try.func73 rfl ?_)
  simp only [Try.ntmps73, List.size_toArray, List.length_cons, List.length_nil, Nat.reduceAdd, Nat.reduceSub, Array.replicate_succ, Array.replicate_zero, List.push_toArray, List.append_toArray, List.nil_append, List.cons_append]
  refine fn16_seq (fn16_ofP ?_)
  go_wp2
  refine fn16_seq (fn16_ofP ?_)
  go_wp2
  obtain ⟨w1, hw1⟩ : ∃ w1, w1 = (w.alloc (.cells #[.int .i64 0] 3)).alloc (.cells #[.int .i64 0] 3) := ⟨_, rfl⟩
  have b1 : Below w.heap.size w w1 := by rw [hw1]; exact (below_box16 _ _).trans ((below_box16 _ _).mono (by simp))
  have z1 : Hid (w1.heap.size = w.heap.size + 2) := by show _ = _; rw [hw1]; simp
  have q2 : w1.heap[w.heap.size + 1]? = some (.cells #[.int .i64 0] 3 (0, 0)) := by
    rw [hw1]
    have := heap_alloc_new (w.alloc (.cells #[.int .i64 0] 3)) (.cells #[.int .i64 0] 3 (0, 0))
    simpa using this
  have q1 : w1.heap[w.heap.size]? = some (.cells #[.int .i64 0] 3 (0, 0)) := by
    rw [hw1]
    exact (Below.heap_alloc (w.alloc (.cells #[.int .i64 0] 3)) _ w.heap.size (by simp)).trans (heap_alloc_new w _)
  have CW := pwalk16 a n cap w1
  rw [← hw1]
  clear hw1
  refine fn16_seq (fn16_seq (fn16_ofP ?_))
  go_wp2_with (first
    | (go_at_call 69; refine CW.mono ?_; rintro e1 w2 ⟨rfl, cb⟩; clear CW))
  obtain ⟨b12, z2, q3⟩ := cb
  obtain ⟨ob, hob⟩ : ∃ ob, ob = w1.heap.size := ⟨_, rfl⟩
  rw [← hob] at q3
  rw [← hob]
  have z1 := z1.out
  have b2 : Below w.heap.size w w2 := b1.trans (b12.mono b1.size)
  have hs2 : SegS w2 a S := hs.old b2
  have hlt := hs2.lt
  have hlt0 := hs.lt
  obtain ⟨R, hRB, hRa, HRd⟩ : ∃ R : Nat → Prop, R ob ∧ (∀ b off, a = some ⟨b, off, none⟩ → 0 < S.length → R b) ∧ Hid (∀ k, R k → k = ob ∨ (0 < S.length ∧ ∃ off, a = some ⟨k, off, none⟩)) :=
    ⟨fun k => k = ob ∨ (0 < S.length ∧ ∃ off, a = some ⟨k, off, none⟩), .inl rfl, fun b off h1 h2 => .inr ⟨h2, off, h1⟩, fun k h => h⟩
  have SQ := wk16 5 (by omega) ob a n cap S R w2 (one_cell16 q3) hs2 hn hl hok hRB hRa
  have SQ0 : Sq16 w w.heap.size (w.heap.size + 1) 0 0 w2 := ⟨(b12.block _ (by omega)).trans q1, (b12.block _ (by omega)).trans q2, b2⟩
  refine fn16_block ?_
  refine range16 (n := 5) (w := w2) Try.func73 (gf := 75) (lb := #[.pointer (some ⟨ob, 0, none⟩)]) ?_ ?_ ?_ SQ ?_
    (fun i E W => Sq16 w w.heap.size (w.heap.size + 1) (fi16 S i) (en16 S i) W) ?_ (fun _ _ _ => False) ?_ SQ0 ?_ ?_ ?_
  · rfl
  · intro _ _; rfl
  · intro k hk
    rcases HRd.out k hk with rfl | ⟨h1, off, h2⟩
    · omega
    · exact hlt k off h2 h1
  · intro v hv
    simp only [wl16, List.mem_map] at hv
    obtain ⟨i, _, rfl⟩ := hv
    rfl
  · intro i E E' A B hA hlo hk _ _ _
    exact hA.kp hk (fun h => by have := (hlo _ h).1; omega) (fun h => by have := (hlo _ h).1; omega) (fun k h => by have := (hlo _ h).1; omega)
  · intro _ _ _ _ _ h; exact h.elim
  · intro l i v E W hv hI hlo hEl hlr hkr
    have hi : i < n := by
      have := (List.getElem?_eq_some_iff.1 hv).1
      rwa [wl16_len] at this
    rw [wl16_get hi] at hv
    obtain rfl := Option.some.inj hv
    have hbd := ad16_le hok.out hi
    have hpl := sa16_le i (hok.out.mono (Nat.le_of_lt hi))
    have hfe := fe16_bd i (hok.out.mono (Nat.le_of_lt hi))
    have HKR : Hid (∀ k, (E k ∨ R k) → k ≠ w.heap.size ∧ k ≠ w.heap.size + 1) := by
      rintro k (h | h)
      · have := (hlo k h).1; omega
      · rcases HRd.out k h with h | ⟨h1, off, h2⟩
        · omega
        · have := hlt0 k off h2 h1; omega
    have hsk : (S.getD i z16).2.2 = sk16 S i := rfl
    have hsv : sv16 (S.getD i z16) = .agg #[.int .i64 (ad16 S i : Int), .int .i64 (cp16 S i : Int), .int .i64 (sk16 S i)] := by unfold sv16; rw [← hbd.2.2.1, ← hbd.2.2.2.1, hsk]
    rw [hsv]
    have HF : Hid (fi16 S (i + 1) = if 0 < ad16 S i then min (fi16 S i) (pl16 S i) else fi16 S i) := rfl
    have HE : Hid (en16 S (i + 1) = if 0 < ad16 S i then max (en16 S i) (pl16 S i + (ad16 S i : Int)) else en16 S i) := rfl
    obtain ⟨wA, hwA⟩ : ∃ wA, wA = W.alloc (.cells #[.int .i64 (ad16 S i : Int), .int .i64 (cp16 S i : Int), .int .i64 (sk16 S i)] 98) := ⟨_, rfl⟩
    have HWA : Hid (W.alloc (.cells #[.int .i64 (ad16 S i : Int), .int .i64 (cp16 S i : Int), .int .i64 (sk16 S i)] 98) = wA) := hwA.symm
    have tA : SpAt wA W.heap.size 0 ((ad16 S i : Int), (cp16 S i : Int), sk16 S i) := boxS hwA
    have bA : Below W.heap.size W wA := by rw [hwA]; exact below_box16 _ _
    have hIA : Sq16 w w.heap.size (w.heap.size + 1) (fi16 S i) (en16 S i) wA := hI.kp (E := fun _ => False) (Kp.of_below bA) (fun h => h) (fun h => h) (fun _ h => h.elim)
    clear hwA hsv hsk
    obtain ⟨ad, had⟩ : ∃ ad, ad = ad16 S i := ⟨_, rfl⟩
    obtain ⟨p, hp⟩ : ∃ p, p = pl16 S i := ⟨_, rfl⟩
    rw [← had, ← hp] at HF HE
    rw [← had] at HWA tA hbd
    rw [← hp] at hpl
    rw [← had, ← hp]
    obtain ⟨hb1, -⟩ := hbd
    obtain ⟨-, -, hp1, hp2⟩ := hpl
    generalize cp16 S i = cp at *
    generalize sk16 S i = sk at *
    have HZ : Hid (w2.heap.size = w.heap.size + 3) := (by omega : w2.heap.size = w.heap.size + 3)
    clear had hp z1 z2 hob q1 q2 q3 b1 b12
    gi_wp2
    rw [HWA.out]
    refine As16.mk ⟨bA.size, fun k hk _ => bA.block k hk⟩ hIA (fun W2 hk2 _ hI2 => ?_)
    have hob2 : W.heap.size ≠ l := by have := (hlo l hEl).2; omega
    have t2 : SpAt W2 W.heap.size 0 ((ad : Int), (cp : Int), sk) := tA.of_block (hk2.block _ tA.lt hob2)
    have a0 := t2.c0
    simp only at a0
    have hltb : W.heap.size < W2.heap.size := t2.lt
    have hgeb : w2.heap.size ≤ W.heap.size := hkr.size
    have HI2 : Hid (Sq16 w w.heap.size (w.heap.size + 1) (fi16 S i) (en16 S i) W2) := hI2
    have c1 := one_cell16 hI2.h1
    have c2 := one_cell16 hI2.h2
    have f1 := one_free16 (i := 0) hI2.h1
    have f2 := one_free16 (i := 0) hI2.h2
    clear hk2 tA t2 hIA hI hlr hkr hlo hEl bA HWA hI2
    by_cases h0 : 0 < ad
    · have hgt : (0 : Int) < (ad : Int) := by omega
      have hpw : IntKind.i64.wrap (p + (ad : Int)) = p + (ad : Int) := IntWalk.i64_in _ (by omega)
      gi_wp2
      generalize fi16 S i = x at *
      generalize en16 S i = y at *
      refine round_region16 (fun V => V.cell? ⟨W.heap.size, 0, none⟩ = some (.int .i64 (ad : Int)) ∧ V.cell? ⟨w.heap.size + 1, 0, none⟩ = some (.int .i64 y)) 10 (by kernel_rfl) (by kernel_rfl) ⟨a0, c2⟩ (fun hHeld => ?_)
      refine wpAnyK_take (i := 1) (v := .int .i64 p) rfl (by kernel_rfl) (by kernel_rfl) (by kernel_rfl) (by kernel_rfl) (fun _ _ _ h => nomatch h.1) (Or.inl ⟨by rfl, fun w hSw => by go_simp⟩) hHeld ?_
      simp only [List.getElem_toArray, List.getElem_cons_zero, List.getElem_cons_succ, Act.put, List.setIfInBounds_toArray, List.set_cons_zero, List.set_cons_succ]
      refine wpAnyK_take (i := 3) (v := .int .i64 y) rfl (by kernel_rfl) (by kernel_rfl) (by kernel_rfl) (by kernel_rfl) (fun _ _ _ h => nomatch h.1) (Or.inl ⟨by rfl, fun w hSw => by go_simp⟩) hHeld ?_
      simp only [List.getElem_toArray, List.getElem_cons_zero, List.getElem_cons_succ, Act.put, List.setIfInBounds_toArray, List.set_cons_zero, List.set_cons_succ]
      refine wpAnyK_take (i := 4) (v := .int .i64 p) rfl (by kernel_rfl) (by kernel_rfl) (by kernel_rfl) (by kernel_rfl) (fun _ _ _ h => nomatch h.1) (Or.inl ⟨by rfl, fun w hSw => by go_simp⟩) hHeld ?_
      simp only [List.getElem_toArray, List.getElem_cons_zero, List.getElem_cons_succ, Act.put, List.setIfInBounds_toArray, List.set_cons_zero, List.set_cons_succ]
      refine wpAnyK_take (i := 5) (v := .pointer (some ⟨W.heap.size, 0, none⟩)) rfl (by kernel_rfl) (by kernel_rfl) (by kernel_rfl) (by kernel_rfl) (fun _ _ _ h => nomatch h.1) (Or.inl ⟨by rfl, fun w hSw => by go_simp⟩) hHeld ?_
      simp only [List.getElem_toArray, List.getElem_cons_zero, List.getElem_cons_succ, Act.put, List.setIfInBounds_toArray, List.set_cons_zero, List.set_cons_succ]
      refine wpAnyK_take (i := 6) (v := .int .i64 (ad : Int)) rfl (by kernel_rfl) (by kernel_rfl) (by kernel_rfl) (by kernel_rfl) (fun _ _ _ h => nomatch h.1) (Or.inl ⟨by rfl, fun w hSw => by go_simp⟩) hHeld ?_
      simp only [List.getElem_toArray, List.getElem_cons_zero, List.getElem_cons_succ, Act.put, List.setIfInBounds_toArray, List.set_cons_zero, List.set_cons_succ]
      refine wpAnyK_take (i := 7) (v := .int .i64 (p + (ad : Int))) rfl (by kernel_rfl) (by kernel_rfl) (by kernel_rfl) (by kernel_rfl) (fun _ _ _ h => nomatch h.1) (Or.inl ⟨by rfl, fun w hSw => by go_simp⟩) hHeld ?_
      simp only [List.getElem_toArray, List.getElem_cons_zero, List.getElem_cons_succ, Act.put, List.setIfInBounds_toArray, List.set_cons_zero, List.set_cons_succ]
      refine wpAnyK_take (i := 8) (v := .int .i64 (if y < p + (ad : Int) then p + (ad : Int) else y)) rfl (by kernel_rfl) (by kernel_rfl) (by kernel_rfl) (by kernel_rfl) (fun _ _ _ h => nomatch h.1) (Or.inl ⟨by rfl, fun w hSw => by go_simp⟩) hHeld ?_
      simp only [List.getElem_toArray, List.getElem_cons_zero, List.getElem_cons_succ, Act.put, List.setIfInBounds_toArray, List.set_cons_zero, List.set_cons_succ]
      refine wpAnyK_one (i := 0) (by kernel_rfl) rfl (fun K hK => ?_)
      (try simp only [List.getElem_toArray, List.getElem_cons_zero, Act.put, List.setIfInBounds_toArray, List.set_cons_zero, List.set_cons_succ])
      go_simp
      refine hK.out _ _ (fun _ => ⟨a0, c2⟩) (fun hHeld0 => ?_)
      have hHeld := hHeld0 (by decide)
      clear hHeld0 hK K
      (try simp only [List.getElem_toArray, List.getElem_cons_zero, List.getElem_cons_succ, Act.put, List.setIfInBounds_toArray, List.set_cons_zero, List.set_cons_succ])
      refine wpAnyK_one (i := 2) (by kernel_rfl) rfl (fun K hK => ?_)
      (try simp only [List.getElem_toArray, List.getElem_cons_zero, List.getElem_cons_succ, Act.put, List.setIfInBounds_toArray, List.set_cons_zero, List.set_cons_succ])
      go_simp
      refine hK.out _ _ (fun _ => ⟨a0, c2⟩) (fun hHeld0 => ?_)
      have hHeld := hHeld0 (by decide)
      clear hHeld0 hK K
      (try simp only [List.getElem_toArray, List.getElem_cons_zero, List.getElem_cons_succ, Act.put, List.setIfInBounds_toArray, List.set_cons_zero, List.set_cons_succ])
      rw [if_pos h0] at HF HE
      have HMX : Hid (en16 S (i + 1) = if y < p + (ad : Int) then p + (ad : Int) else y) := by show _ = _; rw [HE.out]; split <;> omega
      have HMN : Hid (fi16 S (i + 1) = if p < x then p else x) := by show _ = _; rw [HF.out]; split <;> omega
      generalize (if y < p + (ad : Int) then p + (ad : Int) else y) = mx at *
      generalize (if p < x then p else x) = mn at *
      refine wpAnyK_one (i := 9) (by kernel_rfl) rfl (fun K hK => ?_)
      simp only [List.getElem_toArray, List.getElem_cons_zero, List.getElem_cons_succ, Act.put]
      go_simp
      have HSQ := HI2.out
      have e2 : (W2.drew.setCell ⟨w.heap.size, 0, none⟩ (.int .i64 mn)).heap[w.heap.size + 1]? = some (.cells #[.int .i64 y] 3 (0, 0)) := (heap_setCell_other _ _ _ _ (by show w.heap.size + 1 ≠ w.heap.size; omega)).trans HSQ.h2
      have g2 := one_cell16 e2
      have g3 := one_free16 (i := 0) e2
      have HE2 : Hid ((W2.drew.setCell ⟨w.heap.size, 0, none⟩ (.int .i64 mn)).heap[w.heap.size + 1]? = some (.cells #[.int .i64 y] 3 (0, 0))) := e2
      have hne : W.heap.size ≠ w.heap.size := by have := HZ.out; omega
      clear e2 HSQ
      refine hK.out _ _ (fun _ => ⟨cell_far16 a0 hne, g2⟩) (fun hHeld0 => ?_)
      have hHeld := hHeld0 (by decide)
      clear hHeld0 hK K
      refine wpAnyK_one (i := 10) (by kernel_rfl) rfl (fun K hK => ?_)
      simp only [List.getElem_toArray, List.getElem_cons_zero, List.getElem_cons_succ, Act.put]
      go_simp
      refine hK.out _ _ (fun h => absurd rfl h) (fun _ => ?_)
      clear hK K
      refine wpAnyK_done (by kernel_rfl) ?_ _
      refine ⟨rfl, ?_⟩
      refine ⟨?_, ?_⟩
      · show Sq16 _ _ _ _ _ _
        rw [HMN.out, HMX.out]
        have HSQ := HI2.out
        exact ⟨(heap_setCell_other _ _ _ _ (by show w.heap.size ≠ w.heap.size + 1; omega)).trans (one_set16 (w := W2.drew) HSQ.h1 _), one_set16 HE2.out _, HSQ.bl.drew.trans (((Kp.set (S := fun k => w.heap.size ≤ k) (Nat.le_refl _) _).trans (Kp.set (S := fun k => w.heap.size ≤ k) (by show _ ≤ w.heap.size + 1; omega) _) (fun _ _ h => h)).below (fun _ h => h) HSQ.bl.size)⟩
      · refine ⟨by simp, fun k hk hd => ?_⟩
        have := HKR.out k hd
        exact (heap_setCell_other _ _ _ _ this.2).trans (heap_setCell_other _ _ _ _ this.1)
    · have hgt : ¬ (0 : Int) < (ad : Int) := by omega
      rw [if_neg h0] at HF HE
      gi_wp2
      refine ⟨?_, Kr16.refl _ _⟩
      show Sq16 _ _ _ _ _ _
      rw [HF.out, HE.out]
      exact HI2.out
  · intro D E W hED hlo hI hD
    rw [wl16_len] at hI
    have c1 := one_cell16 hI.h1
    have c2 := one_cell16 hI.h2
    have HDw : Hid (w.heap.size ≤ D) := (by have := (hlo D hED).1; omega : w.heap.size ≤ D)
    have HB : Hid (Below w.heap.size w W) := hI.bl
    clear hI hlo SQ0 SQ hs2 hlt hlt0 b2 q3 b12 b1 q1 q2 z1 z2 hob
    refine fn16_ofP ?_
    go_wp2_with fail
    go_quiet (fail)
    go_wp2_with fail
    refine ⟨by simp, .inl ⟨_, _, rfl, run_takeDeferred (w := W.drewN nq) hD, ?_⟩⟩
    refine ⟨_, results_tmp2 rfl _ _ _, rfl, ?_⟩
    exact (below_drewN16 HB.out nq).trans ((Kp.put16 (S := fun k => w.heap.size ≤ k) HDw.out _).below (fun _ h => h) HB.out.size)
  · intro ch D E W _ _ h; exact h.elim
end Go.Proofs.Ytodioefbfchckaa

namespace Go.Proofs.Ytodioefbfchckaa
open Go.RowKit Go.Shelf
set_option linter.unusedVariables false

/-! outside, Size, sizeOver, Check. -/
abbrev ev16 (sa : Option Addr) (n sc : Nat) (da : Option Addr) (m dc : Nat) (xa : Option Addr) (k xc : Nat) : Value := .agg #[.slice sa n sc, .slice da m dc, .slice xa k xc]
/-- An edit lies in memory. -/
structure Ed16 (w : World) (sa : Option Addr) (n : Nat) (S : List St16) (da : Option Addr) (m : Nat) (D : List Int) (xa : Option Addr) (k : Nat) (X : List Int) : Prop where
  ss : SegS w sa S
  sd : Seg w da D
  sx : Seg w xa X
  hn : S.length = n
  hm : D.length = m
  hk : X.length = k
  ln : n ≤ 1073741824
  lm : m ≤ 1073741824
  lk : k ≤ 1073741824
theorem Ed16.old {w w' : World} {sa da xa : Option Addr} {n m k : Nat} {S : List St16} {D X : List Int} (h : Ed16 w sa n S da m D xa k X) (hb : Below w.heap.size w w') : Ed16 w' sa n S da m D xa k X :=
  ⟨h.ss.old hb, h.sd.old hb, h.sx.old hb, h.hn, h.hm, h.hk, h.ln, h.lm, h.lk⟩
def ob16 (S : List St16) (n : Nat) (old : Int) : Bool := decide (fi16 S n < 0 ∨ old < en16 S n)
set_option maxRecDepth 100000 in
set_option maxHeartbeats 2000000 in
theorem pout16 (a : Option Addr) (n cap : Nat) (S : List St16) (old : Int) (w : World) (hs : SegS w a S) (hn : Hid (S.length = n)) (hl : n ≤ 1073741824) (hok : Hid (Ok16 S n)) :
    Calls Try.prog 60 #[.slice a n cap, .int .i64 old] w fun e w' => e = .returned (.bool (ob16 S n old)) ∧ Below w.heap.size w w' := by
  have CS := pspan16 a n cap S w hs hn hl hok
  unfold ob16
  generalize fi16 S n = x at *
  generalize en16 S n = y at *
  by_cases h1 : x < 0
  · rw [decide_eq_true (.inl h1)]
    go_enter Try.func60, Try.ntmps60
    go_wp2_with (first | (go_at_call 73; refine CS.mono ?_; rintro e1 w1 ⟨rfl, B1⟩; clear CS))
    go_ret
    exact ⟨rfl, B1⟩
  · by_cases h2 : old < y
    · rw [decide_eq_true (.inr h2)]
      go_enter Try.func60, Try.ntmps60
      go_wp2_with (first | (go_at_call 73; refine CS.mono ?_; rintro e1 w1 ⟨rfl, B1⟩; clear CS))
      go_ret
      exact ⟨rfl, B1⟩
    · rw [decide_eq_false (by omega)]
      go_enter Try.func60, Try.ntmps60
      go_wp2_with (first | (go_at_call 73; refine CS.mono ?_; rintro e1 w1 ⟨rfl, B1⟩; clear CS))
      go_ret
      exact ⟨by show Ending.returned (Value.bool (decide (x < 0) || decide (old < y))) = _; rw [decide_eq_false (show ¬ x < 0 by omega), decide_eq_false (show ¬ old < y by omega)]; rfl, B1⟩
def szR16 (S : List St16) (m k : Nat) : Value := .tuple #[.int .i64 (sz16 S m k : Int), .int .i64 (it16 S m k)]
variable {w : World} {sa da xa : Option Addr} {n sc m dc k xc : Nat} {S : List St16} {D X : List Int}
set_option maxRecDepth 100000 in
set_option maxHeartbeats 4000000 in
theorem psize16 (h : Ed16 w sa n S da m D xa k X) :
    Calls Try.prog 59 #[ev16 sa n sc da m dc xa k xc] w fun e w' => e = .returned (szR16 S m k) ∧ Below w.heap.size w w' := by
  unfold ev16
  have hn : Hid (S.length = n) := h.hn
  obtain ⟨wA, hwA⟩ : ∃ wA, wA = w.alloc (.cells #[.slice sa n sc, .slice da m dc, .slice xa k xc] 28) := ⟨_, rfl⟩
  have bA : Below w.heap.size w wA := by rw [hwA]; exact below_box16 _ _
  have CS := psum16 sa n sc S wA (h.ss.old bA) hn h.ln
  have HWA : Hid (wA = w.alloc (.cells #[.slice sa n sc, .slice da m dc, .slice xa k xc] 28)) := hwA
  have hpA : wA.heap[w.heap.size]? = some (.cells #[.slice sa n sc, .slice da m dc, .slice xa k xc] 28 (0, 0)) := by rw [hwA]; exact heap_alloc_new w _
  obtain ⟨ob, hob⟩ : ∃ ob, ob = w.heap.size := ⟨_, rfl⟩
  have hlt : ob < wA.heap.size := by rw [hwA, hob]; simp
  rw [← hob] at hpA
  have HOB : Hid (ob = w.heap.size) := hob
  have HB : Hid (∀ W, Below wA.heap.size wA W → W.cell? ⟨ob, 1, none⟩ = some (.slice da m dc) ∧ W.cell? ⟨ob, 2, none⟩ = some (.slice xa k xc)) := fun W hW => by
    have := (hW.block ob hlt).trans hpA
    exact ⟨three_cell1 this, three_cell2 this⟩
  have hlm := h.lm
  have hlk := h.lk
  have hln := h.ln
  have c0 := three_cell0 hpA
  rw [hwA] at c0
  cases hall : S.all may16
  · have hR : Hid (sumR16 S n = .tuple #[.int .i64 0, .int .i64 0, .int .i64 160]) := by show _ = _; unfold sumR16; rw [hall]; rfl
    have hE : Hid (szR16 S m k = .tuple #[.int .i64 0, .int .i64 160]) := by show _ = _; unfold szR16 sz16; rw [it16_step hall]; rfl
    rw [hR.out] at CS
    rw [hE.out]
    clear hall h hwA hob
    go_enter Try.func59, Try.ntmps59
    go_wp2_with (first | (go_at_call 72; rw [← HWA.out]; refine CS.mono ?_; rintro e1 w1 ⟨rfl, B1⟩; clear CS))
    go_ret2
    exact ⟨rfl, bA.trans (B1.mono bA.size)⟩
  · have hR : Hid (sumR16 S n = .tuple #[.int .i64 (sa16 S n : Int), .int .i64 (sc16 S n : Int), .int .i64 0]) := by show _ = _; unfold sumR16; rw [hall]; rfl
    rw [hR.out] at CS
    have hbd := sa16_le n (by have := all16_ok hall; rwa [hn.out] at this)
    obtain ⟨hb1, hb2, -, -⟩ := hbd
    have hsz : ¬ (sa16 S n = m ∧ sc16 S n = k ∧ m + k ≤ 16777216) → szR16 S m k = .tuple #[.int .i64 0, .int .i64 162] := fun hno => by
      unfold szR16 sz16
      rw [it16_size hall (by rw [hn.out]; exact hno)]; rfl
    have hgo : (sa16 S n = m ∧ sc16 S n = k ∧ m + k ≤ 16777216) → szR16 S m k = .tuple #[.int .i64 ((m + k : Nat) : Int), .int .i64 0] := fun hyes => by
      unfold szR16 sz16
      rw [it16_ok hall (by rw [hn.out]; exact hyes)]; rfl
    clear hall h hwA hob hR hn
    generalize sa16 S n = A at *
    generalize sc16 S n = C at *
    by_cases h1 : A = m
    · subst h1
      by_cases h2 : C = k
      · subst h2
        by_cases h3 : A + C ≤ 16777216
        · rw [hgo ⟨rfl, rfl, h3⟩]
          have hw1 : IntKind.i64.wrap ((A : Int) + (C : Int)) = (A : Int) + (C : Int) := IntWalk.i64_in _ (by omega)
          have hle : ¬ 16777216 < (A : Int) + (C : Int) := by omega
          clear hgo hsz
          go_enter Try.func59, Try.ntmps59
          go_wp2_with (first | (go_at_call 72; rw [← HWA.out]; refine CS.mono ?_; rintro e1 w1 ⟨rfl, B1⟩; obtain ⟨x1, x2⟩ := HB.out w1 B1; rw [HOB.out] at x1 x2; clear CS))
          go_ret2
          exact ⟨by simp, bA.trans (B1.mono bA.size)⟩
        · rw [hsz (by omega)]
          have hw1 : IntKind.i64.wrap ((A : Int) + (C : Int)) = (A : Int) + (C : Int) := IntWalk.i64_in _ (by omega)
          have hle : 16777216 < (A : Int) + (C : Int) := by omega
          clear hgo hsz
          go_enter Try.func59, Try.ntmps59
          go_wp2_with (first | (go_at_call 72; rw [← HWA.out]; refine CS.mono ?_; rintro e1 w1 ⟨rfl, B1⟩; obtain ⟨x1, x2⟩ := HB.out w1 B1; rw [HOB.out] at x1 x2; clear CS))
          go_ret2
          exact ⟨rfl, bA.trans (B1.mono bA.size)⟩
      · rw [hsz (by omega)]
        have hne : ((C : Int) != (k : Int)) = true := by simp; omega
        clear hgo hsz
        go_enter Try.func59, Try.ntmps59
        go_wp2_with (first | (go_at_call 72; rw [← HWA.out]; refine CS.mono ?_; rintro e1 w1 ⟨rfl, B1⟩; obtain ⟨x1, x2⟩ := HB.out w1 B1; rw [HOB.out] at x1 x2; clear CS))
        go_ret2
        exact ⟨rfl, bA.trans (B1.mono bA.size)⟩
    · rw [hsz (by omega)]
      have hne : ((A : Int) != (m : Int)) = true := by simp; omega
      clear hgo hsz
      go_enter Try.func59, Try.ntmps59
      go_wp2_with (first | (go_at_call 72; rw [← HWA.out]; refine CS.mono ?_; rintro e1 w1 ⟨rfl, B1⟩; obtain ⟨x1, x2⟩ := HB.out w1 B1; rw [HOB.out] at x1 x2; clear CS))
      go_ret2
      exact ⟨rfl, bA.trans (B1.mono bA.size)⟩
/-- The error of an edit over so many bytes. -/
def er16 (z : Nat) (S : List St16) (m k : Nat) : Int := if 16777216 < z then 1 else if it16 S m k ≠ 0 then it16 S m k else if ob16 S S.length (z : Int) = true then 161 else 0
theorem er16_far {z : Nat} {S : List St16} {m k : Nat} (h : 16777216 < z) : er16 z S m k = 1 := by unfold er16; rw [if_pos h]
theorem er16_it {z : Nat} {S : List St16} {m k : Nat} (h : ¬ 16777216 < z) (hi : it16 S m k ≠ 0) : er16 z S m k = it16 S m k := by unfold er16; rw [if_neg h, if_pos hi]
theorem er16_out {z : Nat} {S : List St16} {m k : Nat} (h : ¬ 16777216 < z) (hi : it16 S m k = 0) (ho : ob16 S S.length (z : Int) = true) : er16 z S m k = 161 := by unfold er16; rw [if_neg h, if_neg (by simpa using hi), if_pos ho]
theorem er16_ok {z : Nat} {S : List St16} {m k : Nat} (h : ¬ 16777216 < z) (hi : it16 S m k = 0) (ho : ob16 S S.length (z : Int) = false) : er16 z S m k = 0 := by unfold er16; rw [if_neg h, if_neg (by simpa using hi), ho]; rfl
theorem er16_zero {z : Nat} {S : List St16} {m k : Nat} (h : er16 z S m k = 0) : z ≤ 16777216 ∧ it16 S m k = 0 ∧ ob16 S S.length (z : Int) = false := by
  by_cases h1 : 16777216 < z
  · rw [er16_far h1] at h; cases h
  · by_cases h2 : it16 S m k = 0
    · cases h3 : ob16 S S.length (z : Int)
      · exact ⟨by omega, h2, rfl⟩
      · rw [er16_out h1 h2 h3] at h; cases h
    · rw [er16_it h1 h2] at h; exact absurd h h2
def ovR16 (z : Nat) (S : List St16) (m k : Nat) : Value := .tuple #[.int .i64 (if er16 z S m k = 0 then ((m + k : Nat) : Int) else 0), .int .i64 (er16 z S m k)]
set_option maxRecDepth 100000 in
set_option maxHeartbeats 4000000 in
theorem psov16 (za : Option Addr) (z zc : Nat) (hz : z ≤ 1073741824) (h : Ed16 w sa n S da m D xa k X) :
    Calls Try.prog 55 #[.slice za z zc, ev16 sa n sc da m dc xa k xc] w fun e w' => e = .returned (ovR16 z S m k) ∧ Below w.heap.size w w' := by
  obtain ⟨wA, hwA⟩ : ∃ wA, wA = w.alloc (.cells #[.slice sa n sc, .slice da m dc, .slice xa k xc] 28) := ⟨_, rfl⟩
  have bA : Below w.heap.size w wA := by rw [hwA]; exact below_box16 _ _
  have CS := psize16 (sc := sc) (dc := dc) (xc := xc) (h.old bA)
  have hn : Hid (S.length = n) := h.hn
  have HWA : Hid (wA = w.alloc (.cells #[.slice sa n sc, .slice da m dc, .slice xa k xc] 28)) := hwA
  have hpA : wA.heap[w.heap.size]? = some (.cells #[.slice sa n sc, .slice da m dc, .slice xa k xc] 28 (0, 0)) := by rw [hwA]; exact heap_alloc_new w _
  obtain ⟨ob, hob⟩ : ∃ ob, ob = w.heap.size := ⟨_, rfl⟩
  have hlt : ob < wA.heap.size := by rw [hwA, hob]; simp
  rw [← hob] at hpA
  have HOB : Hid (ob = w.heap.size) := hob
  have HB : Hid (∀ W, Below wA.heap.size wA W → W.cell? ⟨ob, 0, none⟩ = some (.slice sa n sc)) := fun W hW => three_cell0 ((hW.block ob hlt).trans hpA)
  have c0 := three_cell0 hpA
  have c1 := three_cell1 hpA
  have c2 := three_cell2 hpA
  rw [hwA, hob] at c0 c1 c2
  have hle : (16777216 : Int) < (z : Int) ↔ 16777216 < z := by omega
  unfold ev16 at CS ⊢
  by_cases hz1 : 16777216 < z
  · have hz2 := hle.2 hz1
    have hE : Hid (ovR16 z S m k = .tuple #[.int .i64 0, .int .i64 1]) := by show _ = _; unfold ovR16; rw [er16_far hz1]; rfl
    rw [hE.out]
    clear CS hle h hwA hob
    go_enter Try.func55, Try.ntmps55
    go_wp2
    go_ret2
    exact ⟨rfl, below_box16 _ _⟩
  · have hz2 : ¬ (16777216 : Int) < (z : Int) := fun x => hz1 (hle.1 x)
    by_cases hi : it16 S m k = 0
    · have hsz : szR16 S m k = .tuple #[.int .i64 ((m + k : Nat) : Int), .int .i64 0] := by unfold szR16 sz16; rw [hi]; rfl
      rw [hsz] at CS
      have hok : Hid (Ok16 S n) := by have := (it16_zero hi).1; rw [hn.out] at this; exact this
      have CO : Hid (∀ W, Below wA.heap.size wA W → Calls Try.prog 60 #[.slice sa n sc, .int .i64 (z : Int)] W fun e w' => e = .returned (.bool (ob16 S n (z : Int))) ∧ Below W.heap.size W w') := fun W hW => pout16 sa n sc S (z : Int) W ((h.ss.old bA).old hW) hn h.ln hok
      cases ho : ob16 S n (z : Int)
      · have hE : Hid (ovR16 z S m k = .tuple #[.int .i64 ((m + k : Nat) : Int), .int .i64 0]) := by show _ = _; unfold ovR16; rw [er16_ok hz1 hi (by rw [hn.out]; exact ho)]; rfl
        rw [hE.out]
        rw [ho] at CO
        clear hle h hwA hob hsz hi ho
        generalize m + k = mk at *
        go_enter Try.func55, Try.ntmps55
        go_wp2_with (first
          | (go_at_call 59; rw [← HWA.out]; refine CS.mono ?_; rintro e1 w1 ⟨rfl, B1⟩; have x1 := HB.out w1 B1; rw [HOB.out] at x1; clear CS)
          | (go_at_call 60; refine (CO.out w1 B1).mono ?_; rintro e2 w2 ⟨rfl, B2⟩; clear CO))
        go_ret2
        exact ⟨rfl, (bA.trans (B1.mono bA.size)).trans (B2.mono (bA.trans (B1.mono bA.size)).size)⟩
      · have hE : Hid (ovR16 z S m k = .tuple #[.int .i64 0, .int .i64 161]) := by show _ = _; unfold ovR16; rw [er16_out hz1 hi (by rw [hn.out]; exact ho)]; rfl
        rw [hE.out]
        rw [ho] at CO
        clear hle h hwA hob hsz hi ho
        generalize m + k = mk at *
        go_enter Try.func55, Try.ntmps55
        go_wp2_with (first
          | (go_at_call 59; rw [← HWA.out]; refine CS.mono ?_; rintro e1 w1 ⟨rfl, B1⟩; have x1 := HB.out w1 B1; rw [HOB.out] at x1; clear CS)
          | (go_at_call 60; refine (CO.out w1 B1).mono ?_; rintro e2 w2 ⟨rfl, B2⟩; clear CO))
        go_ret2
        exact ⟨rfl, (bA.trans (B1.mono bA.size)).trans (B2.mono (bA.trans (B1.mono bA.size)).size)⟩
    · have hsz : szR16 S m k = .tuple #[.int .i64 0, .int .i64 (it16 S m k)] := by unfold szR16 sz16; rw [if_neg hi]; rfl
      have hE : Hid (ovR16 z S m k = .tuple #[.int .i64 0, .int .i64 (it16 S m k)]) := by show _ = _; unfold ovR16; rw [er16_it hz1 hi, if_neg hi]
      rw [hsz] at CS
      rw [hE.out]
      have hc := it16_cases S m k
      clear hle h hwA hob hsz
      generalize it16 S m k = er at *
      rcases hc with rfl | rfl | rfl
      · exact absurd rfl hi
      · clear hi
        go_enter Try.func55, Try.ntmps55
        go_wp2_with (first
          | (go_at_call 59; rw [← HWA.out]; refine CS.mono ?_; rintro e1 w1 ⟨rfl, B1⟩; have x1 := HB.out w1 B1; rw [HOB.out] at x1; clear CS))
        go_ret2
        exact ⟨rfl, bA.trans (B1.mono bA.size)⟩
      · clear hi
        go_enter Try.func55, Try.ntmps55
        go_wp2_with (first
          | (go_at_call 59; rw [← HWA.out]; refine CS.mono ?_; rintro e1 w1 ⟨rfl, B1⟩; have x1 := HB.out w1 B1; rw [HOB.out] at x1; clear CS))
        go_ret2
        exact ⟨rfl, bA.trans (B1.mono bA.size)⟩
end Go.Proofs.Ytodioefbfchckaa
