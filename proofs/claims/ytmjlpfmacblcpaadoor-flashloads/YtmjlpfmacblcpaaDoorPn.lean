import Derived.Test.YtmjlpfmacblcpaaDoorPm
import Derived.Test.YtmjlpfmacblcpaaDoorPk
import Derived.Test.YtmjlpfmacblcpaaDoorPh
import Derived.Test.YtmjlpfmacblcpaaDoorPf
import Derived.StillTailTactics
import Derived.Laws.StructEq
import Derived.Test.YtmjlpfmacblcpaaDoorPa
import Derived.WalkSpells
import Derived.Laws.BytesArg
import Derived.Test.YtmjlpfmacblcpaaDoorProg
import Derived.WalkKit
import Derived.Test.YtmjlpfmacblcpaaDoorPl
namespace Go.Proofs.YtmjlpfmacblcpaaDoor
open Go.RowKit Go.Shelf
set_option linter.unusedVariables false
set_option linter.unusedSimpArgs false
section
variable {w w' : World} {u b : Nat} {G H : Nat → Prop} {ha : Option Addr} {hc : Nat} {S S' : Fs21} {P P' : Pw22}
theorem own_tr22 {N n : Nat} {e : TypeId} {k : Nat} {v : Value} {xs : List Value} (h : w.ownsRow N e k v n xs) (hk : ∀ r, v.ownBlock = some r → w'.heap[r]? = w.heap[r]?) : w'.ownsRow N e k v n xs := by
  refine ⟨h.1, ?_⟩
  rcases h.2 with q | ⟨q, cap, cur, q1, q2, q3, q4⟩
  · exact .inl q
  · exact .inr ⟨q, cap, cur, q1, q2, (hk q (by rw [q1]; rfl)).trans q3, q4⟩
theorem Rw22.setF (h : Rw22 w u b ha hc P) (h0 : P.cl = 0) (x : Int) (hx : x ≠ 221) : Rw22 (w.setCell ⟨u, 5, none⟩ (.int .i64 x)) u b ha hc { P with cl := x } := by
  refine ⟨?_, own_tr22 h.ow (fun r hr => set_other22 w _ (h.ne r hr)), h.ne, h.bd⟩
  have q := (seven_set22 h.hu (.int .i64 x)).2.2.1
  have e1 : (if x = 221 then 0 else x) = x := if_neg hx
  have e2 : decide (P.cl = 221) = decide (x = 221) := by rw [h0]; simp [hx]
  rw [e2] at q
  show (w.setCell ⟨u, 5, none⟩ (.int .i64 x)).heap[u]? = some (.cells #[_, _, _, _, _, .int .i64 (if x = 221 then 0 else x), .bool (decide (x = 221))] _ _)
  rw [e1]
  exact q
theorem Rw22.setN (h : Rw22 w u b ha hc P) (n : Nat) : Rw22 ((w.setCell ⟨u, 4, none⟩ (.int .i64 (n : Int))).setCell ⟨u, 2, none⟩ (.slice none 0 0)) u b none 0 { P with pn := n, bf := [] } := by
  refine ⟨?_, World.ownsRow_nil _ _ _ _, fun k e => by simp [Value.ownBlock] at e, by simp⟩
  have q := (seven_set22 h.hu (.int .i64 (n : Int))).2.1
  simp [World.setCell, Array.getElem?_modify, h.hu]
theorem Rh22.fail (h : Rh22 w u b G H ha hc S P) (h0 : P.cl = 0) (x : Int) (hx : x ≠ 221) : Ren22 w (w.setCell ⟨u, 5, none⟩ (.int .i64 x)) u b H S { P with cl := x } := by
  have hk : Kp H w (w.setCell ⟨u, 5, none⟩ (.int .i64 x)) := Kp.set h.uH _
  refine ⟨H, ⟨G, ha, hc, ⟨h.fl.kp (fun k e => set_other22 w _ (fun q => h.nu (q ▸ e))) hk.size, h.wr.setF h0 x hx, h.nu, h.nh, h.gH, h.uH, h.hH, fun k e => Nat.lt_of_lt_of_le (h.lt k e) hk.size⟩⟩, fun _ e => .inl e, hk⟩
theorem Rh22.next (h : Rh22 w u b G H ha hc S P) (n : Nat) : Ren22 w ((w.setCell ⟨u, 4, none⟩ (.int .i64 (n : Int))).setCell ⟨u, 2, none⟩ (.slice none 0 0)) u b H S { P with pn := n, bf := [] } := by
  have hk : Kp H w ((w.setCell ⟨u, 4, none⟩ (.int .i64 (n : Int))).setCell ⟨u, 2, none⟩ (.slice none 0 0)) := (Kp.set h.uH _).trans (Kp.set h.uH _) (fun _ _ e => e)
  refine ⟨H, ⟨G, none, 0, ⟨h.fl.kp (fun k e => ?_) hk.size, h.wr.setN n, h.nu, fun k e => by simp [Value.ownBlock] at e, h.gH, h.uH, fun k e => by simp [Value.ownBlock] at e, fun k e => Nat.lt_of_lt_of_le (h.lt k e) hk.size⟩⟩, fun _ e => .inl e, hk⟩
  have hne : k ≠ u := fun q => h.nu (q ▸ e)
  rw [set_other22 _ _ hne, set_other22 _ _ hne]
theorem Ren22.cons {w1 w2 : World} {H1 : Nat → Prop} (f1 : ∀ k, H1 k → H k ∨ w.heap.size ≤ k) (k1 : Kp H w w1) (h : Ren22 w1 w2 u b H1 S' P') : Ren22 w w2 u b H S' P' := by
  obtain ⟨H2, h1, h2, h3⟩ := h
  refine ⟨H2, h1, fun k e => ?_, k1.trans h3 (fun i hi e => ?_)⟩
  · rcases h2 k e with q | q
    · exact f1 k q
    · exact .inr (Nat.le_trans k1.size q)
  · rcases f1 i e with q | q
    · exact q
    · omega
end
end Go.Proofs.YtmjlpfmacblcpaaDoor

namespace Go.Proofs.YtmjlpfmacblcpaaDoor
open Go.RowKit Go.Shelf
set_option linter.unusedVariables false
set_option linter.unusedSimpArgs false
section
variable {w w' : World} {u b : Nat} {G H : Nat → Prop} {ha : Option Addr} {hc : Nat} {S S' : Fs21} {P P' : Pw22}
theorem Rw22.setO (h : Rw22 w u b ha hc P) (h0 : P.cl = 0) : Rw22 (w.setCell ⟨u, 6, none⟩ (.bool true)) u b ha hc { P with cl := 221 } := by
  refine ⟨?_, own_tr22 h.ow (fun r hr => set_other22 w _ (h.ne r hr)), h.ne, h.bd⟩
  have q := (seven_set22 h.hu (.bool true)).2.2.2
  have e1 : (if P.cl = 221 then 0 else P.cl) = 0 := by rw [h0]; rfl
  rw [e1] at q
  exact q
theorem Rh22.over (h : Rh22 w u b G H ha hc S P) (h0 : P.cl = 0) : Ren22 w (w.setCell ⟨u, 6, none⟩ (.bool true)) u b H S { P with cl := 221 } := by
  have hk : Kp H w (w.setCell ⟨u, 6, none⟩ (.bool true)) := Kp.set h.uH _
  refine ⟨H, ⟨G, ha, hc, ⟨h.fl.kp (fun k e => set_other22 w _ (fun q => h.nu (q ▸ e))) hk.size, h.wr.setO h0, h.nu, h.nh, h.gH, h.uH, h.hH, fun k e => Nat.lt_of_lt_of_le (h.lt k e) hk.size⟩⟩, fun _ e => .inl e, hk⟩
theorem Rh22.same (h : Rh22 w u b G H ha hc S P) : Ren22 w w u b H S P := ⟨H, ⟨G, ha, hc, h⟩, fun _ e => .inl e, Kp.refl _ _⟩
end
end Go.Proofs.YtmjlpfmacblcpaaDoor

namespace Go.Proofs.YtmjlpfmacblcpaaDoor
open Go.RowKit Go.Shelf
set_option linter.unusedVariables false
set_option linter.unusedSimpArgs false
theorem still_all22c {P : Program} {id : Nat} {Q : Exit → Act → World → Prop} {a : Act} {w : World} {l : List Oper} (hm : P.follows .mixedOrders = true) (hB : Region.lexB .any l.toArray = true)
    (h : wpStill P l.toArray w.drew (fun a' => Q .normal a' w.drew) l a) : (Code.region id l.toArray true).wp P Q a w := wp_region_still_lit hm hB h
theorem ops22 {w : World} {N n rc : Nat} {ra : Option Addr} {L : List (Int × Int × Int)} (h : w.ownsRow N 180 3 (.slice ra n rc) n (lgc21 L)) (hn : L.length = n) {i : Nat} (hi : i < n) :
    ∃ (g : Nat) (o : Int × Int × Int), L[i]? = some o ∧ ra = some ⟨g, 0, none⟩ ∧ g < w.heap.size ∧ w.cell? ⟨g, i * 3, none⟩ = some (.int .i64 o.1) ∧ w.cell? ⟨g, i * 3 + 1, none⟩ = some (.int .i64 o.2.1) ∧ w.cell? ⟨g, i * 3 + 2, none⟩ = some (.int .i64 o.2.2) := by
  obtain ⟨o, ho⟩ : ∃ o, L[i]? = some o := ⟨_, List.getElem?_eq_getElem (by omega)⟩
  rcases h.2 with ⟨h1, h2⟩ | ⟨g, cp, cu, h1, h2, h3, h4⟩
  · omega
  · simp only [Value.slice.injEq] at h1
    obtain ⟨rfl, -, rfl⟩ := h1
    obtain ⟨e1, e2, e3⟩ := lgc21_get L i o ho
    have hadd : ∀ j, (⟨g, 0, none⟩ : Addr).add j = ⟨g, j, none⟩ := fun j => by unfold Addr.add; split <;> simp_all
    have c1 := h.cells (g := g) rfl _ _ e1
    have c2 := h.cells (g := g) rfl _ _ e2
    have c3 := h.cells (g := g) rfl _ _ e3
    rw [hadd] at c1 c2 c3
    exact ⟨g, o, ho, rfl, (Array.getElem?_eq_some_iff.1 h3).1, c1, c2, c3⟩
end Go.Proofs.YtmjlpfmacblcpaaDoor

namespace Go.Proofs.YtmjlpfmacblcpaaDoor
open Go.RowKit Go.Shelf
set_option linter.unusedVariables false
set_option linter.unusedSimpArgs false
theorem Pn22.below {w w' : World} {v s g b N : Nat} {F : Nat → Prop} {S : Fs21} {P : Pw22} (h : Pn22 w w' v s g b F S P) (hF : ∀ k, F k → N ≤ k) (hs : N ≤ s) (hg : N ≤ g) (hN : N ≤ w.heap.size) : ∃ F', Pe22 w' v s g b F' S P ∧ (∀ k, F' k → N ≤ k) ∧ Below N w w' := by
  obtain ⟨F', h1, h2, h3⟩ := h
  refine ⟨F', h1, fun k e => ?_, h3.below (fun i e => ?_) hN⟩
  · rcases h2 k e with q | q
    · exact hF k q
    · omega
  · rcases e with e | e | e
    · exact hF i e
    · omega
    · omega
end Go.Proofs.YtmjlpfmacblcpaaDoor

namespace Go.Proofs.YtmjlpfmacblcpaaDoor
open Go.RowKit Go.Shelf
set_option linter.unusedVariables false
set_option linter.unusedSimpArgs false
theorem info_u22 : (Tryd.prog.info? 5).map (fun i => (i.zero, i.size, i.bytes)) = some (some (.int .u8 0), 1, 1) := by kernel_rfl
theorem operwp_app22 {P : Program} {o : Oper} {a : Act} {K : Act → World → Prop} {Q : Exit → Act → World → Prop} {w : World} (s x : Operand) (t : TypeId)
    (ho : o.op = Op.call { callee := Callee.builtin Builtin.append, args := #[s, x], argTypes := #[t, t] }) {u v v' : Value} {w' : World} (hs : a.eval s = u) (hx : a.eval x = v) (hr : (Builtin.append_ #[t, t] o.type #[u, v]).run P w = .ok v' w')
    (h : K (a.put o.dst v') w') : Oper.wp P o a w K Q := by
  unfold Oper.wp execOp
  simp only [ho, resolve, invoke, builtin, Sem.run_bind, Sem.run_pure, Result.andThen_ok, List.map_toArray, List.map_cons, List.map_nil, hs, hx, hr]
  exact h
section
variable {w w1 w2 wr : World} {u b g c1 k : Nat} {G H H' : Nat → Prop} {ha : Option Addr} {hc : Nat} {S S' : Fs21} {P P' : Pw22} {L : List Int} {x : Int}
theorem Rh22.push (h : Rh22 w u b G H ha hc S P) (hx : 0 ≤ x ∧ x ≤ 255) (ho : w1.ownsRow 0 5 1 (.slice (some ⟨g, 0, none⟩) (P.bf.length + 1) c1) (P.bf.length + 1) ((P.bf ++ [x]).map (Value.int .u8)))
    (hk : Kp (fun k => (Value.slice ha P.bf.length hc).ownBlock = some k) w w1) (hg : (Value.slice ha P.bf.length hc).ownBlock = some g ∨ w.heap.size ≤ g) :
    Ren22 w (w1.setCell ⟨u, 2, none⟩ (.slice (some ⟨g, 0, none⟩) (P.bf.length + 1) c1)) u b H S { P with bf := P.bf ++ [x] } := by
  have hgl : g < w1.heap.size := (ho.lt g rfl).2
  have hgu : g ≠ u := by
    rcases hg with e | e
    · exact h.wr.ne g e
    · have := h.lt u h.uH; omega
  have hgG : ¬ G g := by
    rcases hg with e | e
    · exact h.nh g e
    · intro q; have := h.fl.lts g q; omega
  have hu1 : w1.heap[u]? = w.heap[u]? := hk.block u (h.lt u h.uH) (fun e => h.wr.ne u e rfl)
  have ks : Kp (fun k => k = u) w1 (w1.setCell ⟨u, 2, none⟩ (.slice (some ⟨g, 0, none⟩) (P.bf.length + 1) c1)) := Kp.set (S := fun k => k = u) rfl _
  have hl : (P.bf ++ [x]).length = P.bf.length + 1 := by simp
  refine ⟨fun k => H k ∨ k = g, ⟨G, some ⟨g, 0, none⟩, c1, ⟨h.fl.kp (fun k e => ?_) (Nat.le_trans hk.size ks.size), ⟨?_, ?_, fun k e => ?_, ?_⟩, h.nu, fun k e => ?_, fun k e => .inl (h.gH k e), .inl h.uH, fun k e => ?_, fun k e => ?_⟩⟩, fun k e => ?_, (hk.mono (fun k _ e => h.hH k e)).trans (ks.mono (fun k _ e => by rw [e]; exact h.uH)) (fun _ _ e => e)⟩
  · rw [set_other22 _ _ (show k ≠ u from fun q => h.nu (by rw [← q]; exact e))]
    exact hk.block k (h.fl.lts k e) (fun q => h.nh k q e)
  · have := hu1.trans h.wr.hu
    show _ = some (Obj.cells #[_, _, .slice _ (P.bf ++ [x]).length c1, _, _, _, _] _ _)
    rw [hl]
    simp [World.setCell, Array.getElem?_modify, this]
  · show World.ownsRow _ 0 _ 1 (.slice _ (P.bf ++ [x]).length c1) (P.bf ++ [x]).length _
    rw [hl]
    exact own_tr22 ho (fun r hr => by simp only [Value.ownBlock, Option.some.injEq] at hr; exact set_other22 _ _ (by omega))
  · simp only [Value.ownBlock, Option.some.injEq] at e; omega
  · intro y hy
    rcases List.mem_append.1 hy with hy | hy
    · exact h.wr.bd y hy
    · simp at hy; subst hy; exact hx
  · simp only [Value.ownBlock, Option.some.injEq] at e; rw [← e]; exact hgG
  · simp only [Value.ownBlock, Option.some.injEq] at e; exact .inr e.symm
  · have hz := Nat.le_trans hk.size ks.size
    rcases e with e | e
    · exact Nat.lt_of_lt_of_le (h.lt k e) hz
    · rw [e]; exact Nat.lt_of_lt_of_le hgl ks.size
  · rcases e with e | e
    · exact .inl e
    · rcases hg with q | q
      · exact .inl (by rw [e]; exact h.hH g q)
      · exact .inr (by omega)
theorem Rh22.drew (h : Rh22 w u b G H ha hc S P) : Rh22 w.drew u b G H ha hc S P := ⟨h.fl.old ((Below.refl _ _).drew), ⟨h.wr.hu, h.wr.ow.drew, h.wr.ne, h.wr.bd⟩, h.nu, h.nh, h.gH, h.uH, h.hH, h.lt⟩
/-- What holds of Write's loop behind k bytes. -/
structure Tg22 (w wr : World) (u b : Nat) (H : Nat → Prop) (S : Fs21) (P : Pw22) (L : List Int) (k : Nat) (H' : Nat → Prop) (S' : Fs21) (P' : Pw22) : Prop where
  re : Re22 wr u b H' S' P'
  fr : ∀ x, H' x → H x ∨ w.heap.size ≤ x
  kp : Kp H w wr
  ok : Ok21 S'
  pg : S'.pg = S.pg
  tk : tk22 S P L = tk22 S' P' (L.drop k)
  lt : P'.bf.length < S'.pg
  ar : P'.ar = P.ar
  wn : P'.wn = P.wn
  cl : P'.cl = 0
  pn : P'.pn ≤ P.pn + k
  lg : S'.lg.length ≤ S.lg.length + 2 * k
theorem Tg22.join (h : Tg22 w wr u b H S P L k H' S' P') {S2 : Fs21} {P2 : Pw22} (hn : Ren22 wr w2 u b H' S2 P2) : ∃ H2, Re22 w2 u b H2 S2 P2 ∧ (∀ x, H2 x → H x ∨ w.heap.size ≤ x) ∧ Kp H w w2 := Ren22.cons h.fr h.kp hn
theorem Tg22.more (h : Tg22 w wr u b H S P L k H' S' P') (hk : L[k]? = some x) (hne : ¬ (P'.bf ++ [x]).length = S'.pg) (hn : Ren22 wr w2 u b H' S' { P' with bf := P'.bf ++ [x] }) : ∃ H2, Tg22 w w2 u b H S P L (k + 1) H2 S' { P' with bf := P'.bf ++ [x] } := by
  obtain ⟨H2, h1, h2, h3⟩ := h.join hn
  have hkl := (List.getElem?_eq_some_iff.1 hk).1
  have hd : L.drop k = x :: L.drop (k + 1) := by
    have h1 : L[k] = x := by rw [List.getElem?_eq_getElem hkl] at hk; injection hk
    rw [← h1]; exact List.drop_eq_getElem_cons hkl
  refine ⟨H2, h1, h2, h3, h.ok, h.pg, ?_, ?_, h.ar, h.wn, h.cl, Nat.le_trans h.pn (by omega), Nat.le_trans h.lg (by omega)⟩
  · rw [h.tk, hd, tk22, if_neg hne]
  · have := h.lt; simp only [List.length_append, List.length_cons, List.length_nil] at hne ⊢; omega
theorem Tg22.no (h : Tg22 w wr u b H S P L k H' S' P') (hk : L[k]? = some x) (he : (P'.bf ++ [x]).length = S'.pg) (hE : lyE22 S' { P' with bf := P'.bf ++ [x] } ≠ 0) (hn : Ren22 wr w2 u b H' (lyS22 S' { P' with bf := P'.bf ++ [x] }) (lyP22 S' { P' with bf := P'.bf ++ [x] })) :
    tkE22 S P L = lyE22 S' { P' with bf := P'.bf ++ [x] } ∧ Ren22 w w2 u b H (tkS22 S P L) (tkP22 S P L) := by
  have hkl := (List.getElem?_eq_some_iff.1 hk).1
  have hd : L.drop k = x :: L.drop (k + 1) := by
    have h1 : L[k] = x := by rw [List.getElem?_eq_getElem hkl] at hk; injection hk
    rw [← h1]; exact List.drop_eq_getElem_cons hkl
  have ht := h.tk
  rw [hd, tk22, if_pos he, if_pos hE] at ht
  unfold tkE22 tkS22 tkP22
  rw [ht]
  refine ⟨rfl, ?_⟩
  rw [if_neg hE]
  exact h.join hn
theorem Tg22.fin (h : Tg22 w wr u b H S P L L.length H' S' P') (hn : Ren22 wr w2 u b H' S' { P' with wn := P.wn + L.length }) :
    tkE22 S P L = 0 ∧ Ren22 w w2 u b H (tkS22 S P L) (tkP22 S P L) := by
  have ht := h.tk
  rw [List.drop_eq_nil_of_le (Nat.le_refl _)] at ht
  unfold tkE22 tkS22 tkP22
  rw [ht, tk22]
  refine ⟨rfl, ?_⟩
  rw [if_pos rfl]
  have e := h.join hn
  rw [← h.wn] at e
  exact e
end
end Go.Proofs.YtmjlpfmacblcpaaDoor

namespace Go.Proofs.YtmjlpfmacblcpaaDoor
open Go.RowKit Go.Shelf
set_option linter.unusedVariables false
set_option linter.unusedSimpArgs false
theorem fb21_at (S : Fs21) (x y : Int) (r : Nat) (hr : r < S.pg) : (fb21 S x y).getD r 0 = (sh21 S x y).b.getD r 255 := by
  unfold fb21
  by_cases h : r < (sh21 S x y).b.length
  · simp [List.getD, List.getElem?_append, h]
  · have h2 : r - (sh21 S x y).b.length < S.pg - (sh21 S x y).b.length := by omega
    have h3 : (sh21 S x y).b[r]? = none := List.getElem?_eq_none (by omega)
    simp [List.getD, List.getElem?_append, h, h2, h3, List.getElem?_replicate]
end Go.Proofs.YtmjlpfmacblcpaaDoor

namespace Go.Proofs.YtmjlpfmacblcpaaDoor
open Go.RowKit Go.Shelf
set_option linter.unusedVariables false
set_option linter.unusedSimpArgs false
theorem run_conv22 {P : Program} {w : World} {a : Option Addr} {zs : List Int} (n cap : Nat) (hn : zs.length = n) (h : Seg w a zs) (src e dst : TypeId) (hs : P.underlying src = some (.slice e)) (he : P.underlying e = some (.int .u8)) (hd : P.underlying dst = some .string) :
    (convert src dst (.slice a n cap)).run P w = .ok (.string (strOfNums zs)) w := by
  subst hn
  by_cases hz : 0 < zs.length
  · obtain ⟨b, off, rfl, _⟩ := h.at_ 0 hz
    refine run_convert_bytes_arg w src e hs he b off zs.length cap zs rfl (fun i hi => ?_) dst hd
    obtain ⟨b', off', hb, hc⟩ := h.at_ i hi
    cases hb
    exact hc
  · have : zs = [] := List.eq_nil_of_length_eq_zero (by omega)
    subst this
    cases a with
    | none => exact run_convert_bytes_nil w src e hs he _ _ dst hd
    | some x =>
      rw [run_convert_bytes_string w src dst e _ _ cap hs he hd]
      have hl : (loadCells x 0).run P w = .ok (([] : List Int).map (Value.int .u8)).toArray w := by simp [loadCells, loadCellsFrom]
      have := run_bytesToString (P := P) w x 0 cap [] hl
      exact this
end Go.Proofs.YtmjlpfmacblcpaaDoor

namespace Go.Proofs.YtmjlpfmacblcpaaDoor
open Go.RowKit
set_option linter.unusedVariables false
theorem run_conv_segS {P : Program} {w : World} {a : Option Addr} {zs : List Int} (cap : Nat) (h : Seg w a zs) (src e dst : TypeId) (hs : P.underlying src = some (.slice e)) (he : P.underlying e = some (.int .u8)) (hd : P.underlying dst = some .string) :
    (convert src dst (.slice a zs.length cap)).run P w = .ok (.string (strOfNums zs)) w := by
  by_cases hz : 0 < zs.length
  · obtain ⟨b, off, rfl, _⟩ := h.at_ 0 hz
    refine run_convert_bytes_arg w src e hs he b off zs.length cap zs rfl (fun i hi => ?_) dst hd
    obtain ⟨b', off', hb, hc⟩ := h.at_ i hi
    cases hb
    exact hc
  · have : zs = [] := List.eq_nil_of_length_eq_zero (by omega)
    subst this
    cases a with
    | none => exact run_convert_bytes_nil w src e hs he _ _ dst hd
    | some x =>
      rw [run_convert_bytes_string w src dst e _ _ cap hs he hd]
      have hl : (loadCells x 0).run P w = .ok (([] : List Int).map (Value.int .u8)).toArray w := by simp [loadCells, loadCellsFrom]
      have := run_bytesToString (P := P) w x 0 cap [] hl
      exact this

theorem str_injS {xs ys : List Int} (hx : ∀ z ∈ xs, 0 ≤ z ∧ z ≤ 255) (hy : ∀ z ∈ ys, 0 ≤ z ∧ z ≤ 255) : ((strOfNums xs).toList == (strOfNums ys).toList) = (xs == ys) := by
  rw [ByteArray.toList_eq, ByteArray.toList_eq, strOfNums_data, strOfNums_data]
  have key : ∀ (xs ys : List Int), (∀ z ∈ xs, 0 ≤ z ∧ z ≤ 255) → (∀ z ∈ ys, 0 ≤ z ∧ z ≤ 255) → (xs.map fun n => UInt8.ofNat n.toNat) = (ys.map fun n => UInt8.ofNat n.toNat) → xs = ys := by
    intro xs
    induction xs with
    | nil => intro ys _ _ h; cases ys with
      | nil => rfl
      | cons y r => simp at h
    | cons x r ih =>
      intro ys hx hy h
      cases ys with
      | nil => simp at h
      | cons y t =>
        simp only [List.map_cons, List.cons.injEq] at h
        have h1 := hx x (by simp)
        have h2 := hy y (by simp)
        have h3 := congrArg UInt8.toNat h.1
        simp at h3
        have h4 : x = y := by omega
        rw [h4, ih t (fun z hz => hx z (by simp [hz])) (fun z hz => hy z (by simp [hz])) h.2]
  rw [Bool.eq_iff_iff, beq_iff_eq, beq_iff_eq]
  exact ⟨key xs ys hx hy, fun h => by rw [h]⟩

set_option maxRecDepth 100000 in
theorem bsame_any (a b : Option Addr) (xs ys : List Int) (ca cb : Nat) (w : World) (hx : Seg w a xs) (hy : Seg w b ys) :
    Calls Tryd.prog 13 #[.slice a xs.length ca, .slice b ys.length cb] w fun e w' => e = .returned (.bool (xs == ys)) ∧ w' = w := by
  have h1 := run_conv_segS (P := Tryd.prog) ca hx 22 5 9 Tryd.underlying22 Tryd.underlying5 Tryd.underlying9
  have h2 := run_conv_segS (P := Tryd.prog) cb hy 22 5 9 Tryd.underlying22 Tryd.underlying5 Tryd.underlying9
  have HE : Hid (((strOfNums xs).toList == (strOfNums ys).toList) = (xs == ys)) := str_injS hx.mem hy.mem
  go_enter Tryd.func13, Tryd.ntmps13
  go_wp2
  go_ret
  exact ⟨by rw [← HE.out]; rfl, rfl⟩
end Go.Proofs.YtmjlpfmacblcpaaDoor

namespace Go.Proofs.YtmjlpfmacblcpaaDoor
open Go.RowKit Go.Shelf
set_option linter.unusedVariables false
set_option linter.unusedSimpArgs false
def bm24 (r : Rs24) : Rs24 := if tkv24 5 r.1 = mg21 then tk24 5 r else ((tk24 5 r).1, true)
def ba24 (r : Rs24) : Rs24 := nb24 64 4096 (bm24 r)
def bb24 (r : Rs24) : Rs24 := nb24 1 4096 (ba24 r)
def bc24 (r : Rs24) : Rs24 := nb24 0 1 (bb24 r)
def bd24 (r : Rs24) : Rs24 := nb24 0 1099511627776 (bc24 r)
def bs24 (r : Rs24) : Fs21 := ⟨(nbv24 64 4096 (bm24 r).1).toNat, (nbv24 1 4096 (ba24 r).1).toNat, nbv24 0 1 (bb24 r).1, true, nbv24 0 1099511627776 (bc24 r).1, fun _ _ => none, 0, [], []⟩
theorem nbv24_bd (lo hi : Int) (L : List Int) (h : lo ≤ hi) : lo ≤ nbv24 lo hi L ∧ nbv24 lo hi L ≤ hi := by
  unfold nbv24
  split
  · rename_i h1
    simp [nok24] at h1
    omega
  · omega
theorem bm24_len (r : Rs24) : (bm24 r).1.length ≤ r.1.length := by
  unfold bm24; split
  · exact tk24_len _ _
  · exact tk24_len _ _
theorem mgs24 {X : List Int} (h : ∀ z ∈ X, 0 ≤ z ∧ z ≤ 255) : ((strOfNums X).toList == [70, 76, 83, 72, 1]) = decide (X = mg21) := by
  have h1 := str_injS h (show ∀ z ∈ mg21, 0 ≤ z ∧ z ≤ 255 by decide)
  have h2 : (strOfNums mg21).toList = [70, 76, 83, 72, 1] := by rw [ByteArray.toList_eq, strOfNums_data]; rfl
  rw [h2] at h1
  rw [h1]
  by_cases e : X = mg21 <;> simp [e]
theorem cells_set24 {W : World} {b : Nat} {xs : Array Value} {t : TypeId} (h : W.heap[b]? = some (.cells xs t (0, 0))) (i : Nat) (v : Value) : (W.setCell ⟨b, i, none⟩ v).heap[b]? = some (.cells (xs.setIfInBounds i v) t (0, 0)) := by
  simp [World.setCell, Array.getElem?_modify, h]
/-- A device that is being made, behind a reader. -/
structure Bq24 (w V W : World) (p b m : Nat) (P Q A M : Int) (L : List Int) (x : Bool) : Prop where
  kp : Kp (fun k => k = p) V W
  hb : W.heap[b]? = some (.cells #[.int .i64 P, .int .i64 Q, .int .i64 A, .bool true, .int .i64 M, .map (some m), .int .i64 0, .slice none 0 0, .slice none 0 0] 96 (0, 0))
  hm : Mv21 W m 0 (fun _ _ => none)
  vm : V.heap.size ≤ m
  bm : b = m + 1
  pv : p < V.heap.size
  wv : w.heap.size ≤ V.heap.size
  rm : Rm24 w W p L x
section
variable {w V W W' : World} {p b m : Nat} {P Q A M : Int} {L L' : List Int} {x x' : Bool}
theorem Bq24.num (h : Bq24 w V W p b m P Q A M L x) (k : Kp (fun k => k = p) W W') (r : Rm24 w W' p L' x') : Bq24 w V W' p b m P Q A M L' x' := by
  have h4 := h.vm; have h5 := h.bm; have h6 := h.pv
  have hb := (Array.getElem?_eq_some_iff.1 h.hb).1
  exact ⟨h.kp.trans k (fun _ _ e => e), k.heap h.hb (by show ¬ b = p; omega), h.hm.block (k.block m h.hm.lt (by show ¬ m = p; omega)), h4, h5, h6, h.wv, r⟩
theorem Bq24.set (h : Bq24 w V W p b m P Q A M L x) (i : Nat) (v : Value) (P' Q' A' M' : Int) (e : (#[.int .i64 P, .int .i64 Q, .int .i64 A, .bool true, .int .i64 M, .map (some m), .int .i64 0, .slice none 0 0, .slice none 0 0] : Array Value).setIfInBounds i v = #[.int .i64 P', .int .i64 Q', .int .i64 A', .bool true, .int .i64 M', .map (some m), .int .i64 0, .slice none 0 0, .slice none 0 0]) : Bq24 w V (W.setCell ⟨b, i, none⟩ v) p b m P' Q' A' M' L x := by
  have h4 := h.vm; have h5 := h.bm; have h6 := h.pv; have h7 := h.wv
  have k : Kp (fun k => k = b) W (W.setCell ⟨b, i, none⟩ v) := Kp.set (S := fun k => k = b) rfl _
  refine ⟨h.kp.trans k (fun j hj e => by have : j = b := e; omega), by rw [cells_set24 h.hb, e], h.hm.block (k.block m h.hm.lt (by show ¬ m = b; omega)), h4, h5, h6, h7, h.rm.kp k (fun j e => by show w.heap.size ≤ j; have : j = b := e; omega) (by show ¬ p = b; omega)⟩
theorem Bq24.cel (h : Bq24 w V W p b m P Q A M L x) {i : Nat} {v : Value} (hi : (#[.int .i64 P, .int .i64 Q, .int .i64 A, .bool true, .int .i64 M, .map (some m), .int .i64 0, .slice none 0 0, .slice none 0 0] : Array Value)[i]? = some v) : W.cell? ⟨b, i, none⟩ = some v := by
  simp only [World.cell?, h.hb]; exact hi
theorem Bq24.fr (h : Bq24 w V W p b m P Q A M L x) (i : Nat) : W.frozen? ⟨b, i, none⟩ = false := by simp [World.frozen?, h.hb]
theorem Bq24.mk0 (r : Rm24 w W p L x) (k : Kp (fun k => k = p) V W) (pv : p < V.heap.size) : Bq24 w V ((W.alloc (.map #[] 0)).alloc (.cells #[.int .i64 0, .int .i64 0, .int .i64 0, .bool true, .int .i64 0, .map (some W.heap.size), .int .i64 0, .slice none 0 0, .slice none 0 0] 96)) p (W.heap.size + 1) W.heap.size 0 0 0 0 L x := by
  have hk : Kp (fun _ => False) W ((W.alloc (.map #[] 0)).alloc (.cells #[.int .i64 0, .int .i64 0, .int .i64 0, .bool true, .int .i64 0, .map (some W.heap.size), .int .i64 0, .slice none 0 0, .slice none 0 0] 96)) := (Kp.alloc _ _).trans (Kp.alloc _ _) (fun _ _ e => e)
  refine ⟨k.trans hk (fun _ _ e => e.elim), heap_alloc2_new W _ _, (Mv21.made W).block (heap_alloc_old _ _ (by simp)), k.size, rfl, pv, by have := r.ge; omega, r.kp hk (fun _ e => e.elim) (fun e => e)⟩
theorem Bq24.fin (h : Bq24 w V W p b m P Q A M L x) (h1 : 0 ≤ P) (h2 : 0 ≤ Q) : Fi21 W b m 0 (fun _ _ => none) none 0 none 0 (fun _ => False) ⟨P.toNat, Q.toNat, A, true, M, fun _ _ => none, 0, [], []⟩ := by
  refine ⟨?_, h.hm, fun x y => .inl ⟨rfl, rfl⟩, ⟨SegK.nil (by decide) _ _, .inl rfl, fun _ => rfl, by simp⟩, World.ownsRow_nil _ _ _ _, by simp, fun e => e, fun e => e, fun _ _ e => e, fun _ e => e.elim⟩
  rw [h.hb, Int.toNat_of_nonneg h1, Int.toNat_of_nonneg h2]
  rfl
end
section
variable {w V : World} {p : Nat} {L : List Int} {x : Bool}
theorem pnumg24 (h : Rm24 w V p L x) (hL : L.length ≤ 140737488351232) :
    Calls Tryd.prog 85 #[.pointer (some ⟨p, 0, none⟩), .int .i64 64, .int .i64 4096] V fun e V' => e = .returned (.int .i64 (nbv24 64 4096 L)) ∧ Rm24 w V' p (nb24 64 4096 (L, x)).1 (nb24 64 4096 (L, x)).2 ∧ Kp (fun k => k = p) V V' :=
  pnumber24 h 64 4096 (by decide) (by decide) hL
theorem pnums24 (h : Rm24 w V p L x) (hL : L.length ≤ 140737488351232) :
    Calls Tryd.prog 85 #[.pointer (some ⟨p, 0, none⟩), .int .i64 1, .int .i64 4096] V fun e V' => e = .returned (.int .i64 (nbv24 1 4096 L)) ∧ Rm24 w V' p (nb24 1 4096 (L, x)).1 (nb24 1 4096 (L, x)).2 ∧ Kp (fun k => k = p) V V' :=
  pnumber24 h 1 4096 (by decide) (by decide) hL
theorem ptk5_24 (h : Rm24 w V p L x) (hL : L.length ≤ 140737488351232) :
    Calls Tryd.prog 84 #[.pointer (some ⟨p, 0, none⟩), .int .i64 5] V fun e V' => (∃ a k, e = .returned (.slice a (tkv24 5 L).length k) ∧ Seg w a (tkv24 5 L) ∧ (tkv24 5 L).length ≤ k ∧ (a = none → k = 0)) ∧ Rm24 w V' p (tk24 5 (L, x)).1 (tk24 5 (L, x)).2 ∧ Kp (fun k => k = p) V V' :=
  ptake24 h 5 (by decide) (by omega)
set_option maxRecDepth 100000 in
set_option maxHeartbeats 8000000 in
theorem pbare24 (h : Rm24 w V p L x) (hL : L.length ≤ 140737488351232) :
    Calls Tryd.prog 39 #[.pointer (some ⟨p, 0, none⟩)] V fun e V' => ∃ b m, e = .returned (.pointer (some ⟨b, 0, none⟩)) ∧ Fi21 V' b m 0 (fun _ _ => none) none 0 none 0 (fun _ => False) (bs24 (L, x)) ∧ V.heap.size ≤ b ∧ V.heap.size ≤ m ∧ Rm24 w V' p (bd24 (L, x)).1 (bd24 (L, x)).2 ∧ Kp (fun k => k = p) V V' := by
  have HT := ptk5_24 h hL
  have hplt := h.lt
  have HL : Hid (L.length ≤ 140737488351232 ∧ (bm24 (L, x)).1.length ≤ 140737488351232 ∧ (ba24 (L, x)).1.length ≤ 140737488351232 ∧ (bb24 (L, x)).1.length ≤ 140737488351232 ∧ (bc24 (L, x)).1.length ≤ 140737488351232) := by
    have h1 := Nat.le_trans (bm24_len (L, x)) hL
    have h2 : (ba24 (L, x)).1.length ≤ _ := Nat.le_trans (nb24_len _ _ _) h1
    have h3 : (bb24 (L, x)).1.length ≤ _ := Nat.le_trans (nb24_len _ _ _) h2
    have h4 : (bc24 (L, x)).1.length ≤ _ := Nat.le_trans (nb24_len _ _ _) h3
    exact ⟨hL, h1, h2, h3, h4⟩
  clear h
  go_enter Tryd.func39, Tryd.ntmps39
  go_wp2_with fail
  refine HT.mono ?_
  rintro e V1 ⟨⟨a, k, rfl, hs, hk, hz⟩, r1, k1⟩
  have hc := run_conv22 (P := Tryd.prog) (w := V1) _ k rfl (hs.old r1.bl) 22 5 9 Tryd.underlying22 Tryd.underlying5 Tryd.underlying9
  have hmg := mgs24 hs.mem
  by_cases hB : tkv24 5 L = mg21
  · rw [decide_eq_true hB] at hmg
    have r2 : Rm24 w V1 p (bm24 (L, x)).1 (bm24 (L, x)).2 := by unfold bm24; rw [if_pos (by exact hB)]; exact r1
    clear hs hk hz r1
    obtain ⟨m, hm⟩ : ∃ m, m = V1.heap.size := ⟨_, rfl⟩
    have Q0 := Bq24.mk0 r2 k1 hplt
    rw [← hm] at Q0
    obtain ⟨X0, hX0⟩ : ∃ X0, X0 = ((V1.alloc (.map #[] 0)).alloc (.cells #[.int .i64 0, .int .i64 0, .int .i64 0, .bool true, .int .i64 0, .map (some m), .int .i64 0, .slice none 0 0, .slice none 0 0] 96)) := ⟨_, rfl⟩
    have HX0 : Hid (((V1.alloc (.map #[] 0)).alloc (.cells #[.int .i64 0, .int .i64 0, .int .i64 0, .bool true, .int .i64 0, .map (some m), .int .i64 0, .slice none 0 0, .slice none 0 0] 96)) = X0 ∧ V1.heap.size = m) := ⟨hX0.symm, hm.symm⟩
    rw [← hX0] at Q0
    obtain ⟨b, hb⟩ : ∃ b, b = m + 1 := ⟨_, rfl⟩
    rw [← hb] at Q0
    have HB : Hid (m + 1 = b) := hb.symm
    have HN := pnumg24 Q0.rm HL.out.2.1
    obtain ⟨P, hP⟩ : ∃ P, P = nbv24 64 4096 (bm24 (L, x)).1 := ⟨_, rfl⟩
    obtain ⟨Q, hQ⟩ : ∃ Q, Q = nbv24 1 4096 (ba24 (L, x)).1 := ⟨_, rfl⟩
    obtain ⟨A, hA⟩ : ∃ A, A = nbv24 0 1 (bb24 (L, x)).1 := ⟨_, rfl⟩
    obtain ⟨M, hM⟩ : ∃ M, M = nbv24 0 1099511627776 (bc24 (L, x)).1 := ⟨_, rfl⟩
    rw [← hP] at HN
    have HV : Hid (P = nbv24 64 4096 (bm24 (L, x)).1 ∧ Q = nbv24 1 4096 (ba24 (L, x)).1 ∧ A = nbv24 0 1 (bb24 (L, x)).1 ∧ M = nbv24 0 1099511627776 (bc24 (L, x)).1) := ⟨hP, hQ, hA, hM⟩
    have HQ0 : Hid (Bq24 w V X0 p b m 0 0 0 0 (bm24 (L, x)).1 (bm24 (L, x)).2) := Q0
    have hmm := @run_makeMap Tryd.prog
    clear hm hX0 hb hP hQ hA hM Q0 r2 k1 hplt hB HT
    go_wp2_with fail
    (try rw [HX0.out.2])
    (try rw [HX0.out.1])
    (try rw [HB.out])
    refine HN.mono ?_
    clear hmm HN
    rintro e Y1 ⟨rfl, r1, k1⟩
    have q1 := HQ0.out.num k1 r1
    have c1 := q1.cel (i := 0) rfl
    have f1 := q1.fr 0
    obtain ⟨X1, hX1⟩ : ∃ X1, X1 = Y1.setCell ⟨b, 0, none⟩ (.int .i64 P) := ⟨_, rfl⟩
    have HX1 : Hid (Y1.setCell ⟨b, 0, none⟩ (.int .i64 P) = X1) := hX1.symm
    have Q1 := q1.set 0 (.int .i64 P) P 0 0 0 rfl
    rw [← hX1] at Q1
    have HQ1 : Hid (Bq24 w V X1 p b m P 0 0 0 (ba24 (L, x)).1 (ba24 (L, x)).2) := Q1
    have HN := pnums24 HQ1.out.rm HL.out.2.2.1
    rw [show nbv24 _ _ _ = Q from HV.out.2.1.symm] at HN
    clear hX1 q1 Q1 r1 k1 HQ0
    go_wp2_with fail
    rw [HX1.out]
    refine HN.mono ?_
    clear HN c1 f1
    rintro e Y2 ⟨rfl, r2, k2⟩
    have q2 := HQ1.out.num k2 r2
    have c2 := q2.cel (i := 1) rfl
    have f2 := q2.fr 1
    obtain ⟨X2, hX2⟩ : ∃ X2, X2 = Y2.setCell ⟨b, 1, none⟩ (.int .i64 Q) := ⟨_, rfl⟩
    have HX2 : Hid (Y2.setCell ⟨b, 1, none⟩ (.int .i64 Q) = X2) := hX2.symm
    have Q2 := q2.set 1 (.int .i64 Q) P Q 0 0 rfl
    rw [← hX2] at Q2
    have HQ2 : Hid (Bq24 w V X2 p b m P Q 0 0 (bb24 (L, x)).1 (bb24 (L, x)).2) := Q2
    have HN := pnumb24 HQ2.out.rm HL.out.2.2.2.1
    rw [show nbv24 _ _ _ = A from HV.out.2.2.1.symm] at HN
    clear hX2 q2 Q2 r2 k2 HQ1
    go_wp2_with fail
    rw [HX2.out]
    refine HN.mono ?_
    clear HN c2 f2
    rintro e Y3 ⟨rfl, r3, k3⟩
    have q3 := HQ2.out.num k3 r3
    have c3 := q3.cel (i := 2) rfl
    have f3 := q3.fr 2
    obtain ⟨X3, hX3⟩ : ∃ X3, X3 = Y3.setCell ⟨b, 2, none⟩ (.int .i64 A) := ⟨_, rfl⟩
    have HX3 : Hid (Y3.setCell ⟨b, 2, none⟩ (.int .i64 A) = X3) := hX3.symm
    have Q3 := q3.set 2 (.int .i64 A) P Q A 0 rfl
    rw [← hX3] at Q3
    have HQ3 : Hid (Bq24 w V X3 p b m P Q A 0 (bc24 (L, x)).1 (bc24 (L, x)).2) := Q3
    have HN := pnumw24 HQ3.out.rm HL.out.2.2.2.2
    rw [show nbv24 _ _ _ = M from HV.out.2.2.2.symm] at HN
    clear hX3 q3 Q3 r3 k3 HQ2
    go_wp2_with fail
    rw [HX3.out]
    refine HN.mono ?_
    clear HN c3 f3
    rintro e Y4 ⟨rfl, r4, k4⟩
    have q4 := HQ3.out.num k4 r4
    have c4 := q4.cel (i := 4) rfl
    have f4 := q4.fr 4
    obtain ⟨X4, hX4⟩ : ∃ X4, X4 = Y4.setCell ⟨b, 4, none⟩ (.int .i64 M) := ⟨_, rfl⟩
    have HX4 : Hid (Y4.setCell ⟨b, 4, none⟩ (.int .i64 M) = X4) := hX4.symm
    have Q4 := q4.set 4 (.int .i64 M) P Q A M rfl
    rw [← hX4] at Q4
    have HQ4 : Hid (Bq24 w V X4 p b m P Q A M (bd24 (L, x)).1 (bd24 (L, x)).2) := Q4
    clear hX4 q4 Q4 r4 k4 HQ3
    go_wp2_with fail
    rw [HX4.out]
    go_ret
    obtain ⟨v1, v2, v3, v4⟩ := HV.out
    have g1 := nbv24_bd 64 4096 (bm24 (L, x)).1 (by omega)
    have g2 := nbv24_bd 1 4096 (ba24 (L, x)).1 (by omega)
    refine ⟨b, m, rfl, ?_, by have := HQ4.out.vm; have := HQ4.out.bm; omega, HQ4.out.vm, HQ4.out.rm, HQ4.out.kp⟩
    have := HQ4.out.fin (by omega) (by omega)
    unfold bs24
    rw [← v1, ← v2, ← v3, ← v4]
    exact this
  · rw [decide_eq_false hB] at hmg
    obtain ⟨r0, k0⟩ := r1.wrong
    obtain ⟨n1, n2, n3, n4⟩ : ∃ a' n' k', V1.heap[p]? = some (.cells #[.slice a' n' k', .bool (tk24 5 (L, x)).2] 85 (0, 0)) := by
      obtain ⟨_, _, a', n', k', h3, _⟩ := r1
      exact ⟨a', n', k', h3⟩
    have c0 := two_cell1 n4
    have f0 := two_free n4 1
    obtain ⟨V2, hV2⟩ : ∃ V2, V2 = V1.setCell ⟨p, 1, none⟩ (.bool true) := ⟨_, rfl⟩
    have HV2 : Hid (V1.setCell ⟨p, 1, none⟩ (.bool true) = V2) := hV2.symm
    rw [← hV2] at r0 k0
    have r2 : Rm24 w V2 p (bm24 (L, x)).1 (bm24 (L, x)).2 := by unfold bm24; rw [if_neg (by exact hB)]; exact r0
    have k2 : Kp (fun k => k = p) V V2 := k1.trans k0 (fun _ _ e => e)
    have hV2' : V2.heap.size = V1.heap.size := by rw [hV2]; simp
    clear hs hk hz r1 r0 k0 k1 hV2 n4
    obtain ⟨m, hm⟩ : ∃ m, m = V2.heap.size := ⟨_, rfl⟩
    have Q0 := Bq24.mk0 r2 k2 hplt
    rw [← hm] at Q0
    obtain ⟨X0, hX0⟩ : ∃ X0, X0 = ((V2.alloc (.map #[] 0)).alloc (.cells #[.int .i64 0, .int .i64 0, .int .i64 0, .bool true, .int .i64 0, .map (some m), .int .i64 0, .slice none 0 0, .slice none 0 0] 96)) := ⟨_, rfl⟩
    have HSZ : Hid (V1.heap.size = m) := by show _ = _; rw [hm, hV2']
    have HX0 : Hid (((V2.alloc (.map #[] 0)).alloc (.cells #[.int .i64 0, .int .i64 0, .int .i64 0, .bool true, .int .i64 0, .map (some m), .int .i64 0, .slice none 0 0, .slice none 0 0] 96)) = X0 ∧ V2.heap.size = m) := ⟨hX0.symm, hm.symm⟩
    rw [← hX0] at Q0
    obtain ⟨b, hb⟩ : ∃ b, b = m + 1 := ⟨_, rfl⟩
    rw [← hb] at Q0
    have HB : Hid (m + 1 = b) := hb.symm
    have HN := pnumg24 Q0.rm HL.out.2.1
    obtain ⟨P, hP⟩ : ∃ P, P = nbv24 64 4096 (bm24 (L, x)).1 := ⟨_, rfl⟩
    obtain ⟨Q, hQ⟩ : ∃ Q, Q = nbv24 1 4096 (ba24 (L, x)).1 := ⟨_, rfl⟩
    obtain ⟨A, hA⟩ : ∃ A, A = nbv24 0 1 (bb24 (L, x)).1 := ⟨_, rfl⟩
    obtain ⟨M, hM⟩ : ∃ M, M = nbv24 0 1099511627776 (bc24 (L, x)).1 := ⟨_, rfl⟩
    rw [← hP] at HN
    have HV : Hid (P = nbv24 64 4096 (bm24 (L, x)).1 ∧ Q = nbv24 1 4096 (ba24 (L, x)).1 ∧ A = nbv24 0 1 (bb24 (L, x)).1 ∧ M = nbv24 0 1099511627776 (bc24 (L, x)).1) := ⟨hP, hQ, hA, hM⟩
    have HQ0 : Hid (Bq24 w V X0 p b m 0 0 0 0 (bm24 (L, x)).1 (bm24 (L, x)).2) := Q0
    have hmm := @run_makeMap Tryd.prog
    clear hV2' hm hX0 hb hP hQ hA hM Q0 r2 k2 hplt hB HT
    go_wp2_with fail
    (try rw [HV2.out])
    (try rw [HSZ.out])
    (try rw [HX0.out.2])
    (try rw [HX0.out.1])
    (try rw [HB.out])
    refine HN.mono ?_
    clear hmm HN
    rintro e Y1 ⟨rfl, r1, k1⟩
    have q1 := HQ0.out.num k1 r1
    have c1 := q1.cel (i := 0) rfl
    have f1 := q1.fr 0
    obtain ⟨X1, hX1⟩ : ∃ X1, X1 = Y1.setCell ⟨b, 0, none⟩ (.int .i64 P) := ⟨_, rfl⟩
    have HX1 : Hid (Y1.setCell ⟨b, 0, none⟩ (.int .i64 P) = X1) := hX1.symm
    have Q1 := q1.set 0 (.int .i64 P) P 0 0 0 rfl
    rw [← hX1] at Q1
    have HQ1 : Hid (Bq24 w V X1 p b m P 0 0 0 (ba24 (L, x)).1 (ba24 (L, x)).2) := Q1
    have HN := pnums24 HQ1.out.rm HL.out.2.2.1
    rw [show nbv24 _ _ _ = Q from HV.out.2.1.symm] at HN
    clear hX1 q1 Q1 r1 k1 HQ0
    go_wp2_with fail
    rw [HX1.out]
    refine HN.mono ?_
    clear HN c1 f1
    rintro e Y2 ⟨rfl, r2, k2⟩
    have q2 := HQ1.out.num k2 r2
    have c2 := q2.cel (i := 1) rfl
    have f2 := q2.fr 1
    obtain ⟨X2, hX2⟩ : ∃ X2, X2 = Y2.setCell ⟨b, 1, none⟩ (.int .i64 Q) := ⟨_, rfl⟩
    have HX2 : Hid (Y2.setCell ⟨b, 1, none⟩ (.int .i64 Q) = X2) := hX2.symm
    have Q2 := q2.set 1 (.int .i64 Q) P Q 0 0 rfl
    rw [← hX2] at Q2
    have HQ2 : Hid (Bq24 w V X2 p b m P Q 0 0 (bb24 (L, x)).1 (bb24 (L, x)).2) := Q2
    have HN := pnumb24 HQ2.out.rm HL.out.2.2.2.1
    rw [show nbv24 _ _ _ = A from HV.out.2.2.1.symm] at HN
    clear hX2 q2 Q2 r2 k2 HQ1
    go_wp2_with fail
    rw [HX2.out]
    refine HN.mono ?_
    clear HN c2 f2
    rintro e Y3 ⟨rfl, r3, k3⟩
    have q3 := HQ2.out.num k3 r3
    have c3 := q3.cel (i := 2) rfl
    have f3 := q3.fr 2
    obtain ⟨X3, hX3⟩ : ∃ X3, X3 = Y3.setCell ⟨b, 2, none⟩ (.int .i64 A) := ⟨_, rfl⟩
    have HX3 : Hid (Y3.setCell ⟨b, 2, none⟩ (.int .i64 A) = X3) := hX3.symm
    have Q3 := q3.set 2 (.int .i64 A) P Q A 0 rfl
    rw [← hX3] at Q3
    have HQ3 : Hid (Bq24 w V X3 p b m P Q A 0 (bc24 (L, x)).1 (bc24 (L, x)).2) := Q3
    have HN := pnumw24 HQ3.out.rm HL.out.2.2.2.2
    rw [show nbv24 _ _ _ = M from HV.out.2.2.2.symm] at HN
    clear hX3 q3 Q3 r3 k3 HQ2
    go_wp2_with fail
    rw [HX3.out]
    refine HN.mono ?_
    clear HN c3 f3
    rintro e Y4 ⟨rfl, r4, k4⟩
    have q4 := HQ3.out.num k4 r4
    have c4 := q4.cel (i := 4) rfl
    have f4 := q4.fr 4
    obtain ⟨X4, hX4⟩ : ∃ X4, X4 = Y4.setCell ⟨b, 4, none⟩ (.int .i64 M) := ⟨_, rfl⟩
    have HX4 : Hid (Y4.setCell ⟨b, 4, none⟩ (.int .i64 M) = X4) := hX4.symm
    have Q4 := q4.set 4 (.int .i64 M) P Q A M rfl
    rw [← hX4] at Q4
    have HQ4 : Hid (Bq24 w V X4 p b m P Q A M (bd24 (L, x)).1 (bd24 (L, x)).2) := Q4
    clear hX4 q4 Q4 r4 k4 HQ3
    go_wp2_with fail
    rw [HX4.out]
    go_ret
    obtain ⟨v1, v2, v3, v4⟩ := HV.out
    have g1 := nbv24_bd 64 4096 (bm24 (L, x)).1 (by omega)
    have g2 := nbv24_bd 1 4096 (ba24 (L, x)).1 (by omega)
    refine ⟨b, m, rfl, ?_, by have := HQ4.out.vm; have := HQ4.out.bm; omega, HQ4.out.vm, HQ4.out.rm, HQ4.out.kp⟩
    have := HQ4.out.fin (by omega) (by omega)
    unfold bs24
    rw [← v1, ← v2, ← v3, ← v4]
    exact this
end
end Go.Proofs.YtmjlpfmacblcpaaDoor
