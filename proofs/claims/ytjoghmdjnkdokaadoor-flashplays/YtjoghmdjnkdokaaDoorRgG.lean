
import Derived.Test.YtjoghmdjnkdokaaDoorRgE
import Derived.Test.YtjoghmdjnkdokaaDoorPgS
import Derived.Test.YtjoghmdjnkdokaaDoorPgG
import Derived.Test.YtjoghmdjnkdokaaDoorEdK
namespace Go.Proofs.YtjoghmdjnkdokaaDoor
open Go.RowKit Go.Shelf
set_option linter.unusedVariables false
set_option linter.unusedSimpArgs false

/-! The document's page writer: Write. -/
theorem info_u22 : (Tryd.prog.info? 5).map (fun i => (i.zero, i.size, i.bytes)) = some (some (.int .u8 0), 1, 1) := by kernel_rfl
theorem operwp_app22 {P : Program} {o : Oper} {a : Act} {K : Act → World → Prop} {Q : Exit → Act → World → Prop} {w : World} (s x : Operand) (t : TypeId)
    (ho : o.op = Op.call { callee := Callee.builtin Builtin.append, args := #[s, x], argTypes := #[t, t] }) {u v v' : Value} {w' : World} (hs : a.eval s = u) (hx : a.eval x = v) (hr : (Builtin.append_ #[t, t] o.type #[u, v]).run P w = .ok v' w')
    (h : K (a.put o.dst v') w') : Oper.wp P o a w K Q := by
  unfold Oper.wp execOp
  simp only [ho, resolve, invoke, builtin, Sem.run_bind, Sem.run_pure, Result.andThen_ok, List.map_toArray, List.map_cons, List.map_nil, hs, hx, hr]
  exact h
section
variable {w w1 w2 wr : World} {u b g c1 k : Nat} {G H H' : Nat → Prop} {ha : Option Addr} {hc : Nat} {S S' : Fs21} {P P' : Pw22} {L : List Int} {x : Int}
theorem Rh22.push (h : Rh22 w u b G H ha hc S P) (hx : 0 ≤ x ∧ x ≤ 255) (ho : w1.ownsRow 0 5 1 (.slice (some ⟨g, 0, none⟩) (P.bf.length + 1) c1) (P.bf.length + 1) ((P.bf ++ [x]).map (Value.int .u8)))
    (hk : Kp (fun k => (Value.slice ha P.bf.length hc).ownBlock = some k) w w1) (hg : (Value.slice ha P.bf.length hc).ownBlock = some g ∨ w.heap.size ≤ g) :
    Ren22 w (w1.setCell ⟨u, 2, none⟩ (.slice (some ⟨g, 0, none⟩) (P.bf.length + 1) c1)) u b H S { P with bf := P.bf ++ [x] } := by
  have hgl : g < w1.heap.size := (ho.lt g rfl).2
  have hgu : g ≠ u := by
    rcases hg with e | e
    · exact h.wr.ne g e
    · have := h.lt u h.uH; omega
  have hgG : ¬ G g := by
    rcases hg with e | e
    · exact h.nh g e
    · intro q; have := h.fl.lts g q; omega
  have hu1 : w1.heap[u]? = w.heap[u]? := hk.block u (h.lt u h.uH) (fun e => h.wr.ne u e rfl)
  have ks : Kp (fun k => k = u) w1 (w1.setCell ⟨u, 2, none⟩ (.slice (some ⟨g, 0, none⟩) (P.bf.length + 1) c1)) := Kp.set (S := fun k => k = u) rfl _
  have hl : (P.bf ++ [x]).length = P.bf.length + 1 := by simp
  refine ⟨fun k => H k ∨ k = g, ⟨G, some ⟨g, 0, none⟩, c1, ⟨h.fl.kp (fun k e => ?_) (Nat.le_trans hk.size ks.size), ⟨?_, ?_, fun k e => ?_, ?_⟩, h.nu, fun k e => ?_, fun k e => .inl (h.gH k e), .inl h.uH, fun k e => ?_, fun k e => ?_⟩⟩, fun k e => ?_, (hk.mono (fun k _ e => h.hH k e)).trans (ks.mono (fun k _ e => by rw [e]; exact h.uH)) (fun _ _ e => e)⟩
  · rw [set_other22 _ _ (show k ≠ u from fun q => h.nu (by rw [← q]; exact e))]
    exact hk.block k (h.fl.lts k e) (fun q => h.nh k q e)
  · have := hu1.trans h.wr.hu
    show _ = some (Obj.cells #[_, _, .slice _ (P.bf ++ [x]).length c1, _, _, _, _] _ _)
    rw [hl]
    simp [World.setCell, Array.getElem?_modify, this]
  · show World.ownsRow _ 0 _ 1 (.slice _ (P.bf ++ [x]).length c1) (P.bf ++ [x]).length _
    rw [hl]
    exact own_tr22 ho (fun r hr => by simp only [Value.ownBlock, Option.some.injEq] at hr; exact set_other22 _ _ (by omega))
  · simp only [Value.ownBlock, Option.some.injEq] at e; omega
  · intro y hy
    rcases List.mem_append.1 hy with hy | hy
    · exact h.wr.bd y hy
    · simp at hy; subst hy; exact hx
  · simp only [Value.ownBlock, Option.some.injEq] at e; rw [← e]; exact hgG
  · simp only [Value.ownBlock, Option.some.injEq] at e; exact .inr e.symm
  · have hz := Nat.le_trans hk.size ks.size
    rcases e with e | e
    · exact Nat.lt_of_lt_of_le (h.lt k e) hz
    · rw [e]; exact Nat.lt_of_lt_of_le hgl ks.size
  · rcases e with e | e
    · exact .inl e
    · rcases hg with q | q
      · exact .inl (by rw [e]; exact h.hH g q)
      · exact .inr (by omega)
theorem Rh22.drew (h : Rh22 w u b G H ha hc S P) : Rh22 w.drew u b G H ha hc S P := ⟨h.fl.old ((Below.refl _ _).drew), ⟨h.wr.hu, h.wr.ow.drew, h.wr.ne, h.wr.bd⟩, h.nu, h.nh, h.gH, h.uH, h.hH, h.lt⟩
theorem Rh22.wrote (h : Rh22 w u b G H ha hc S P) (n : Nat) : Ren22 w (w.setCell ⟨u, 3, none⟩ (.int .i64 (n : Int))) u b H S { P with wn := n } := by
  have hk : Kp H w (w.setCell ⟨u, 3, none⟩ (.int .i64 (n : Int))) := Kp.set h.uH _
  exact ⟨H, ⟨G, ha, hc, ⟨h.fl.kp (fun k e => set_other22 w _ (fun q => h.nu (q ▸ e))) hk.size, ⟨(seven_set22 h.wr.hu _).1, own_tr22 h.wr.ow (fun r hr => set_other22 w _ (h.wr.ne r hr)), h.wr.ne, h.wr.bd⟩, h.nu, h.nh, h.gH, h.uH, h.hH, fun k e => Nat.lt_of_lt_of_le (h.lt k e) hk.size⟩⟩, fun _ e => .inl e, hk⟩
/-- What holds of Write's loop behind k bytes. -/
structure Tg22 (w wr : World) (u b : Nat) (H : Nat → Prop) (S : Fs21) (P : Pw22) (L : List Int) (k : Nat) (H' : Nat → Prop) (S' : Fs21) (P' : Pw22) : Prop where
  re : Re22 wr u b H' S' P'
  fr : ∀ x, H' x → H x ∨ w.heap.size ≤ x
  kp : Kp H w wr
  ok : Ok21 S'
  pg : S'.pg = S.pg
  tk : tk22 S P L = tk22 S' P' (L.drop k)
  lt : P'.bf.length < S'.pg
  ar : P'.ar = P.ar
  wn : P'.wn = P.wn
  cl : P'.cl = 0
  pn : P'.pn ≤ P.pn + k
  lg : S'.lg.length ≤ S.lg.length + 2 * k
theorem Tg22.join (h : Tg22 w wr u b H S P L k H' S' P') {S2 : Fs21} {P2 : Pw22} (hn : Ren22 wr w2 u b H' S2 P2) : ∃ H2, Re22 w2 u b H2 S2 P2 ∧ (∀ x, H2 x → H x ∨ w.heap.size ≤ x) ∧ Kp H w w2 := Ren22.cons h.fr h.kp hn
theorem Tg22.more (h : Tg22 w wr u b H S P L k H' S' P') (hk : L[k]? = some x) (hne : ¬ (P'.bf ++ [x]).length = S'.pg) (hn : Ren22 wr w2 u b H' S' { P' with bf := P'.bf ++ [x] }) : ∃ H2, Tg22 w w2 u b H S P L (k + 1) H2 S' { P' with bf := P'.bf ++ [x] } := by
  obtain ⟨H2, h1, h2, h3⟩ := h.join hn
  have hkl := (List.getElem?_eq_some_iff.1 hk).1
  have hd : L.drop k = x :: L.drop (k + 1) := by
    have h1 : L[k] = x := by rw [List.getElem?_eq_getElem hkl] at hk; injection hk
    rw [← h1]; exact List.drop_eq_getElem_cons hkl
  refine ⟨H2, h1, h2, h3, h.ok, h.pg, ?_, ?_, h.ar, h.wn, h.cl, Nat.le_trans h.pn (by omega), Nat.le_trans h.lg (by omega)⟩
  · rw [h.tk, hd, tk22, if_neg hne]
  · have := h.lt; simp only [List.length_append, List.length_cons, List.length_nil] at hne ⊢; omega
theorem Tg22.full (h : Tg22 w wr u b H S P L k H' S' P') (hk : L[k]? = some x) (he : (P'.bf ++ [x]).length = S'.pg) (hE : lyE22 S' { P' with bf := P'.bf ++ [x] } = 0) (hn : Ren22 wr w2 u b H' (lyS22 S' { P' with bf := P'.bf ++ [x] }) (lyP22 S' { P' with bf := P'.bf ++ [x] })) :
    ∃ H2, Tg22 w w2 u b H S P L (k + 1) H2 (lyS22 S' { P' with bf := P'.bf ++ [x] }) (lyP22 S' { P' with bf := P'.bf ++ [x] }) := by
  obtain ⟨H2, h1, h2, h3⟩ := h.join hn
  have hkl := (List.getElem?_eq_some_iff.1 hk).1
  have hd : L.drop k = x :: L.drop (k + 1) := by
    have h1 : L[k] = x := by rw [List.getElem?_eq_getElem hkl] at hk; injection hk
    rw [← h1]; exact List.drop_eq_getElem_cons hkl
  have hy := lyS22_pg S' { P' with bf := P'.bf ++ [x] }
  have hP : lyP22 S' { P' with bf := P'.bf ++ [x] } = { P' with pn := P'.pn + 1, bf := [] } := by
    unfold lyP22; rw [if_neg (by rw [hE]; simp)]
  have hpg := h.ok.pg
  refine ⟨H2, h1, h2, h3, ok22_ly h.ok _, hy.1.trans h.pg, ?_, ?_, ?_, ?_, ?_, ?_, ?_⟩
  · rw [h.tk, hd, tk22, if_pos he, if_neg (by rw [hE]; simp)]
  · rw [hP, hy.1]; simp; omega
  · rw [hP]; exact h.ar
  · rw [hP]; exact h.wn
  · rw [hP]; exact h.cl
  · rw [hP]; have := h.pn; show P'.pn + 1 ≤ _; omega
  · have := h.lg; omega
theorem Tg22.no (h : Tg22 w wr u b H S P L k H' S' P') (hk : L[k]? = some x) (he : (P'.bf ++ [x]).length = S'.pg) (hE : lyE22 S' { P' with bf := P'.bf ++ [x] } ≠ 0) (hn : Ren22 wr w2 u b H' (lyS22 S' { P' with bf := P'.bf ++ [x] }) (lyP22 S' { P' with bf := P'.bf ++ [x] })) :
    tkE22 S P L = lyE22 S' { P' with bf := P'.bf ++ [x] } ∧ Ren22 w w2 u b H (tkS22 S P L) (tkP22 S P L) := by
  have hkl := (List.getElem?_eq_some_iff.1 hk).1
  have hd : L.drop k = x :: L.drop (k + 1) := by
    have h1 : L[k] = x := by rw [List.getElem?_eq_getElem hkl] at hk; injection hk
    rw [← h1]; exact List.drop_eq_getElem_cons hkl
  have ht := h.tk
  rw [hd, tk22, if_pos he, if_pos hE] at ht
  unfold tkE22 tkS22 tkP22
  rw [ht]
  refine ⟨rfl, ?_⟩
  rw [if_neg hE]
  exact h.join hn
theorem Tg22.fin (h : Tg22 w wr u b H S P L L.length H' S' P') (hn : Ren22 wr w2 u b H' S' { P' with wn := P.wn + L.length }) :
    tkE22 S P L = 0 ∧ Ren22 w w2 u b H (tkS22 S P L) (tkP22 S P L) := by
  have ht := h.tk
  rw [List.drop_eq_nil_of_le (Nat.le_refl _)] at ht
  unfold tkE22 tkS22 tkP22
  rw [ht, tk22]
  refine ⟨rfl, ?_⟩
  rw [if_pos rfl]
  have e := h.join hn
  rw [← h.wn] at e
  exact e
end
end Go.Proofs.YtjoghmdjnkdokaaDoor
