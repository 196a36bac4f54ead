import Derived.Test.YtjoghmdjnkdokaaDoorPn
import Derived.Test.YtjoghmdjnkdokaaDoorPf
import Derived.StillTailTactics
import Derived.Laws.StructEq
import Derived.Test.YtjoghmdjnkdokaaDoorPk
import Derived.Test.YtjoghmdjnkdokaaDoorPb
import Derived.WalkSpells
import Derived.Laws.BytesArg
import Derived.Test.YtjoghmdjnkdokaaDoorProg
import Derived.Test.YtjoghmdjnkdokaaDoorPa
import Derived.WalkKit
namespace Go.Proofs.YtjoghmdjnkdokaaDoor
open Go.RowKit Go.Shelf
set_option linter.unusedVariables false
set_option linter.unusedSimpArgs false

/-! PageCuts: logs held against each other. -/
theorem still_all22c {P : Program} {id : Nat} {Q : Exit → Act → World → Prop} {a : Act} {w : World} {l : List Oper} (hm : P.follows .mixedOrders = true) (hB : Region.lexB .any l.toArray = true)
    (h : wpStill P l.toArray w.drew (fun a' => Q .normal a' w.drew) l a) : (Code.region id l.toArray true).wp P Q a w := wp_region_still_lit hm hB h
theorem ops22 {w : World} {N n rc : Nat} {ra : Option Addr} {L : List (Int × Int × Int)} (h : w.ownsRow N 128 3 (.slice ra n rc) n (lgc21 L)) (hn : L.length = n) {i : Nat} (hi : i < n) :
    ∃ (g : Nat) (o : Int × Int × Int), L[i]? = some o ∧ ra = some ⟨g, 0, none⟩ ∧ g < w.heap.size ∧ w.cell? ⟨g, i * 3, none⟩ = some (.int .i64 o.1) ∧ w.cell? ⟨g, i * 3 + 1, none⟩ = some (.int .i64 o.2.1) ∧ w.cell? ⟨g, i * 3 + 2, none⟩ = some (.int .i64 o.2.2) := by
  obtain ⟨o, ho⟩ : ∃ o, L[i]? = some o := ⟨_, List.getElem?_eq_getElem (by omega)⟩
  rcases h.2 with ⟨h1, h2⟩ | ⟨g, cp, cu, h1, h2, h3, h4⟩
  · omega
  · simp only [Value.slice.injEq] at h1
    obtain ⟨rfl, -, rfl⟩ := h1
    obtain ⟨e1, e2, e3⟩ := lgc21_get L i o ho
    have hadd : ∀ j, (⟨g, 0, none⟩ : Addr).add j = ⟨g, j, none⟩ := fun j => by unfold Addr.add; split <;> simp_all
    have c1 := h.cells (g := g) rfl _ _ e1
    have c2 := h.cells (g := g) rfl _ _ e2
    have c3 := h.cells (g := g) rfl _ _ e3
    rw [hadd] at c1 c2 c3
    exact ⟨g, o, ho, rfl, (Array.getElem?_eq_some_iff.1 h3).1, c1, c2, c3⟩
end Go.Proofs.YtjoghmdjnkdokaaDoor

namespace Go.Proofs.YtjoghmdjnkdokaaDoor
open Go.RowKit Go.Shelf
set_option linter.unusedVariables false
set_option linter.unusedSimpArgs false

/-! The law's awake. -/
theorem Pn22.below {w w' : World} {v s g b N : Nat} {F : Nat → Prop} {S : Fs21} {P : Pw22} (h : Pn22 w w' v s g b F S P) (hF : ∀ k, F k → N ≤ k) (hs : N ≤ s) (hg : N ≤ g) (hN : N ≤ w.heap.size) : ∃ F', Pe22 w' v s g b F' S P ∧ (∀ k, F' k → N ≤ k) ∧ Below N w w' := by
  obtain ⟨F', h1, h2, h3⟩ := h
  refine ⟨F', h1, fun k e => ?_, h3.below (fun i e => ?_) hN⟩
  · rcases h2 k e with q | q
    · exact hF k q
    · omega
  · rcases e with e | e | e
    · exact hF i e
    · omega
    · omega
def sa22 : Fs21 := nw21 64 2 0 [] []
def pa22 : Pw22 := ⟨1, [], 0, 0, 0⟩
theorem awk22 : wrE22 sa22 pa22 (List.replicate 65 0) = 0 ∧ (wrP22 sa22 pa22 (List.replicate 65 0)).wn = 65 ∧ (wrP22 sa22 pa22 (List.replicate 65 0)).pn = 1 ∧ (wrS22 sa22 pa22 (List.replicate 65 0)).lg.length = 2 := by
  refine ⟨by decide +kernel, by decide +kernel, by decide +kernel, by decide +kernel⟩
theorem ok22_tk : ∀ (L : List Int) (S : Fs21) (P : Pw22), Ok21 S → Ok21 (tk22 S P L).1
  | [], S, P, h => h
  | c :: L, S, P, h => by
    rw [tk22]
    split
    · split
      · exact ok22_ly h _
      · exact ok22_tk L _ _ (ok22_ly h _)
    · exact ok22_tk L _ _ h
theorem ok22_wr {S : Fs21} (h : Ok21 S) (P : Pw22) (L : List Int) : Ok21 (wrS22 S P L) := by
  unfold wrS22
  split
  · exact h
  · split
    · exact h
    · exact ok22_tk L S P h
end Go.Proofs.YtjoghmdjnkdokaaDoor

namespace Go.Proofs.YtjoghmdjnkdokaaDoor
open Go.RowKit Go.Shelf
set_option linter.unusedVariables false
set_option linter.unusedSimpArgs false

/-! The document's page writer: Write. -/
theorem info_u22 : (Tryd.prog.info? 5).map (fun i => (i.zero, i.size, i.bytes)) = some (some (.int .u8 0), 1, 1) := by kernel_rfl
theorem operwp_app22 {P : Program} {o : Oper} {a : Act} {K : Act → World → Prop} {Q : Exit → Act → World → Prop} {w : World} (s x : Operand) (t : TypeId)
    (ho : o.op = Op.call { callee := Callee.builtin Builtin.append, args := #[s, x], argTypes := #[t, t] }) {u v v' : Value} {w' : World} (hs : a.eval s = u) (hx : a.eval x = v) (hr : (Builtin.append_ #[t, t] o.type #[u, v]).run P w = .ok v' w')
    (h : K (a.put o.dst v') w') : Oper.wp P o a w K Q := by
  unfold Oper.wp execOp
  simp only [ho, resolve, invoke, builtin, Sem.run_bind, Sem.run_pure, Result.andThen_ok, List.map_toArray, List.map_cons, List.map_nil, hs, hx, hr]
  exact h
section
variable {w w1 w2 wr : World} {u b g c1 k : Nat} {G H H' : Nat → Prop} {ha : Option Addr} {hc : Nat} {S S' : Fs21} {P P' : Pw22} {L : List Int} {x : Int}
theorem Rh22.push (h : Rh22 w u b G H ha hc S P) (hx : 0 ≤ x ∧ x ≤ 255) (ho : w1.ownsRow 0 5 1 (.slice (some ⟨g, 0, none⟩) (P.bf.length + 1) c1) (P.bf.length + 1) ((P.bf ++ [x]).map (Value.int .u8)))
    (hk : Kp (fun k => (Value.slice ha P.bf.length hc).ownBlock = some k) w w1) (hg : (Value.slice ha P.bf.length hc).ownBlock = some g ∨ w.heap.size ≤ g) :
    Ren22 w (w1.setCell ⟨u, 2, none⟩ (.slice (some ⟨g, 0, none⟩) (P.bf.length + 1) c1)) u b H S { P with bf := P.bf ++ [x] } := by
  have hgl : g < w1.heap.size := (ho.lt g rfl).2
  have hgu : g ≠ u := by
    rcases hg with e | e
    · exact h.wr.ne g e
    · have := h.lt u h.uH; omega
  have hgG : ¬ G g := by
    rcases hg with e | e
    · exact h.nh g e
    · intro q; have := h.fl.lts g q; omega
  have hu1 : w1.heap[u]? = w.heap[u]? := hk.block u (h.lt u h.uH) (fun e => h.wr.ne u e rfl)
  have ks : Kp (fun k => k = u) w1 (w1.setCell ⟨u, 2, none⟩ (.slice (some ⟨g, 0, none⟩) (P.bf.length + 1) c1)) := Kp.set (S := fun k => k = u) rfl _
  have hl : (P.bf ++ [x]).length = P.bf.length + 1 := by simp
  refine ⟨fun k => H k ∨ k = g, ⟨G, some ⟨g, 0, none⟩, c1, ⟨h.fl.kp (fun k e => ?_) (Nat.le_trans hk.size ks.size), ⟨?_, ?_, fun k e => ?_, ?_⟩, h.nu, fun k e => ?_, fun k e => .inl (h.gH k e), .inl h.uH, fun k e => ?_, fun k e => ?_⟩⟩, fun k e => ?_, (hk.mono (fun k _ e => h.hH k e)).trans (ks.mono (fun k _ e => by rw [e]; exact h.uH)) (fun _ _ e => e)⟩
  · rw [set_other22 _ _ (show k ≠ u from fun q => h.nu (by rw [← q]; exact e))]
    exact hk.block k (h.fl.lts k e) (fun q => h.nh k q e)
  · have := hu1.trans h.wr.hu
    show _ = some (Obj.cells #[_, _, .slice _ (P.bf ++ [x]).length c1, _, _, _, _] _ _)
    rw [hl]
    simp [World.setCell, Array.getElem?_modify, this]
  · show World.ownsRow _ 0 _ 1 (.slice _ (P.bf ++ [x]).length c1) (P.bf ++ [x]).length _
    rw [hl]
    exact own_tr22 ho (fun r hr => by simp only [Value.ownBlock, Option.some.injEq] at hr; exact set_other22 _ _ (by omega))
  · simp only [Value.ownBlock, Option.some.injEq] at e; omega
  · intro y hy
    rcases List.mem_append.1 hy with hy | hy
    · exact h.wr.bd y hy
    · simp at hy; subst hy; exact hx
  · simp only [Value.ownBlock, Option.some.injEq] at e; rw [← e]; exact hgG
  · simp only [Value.ownBlock, Option.some.injEq] at e; exact .inr e.symm
  · have hz := Nat.le_trans hk.size ks.size
    rcases e with e | e
    · exact Nat.lt_of_lt_of_le (h.lt k e) hz
    · rw [e]; exact Nat.lt_of_lt_of_le hgl ks.size
  · rcases e with e | e
    · exact .inl e
    · rcases hg with q | q
      · exact .inl (by rw [e]; exact h.hH g q)
      · exact .inr (by omega)
theorem Rh22.drew (h : Rh22 w u b G H ha hc S P) : Rh22 w.drew u b G H ha hc S P := ⟨h.fl.old ((Below.refl _ _).drew), ⟨h.wr.hu, h.wr.ow.drew, h.wr.ne, h.wr.bd⟩, h.nu, h.nh, h.gH, h.uH, h.hH, h.lt⟩
theorem Rh22.wrote (h : Rh22 w u b G H ha hc S P) (n : Nat) : Ren22 w (w.setCell ⟨u, 3, none⟩ (.int .i64 (n : Int))) u b H S { P with wn := n } := by
  have hk : Kp H w (w.setCell ⟨u, 3, none⟩ (.int .i64 (n : Int))) := Kp.set h.uH _
  exact ⟨H, ⟨G, ha, hc, ⟨h.fl.kp (fun k e => set_other22 w _ (fun q => h.nu (q ▸ e))) hk.size, ⟨(seven_set22 h.wr.hu _).1, own_tr22 h.wr.ow (fun r hr => set_other22 w _ (h.wr.ne r hr)), h.wr.ne, h.wr.bd⟩, h.nu, h.nh, h.gH, h.uH, h.hH, fun k e => Nat.lt_of_lt_of_le (h.lt k e) hk.size⟩⟩, fun _ e => .inl e, hk⟩
/-- What holds of Write's loop behind k bytes. -/
structure Tg22 (w wr : World) (u b : Nat) (H : Nat → Prop) (S : Fs21) (P : Pw22) (L : List Int) (k : Nat) (H' : Nat → Prop) (S' : Fs21) (P' : Pw22) : Prop where
  re : Re22 wr u b H' S' P'
  fr : ∀ x, H' x → H x ∨ w.heap.size ≤ x
  kp : Kp H w wr
  ok : Ok21 S'
  pg : S'.pg = S.pg
  tk : tk22 S P L = tk22 S' P' (L.drop k)
  lt : P'.bf.length < S'.pg
  ar : P'.ar = P.ar
  wn : P'.wn = P.wn
  cl : P'.cl = 0
  pn : P'.pn ≤ P.pn + k
  lg : S'.lg.length ≤ S.lg.length + 2 * k
theorem Tg22.join (h : Tg22 w wr u b H S P L k H' S' P') {S2 : Fs21} {P2 : Pw22} (hn : Ren22 wr w2 u b H' S2 P2) : ∃ H2, Re22 w2 u b H2 S2 P2 ∧ (∀ x, H2 x → H x ∨ w.heap.size ≤ x) ∧ Kp H w w2 := Ren22.cons h.fr h.kp hn
theorem Tg22.more (h : Tg22 w wr u b H S P L k H' S' P') (hk : L[k]? = some x) (hne : ¬ (P'.bf ++ [x]).length = S'.pg) (hn : Ren22 wr w2 u b H' S' { P' with bf := P'.bf ++ [x] }) : ∃ H2, Tg22 w w2 u b H S P L (k + 1) H2 S' { P' with bf := P'.bf ++ [x] } := by
  obtain ⟨H2, h1, h2, h3⟩ := h.join hn
  have hkl := (List.getElem?_eq_some_iff.1 hk).1
  have hd : L.drop k = x :: L.drop (k + 1) := by
    have h1 : L[k] = x := by rw [List.getElem?_eq_getElem hkl] at hk; injection hk
    rw [← h1]; exact List.drop_eq_getElem_cons hkl
  refine ⟨H2, h1, h2, h3, h.ok, h.pg, ?_, ?_, h.ar, h.wn, h.cl, Nat.le_trans h.pn (by omega), Nat.le_trans h.lg (by omega)⟩
  · rw [h.tk, hd, tk22, if_neg hne]
  · have := h.lt; simp only [List.length_append, List.length_cons, List.length_nil] at hne ⊢; omega
theorem Tg22.full (h : Tg22 w wr u b H S P L k H' S' P') (hk : L[k]? = some x) (he : (P'.bf ++ [x]).length = S'.pg) (hE : lyE22 S' { P' with bf := P'.bf ++ [x] } = 0) (hn : Ren22 wr w2 u b H' (lyS22 S' { P' with bf := P'.bf ++ [x] }) (lyP22 S' { P' with bf := P'.bf ++ [x] })) :
    ∃ H2, Tg22 w w2 u b H S P L (k + 1) H2 (lyS22 S' { P' with bf := P'.bf ++ [x] }) (lyP22 S' { P' with bf := P'.bf ++ [x] }) := by
  obtain ⟨H2, h1, h2, h3⟩ := h.join hn
  have hkl := (List.getElem?_eq_some_iff.1 hk).1
  have hd : L.drop k = x :: L.drop (k + 1) := by
    have h1 : L[k] = x := by rw [List.getElem?_eq_getElem hkl] at hk; injection hk
    rw [← h1]; exact List.drop_eq_getElem_cons hkl
  have hy := lyS22_pg S' { P' with bf := P'.bf ++ [x] }
  have hP : lyP22 S' { P' with bf := P'.bf ++ [x] } = { P' with pn := P'.pn + 1, bf := [] } := by
    unfold lyP22; rw [if_neg (by rw [hE]; simp)]
  have hpg := h.ok.pg
  refine ⟨H2, h1, h2, h3, ok22_ly h.ok _, hy.1.trans h.pg, ?_, ?_, ?_, ?_, ?_, ?_, ?_⟩
  · rw [h.tk, hd, tk22, if_pos he, if_neg (by rw [hE]; simp)]
  · rw [hP, hy.1]; simp; omega
  · rw [hP]; exact h.ar
  · rw [hP]; exact h.wn
  · rw [hP]; exact h.cl
  · rw [hP]; have := h.pn; show P'.pn + 1 ≤ _; omega
  · have := h.lg; omega
theorem Tg22.no (h : Tg22 w wr u b H S P L k H' S' P') (hk : L[k]? = some x) (he : (P'.bf ++ [x]).length = S'.pg) (hE : lyE22 S' { P' with bf := P'.bf ++ [x] } ≠ 0) (hn : Ren22 wr w2 u b H' (lyS22 S' { P' with bf := P'.bf ++ [x] }) (lyP22 S' { P' with bf := P'.bf ++ [x] })) :
    tkE22 S P L = lyE22 S' { P' with bf := P'.bf ++ [x] } ∧ Ren22 w w2 u b H (tkS22 S P L) (tkP22 S P L) := by
  have hkl := (List.getElem?_eq_some_iff.1 hk).1
  have hd : L.drop k = x :: L.drop (k + 1) := by
    have h1 : L[k] = x := by rw [List.getElem?_eq_getElem hkl] at hk; injection hk
    rw [← h1]; exact List.drop_eq_getElem_cons hkl
  have ht := h.tk
  rw [hd, tk22, if_pos he, if_pos hE] at ht
  unfold tkE22 tkS22 tkP22
  rw [ht]
  refine ⟨rfl, ?_⟩
  rw [if_neg hE]
  exact h.join hn
theorem Tg22.fin (h : Tg22 w wr u b H S P L L.length H' S' P') (hn : Ren22 wr w2 u b H' S' { P' with wn := P.wn + L.length }) :
    tkE22 S P L = 0 ∧ Ren22 w w2 u b H (tkS22 S P L) (tkP22 S P L) := by
  have ht := h.tk
  rw [List.drop_eq_nil_of_le (Nat.le_refl _)] at ht
  unfold tkE22 tkS22 tkP22
  rw [ht, tk22]
  refine ⟨rfl, ?_⟩
  rw [if_pos rfl]
  have e := h.join hn
  rw [← h.wn] at e
  exact e
end
end Go.Proofs.YtjoghmdjnkdokaaDoor

namespace Go.Proofs.YtjoghmdjnkdokaaDoor
open Go.RowKit Go.Shelf
set_option linter.unusedVariables false
set_option linter.unusedSimpArgs false

/-! The document's flash: Read of a whole area. -/
theorem fb21_at (S : Fs21) (x y : Int) (r : Nat) (hr : r < S.pg) : (fb21 S x y).getD r 0 = (sh21 S x y).b.getD r 255 := by
  unfold fb21
  by_cases h : r < (sh21 S x y).b.length
  · simp [List.getD, List.getElem?_append, h]
  · have h2 : r - (sh21 S x y).b.length < S.pg - (sh21 S x y).b.length := by omega
    have h3 : (sh21 S x y).b[r]? = none := List.getElem?_eq_none (by omega)
    simp [List.getD, List.getElem?_append, h, h2, h3, List.getElem?_replicate]
theorem rb21_snoc (S : Fs21) (x : Int) (i : Nat) : rb21 S x 0 (i + 1) = rb21 S x 0 i ++ [pb21 S x (i / S.pg) (i % S.pg)] := by
  unfold rb21
  rw [List.range_succ, List.map_append]
  simp
set_option maxRecDepth 100000 in
set_option maxHeartbeats 16000000 in
theorem rread21 {w : World} {b : Nat} {G : Nat → Prop} {S : Fs21} (h : Rl21d w b G S) (hO : Ok21 S) (hon : S.on = true) (x : Nat) (hx : x < 3) (n : Nat) (hn : (n : Int) = (S.pg : Int) * pn21 S.ps (x : Int)) :
    Calls Tryd.prog 29 #[.pointer (some ⟨b, 0, none⟩), .int .i64 (x : Int), .int .i64 0, .int .i64 (n : Int)] w fun e w' => ∃ ra rc, e = .returned (.tuple #[.slice ra n rc, .int .i64 0]) ∧ w'.ownsRow w.heap.size 5 1 (.slice ra n rc) n ((rb21 S (x : Int) 0 n).map (Value.int .u8)) ∧ Below w.heap.size w w' := by
  obtain ⟨g, c, A, tn, ta, tc, la, lc, V, q, _⟩ := h
  have hpn := pn21_bd S.ps (x : Int) hO.ps.2
  have hAn := q.hn x hx
  obtain ⟨PN, hPN⟩ : ∃ PN, PN = (A x).length := ⟨_, rfl⟩
  obtain ⟨PG, hPG⟩ : ∃ PG, PG = S.pg := ⟨_, rfl⟩
  rw [← hPN] at hAn
  have hpg := hO.pg
  rw [← hPG] at hpg hn
  have hnn : n = PG * PN := by
    have : (n : Int) = ((PG * PN : Nat) : Int) := by rw [hn, ← hAn.1]; exact (Int.natCast_mul _ _).symm
    exact Int.ofNat.inj this
  have hPN96 : PN ≤ 4096 := by omega
  have hn24 : n ≤ 16777216 := by rw [hnn]; exact Nat.le_trans (Nat.mul_le_mul hpg.2 hPN96) (by decide)
  have c7 : w.cell? ⟨b, 7, none⟩ = some (.bool false) := by
    have : w.cell? ⟨b, 7, none⟩ = some (.bool (!S.on)) := q.cel rfl
    rw [hon] at this; exact this
  have HC : Hid (∀ V', Below w.heap.size w V' → V'.cell? ⟨b, 0, none⟩ = some (.int .i64 (PG : Int)) ∧ V'.cell? ⟨b, 3 + x, none⟩ = some (.slice (some ⟨g x, 0, none⟩) PN (c x))) := fun V' hV => by
    have := q.old hV
    rw [hPG, hPN]
    exact ⟨this.cel rfl, this.car hx⟩
  have HB : Hid (∀ V' i, Below w.heap.size w V' → i < n → ∃ (k off cc : Nat), PG ≤ cc ∧ V'.cell? ⟨g x, i / PG * 3, none⟩ = some (.slice (some ⟨k, off, none⟩) PG cc) ∧ V'.cell? ⟨k, off + i % PG, none⟩ = some (.int .u8 (pb21 S (x : Int) (i / PG) (i % PG)))) := fun V' i hV hi => by
    have q' := q.old hV
    have hlt : i / PG < PN := by rw [hnn] at hi; exact Nat.div_lt_of_lt_mul hi
    obtain ⟨d, hd⟩ : ∃ d, (A x)[i / PG]? = some d := ⟨_, List.getElem?_eq_getElem (by rw [← hPN]; exact hlt)⟩
    obtain ⟨s1, s2, s3, s4, s5, s6⟩ := q'.hd x (i / PG) d hx hd
    have hdl : d.b.length = PG := by rw [s3, fb21_len hO, hPG]
    have hm : i % PG < PG := Nat.mod_lt _ (by omega)
    obtain ⟨k', off', e1, e2⟩ := s1.at_ (i % PG) (by omega)
    cases e1
    have e3 := (q'.pgc hx hd).1
    rw [hdl] at e3 s6
    refine ⟨d.k, d.off, d.c, s6, e3, ?_⟩
    rw [e2, s3, fb21_at S _ _ _ (by rw [← hPG]; exact hm)]
    rfl
  have hmulw : IntKind.i64.wrap ((PN : Int) * (PG : Int)) = (n : Int) := by
    have : (PN : Int) * (PG : Int) = (n : Int) := by rw [hnn, Nat.mul_comm]; exact (Int.natCast_mul _ _).symm
    rw [this, IntWalk.i64_in _ (by omega)]
  have hnw : IntKind.i64.wrap (n : Int) = (n : Int) := IntWalk.i64_in _ (by omega)
  have hnw0 : IntKind.i64.wrap (0 + (n : Int)) = (n : Int) := by rw [Int.zero_add]; exact hnw
  have hnw1 : IntKind.i64.wrap ((n : Int) - 0) = (n : Int) := by rw [Int.sub_zero]; exact hnw
  have hx0 : ¬ (x : Int) < 0 := by omega
  have hx2 : ¬ (2 : Int) < (x : Int) := by omega
  have hx2n : ¬ 2 < x := by omega
  have hn0 : ¬ (n : Int) < 0 := by omega
  have hx3 : (x : Int) < 3 := by omega
  have hx00 : (0 : Int) ≤ (x : Int) := by omega
  have hgx : ∃ gx cx, gx = g x ∧ cx = c x := ⟨_, _, rfl, rfl⟩
  obtain ⟨gx, cx, hg1, hg2⟩ := hgx
  rw [← hg1, ← hg2] at HC
  rw [← hg1] at HB
  have HPG : Hid (PG = S.pg ∧ 64 ≤ PG ∧ PG ≤ 4096 ∧ n = PG * PN) := ⟨hPG, hpg.1, hpg.2, hnn⟩
  have b0 : Below w.heap.size w w.drew := (Below.refl _ _).drew
  obtain ⟨d0, d3⟩ := HC.out w.drew b0
  have HX : Hid (x < 3 ∧ PN ≤ 4096) := ⟨hx, hPN96⟩
  obtain ⟨i0, hi0, hz0, hz1, hz2⟩ := info_parts info_u22
  clear q hpn hAn hPN hPG hpg hn hnn hO hon hg1 hg2
  go_enter Tryd.func29, Tryd.ntmps29
  go_upto_region 5 with fail
  refine still_all22c (by kernel_rfl) (by kernel_rfl) ?_
  repeat still_step
  refine wpStill_nil ?_
  clear d0 d3 c7
  have HW0 : Hid (Below w.heap.size w w.drew) := b0
  clear b0
  go_wp2_with fail
  go_loopw [11, 12] (fun t11 ti wr => ∃ (i : Nat) (v : Value), i ≤ n ∧ v = t11 ∧ ti = .int .i64 (i : Int) ∧ wr.ownsRow w.heap.size 5 1 v i ((rb21 S (x : Int) 0 i).map (Value.int .u8)) ∧ Below w.heap.size w wr) (fun _ ti _ => n - (intOf ti).toNat)
  case atStart => exact ⟨0, _, by omega, rfl, rfl, World.ownsRow_nil _ _ _ _, HW0.out⟩
  case round =>
    obtain ⟨i, v, hin, rfl, rfl, hown, hB⟩ := hrel
    by_cases hi : i < n
    · have hii : (i : Int) < (n : Int) := by omega
      have hiw : IntKind.i64.wrap ((i : Int) + 1) = ((i + 1 : Nat) : Int) := by rw [IntWalk.i64_in _ (by omega)]; omega
      obtain ⟨dk, doff, dc, hdc, e1, e2⟩ := HB.out wr i hB hi
      obtain ⟨e0, e3⟩ := HC.out wr hB
      have hpg := HPG.out
      obtain ⟨Y, hY⟩ : ∃ Y, Y = i / PG := ⟨_, rfl⟩
      obtain ⟨R, hR⟩ : ∃ R, R = i % PG := ⟨_, rfl⟩
      obtain ⟨z, hz⟩ : ∃ z, z = pb21 S (x : Int) (i / PG) (i % PG) := ⟨_, rfl⟩
      rw [← hz, ← hR] at e2
      rw [← hY] at e1
      have hYN : Y < PN := by rw [hY]; exact Nat.div_lt_of_lt_mul (by rw [← hpg.2.2.2]; exact hi)
      have hRP : R < PG := by rw [hR]; exact Nat.mod_lt _ (by omega)
      have hq : Int.tdiv (i : Int) (PG : Int) = (Y : Int) := by rw [hY]; rfl
      have hr : Int.tmod (i : Int) (PG : Int) = (R : Int) := by rw [hR]; rfl
      have hqw : IntKind.i64.wrap (Y : Int) = (Y : Int) := IntWalk.i64_in _ (by have := HX.out; omega)
      have hrw : IntKind.i64.wrap (R : Int) = (R : Int) := IntWalk.i64_in _ (by omega)
      have hYi : (Y : Int) < (PN : Int) := by omega
      have hRi : (R : Int) < (PG : Int) := by omega
      have hPi : ¬ (PG : Int) = 0 := by omega
      have hPn : ¬ PG = 0 := by omega
      have hzb : rb21 S (x : Int) 0 (i + 1) = rb21 S (x : Int) 0 i ++ [z] := by rw [rb21_snoc, hz, hpg.1]
      obtain ⟨v0, hv0⟩ : ∃ v0, v0 = wr.drew := ⟨_, rfl⟩
      have HV0 : Hid (wr.drew = v0) := hv0.symm
      have how : v0.ownsRow w.heap.size 5 1 v i ((rb21 S (x : Int) 0 i).map (Value.int .u8)) := by rw [hv0]; exact hown.drew
      have hB0 : Below w.heap.size w v0 := by rw [hv0]; exact hB.drew
      have hc : v0.cell? ⟨b, 0, none⟩ = some (.int .i64 (PG : Int)) ∧ v0.cell? ⟨b, 3 + x, none⟩ = some (.slice (some ⟨gx, 0, none⟩) PN cx) ∧ v0.cell? ⟨gx, Y * 3, none⟩ = some (.slice (some ⟨dk, doff, none⟩) PG dc) ∧ v0.cell? ⟨dk, doff + R, none⟩ = some (.int .u8 z) := by rw [hv0]; exact ⟨e0, e3, e1, e2⟩
      obtain ⟨vx, v2, hr2, ho2, hg2, _, hfr⟩ := run_app_st (P := Tryd.prog) 22 22 w.heap.size 5 i0 (.int .u8 0) 1 Tryd.underlying22 hi0 hz0 hz1 hz2 rfl (v0.alloc (.cells #[.int .u8 z] 5)) (how.alloc _) ⟨v0.heap.size, 0, none⟩ 1 1 [.int .u8 z] rfl (cell_one_new _ _ _) (by intro y hy; simp at hy; subst hy; rfl) (by omega) (by omega) (by have := hB0.size; simp; omega)
      obtain ⟨v1, hv1⟩ : ∃ v1, v1 = v0.alloc (.cells #[.int .u8 z] 5) := ⟨_, rfl⟩
      obtain ⟨zz, hzz⟩ : ∃ zz, zz = v0.heap.size := ⟨_, rfl⟩
      rw [← hv1] at hr2 hg2
      rw [← hzz] at hr2
      have hb1 : Below w.heap.size w v1 := by rw [hv1]; exact hB0.alloc hB0.size _
      have hb2 : Below w.heap.size w v2 := hb1.grown hg2 hb1.size (fun j hj => (how.lt j hj).1)
      have HR2 : Hid ((Builtin.append_ #[22, 22] 22 #[v, .slice (some ⟨zz, 0, none⟩) 1 1]).run Tryd.prog v1 = .ok vx v2) := hr2
      have HO2 : Hid (v2.ownsRow w.heap.size 5 1 vx (i + 1) ((rb21 S (x : Int) 0 (i + 1)).map (Value.int .u8)) ∧ Below w.heap.size w v2) := ⟨by rw [hzb]; simpa using ho2, hb2⟩
      have HKC : Hid (∀ V', Below w.heap.size w V' → V'.cell? ⟨b, 0, none⟩ = some (.int .i64 (PG : Int)) ∧ V'.cell? ⟨b, 3 + x, none⟩ = some (.slice (some ⟨gx, 0, none⟩) PN cx) ∧ V'.cell? ⟨gx, Y * 3, none⟩ = some (.slice (some ⟨dk, doff, none⟩) PG dc) ∧ V'.cell? ⟨dk, doff + R, none⟩ = some (.int .u8 z)) := fun V' hV => by
        obtain ⟨m0, m3⟩ := HC.out V' hV
        obtain ⟨k2, o2, cc2, _, m1, m2⟩ := HB.out V' i hV hi
        rw [← hY] at m1
        rw [← hz, ← hR] at m2
        have h1 := (HB.out w i (Below.refl _ _) hi)
        obtain ⟨k3, o3, c3, _, n1, n2⟩ := h1
        rw [← hY] at n1
        have hsame := (hV.cell (p := ⟨gx, Y * 3, none⟩) (World.block_lt_of_cell? _ _ n1)).trans n1
        have hsame2 := (hB.cell (p := ⟨gx, Y * 3, none⟩) (World.block_lt_of_cell? _ _ n1)).trans n1
        rw [e1] at hsame2
        rw [m1] at hsame
        rw [← hsame2] at hsame
        simp only [Option.some.injEq, Value.slice.injEq, Addr.mk.injEq, and_true, true_and] at hsame
        obtain ⟨⟨rfl, rfl⟩, rfl⟩ := hsame
        exact ⟨m0, m3, m1, m2⟩
      have HV1 : Hid (v0.alloc (.cells #[.int .u8 z] 5) = v1 ∧ v0.heap.size = zz ∧ Below w.heap.size w v1) := ⟨hv1.symm, hzz.symm, hb1⟩
      clear hr2 ho2 hg2 hfr hb1 hb2 hv1 hzz hv0 how hB0 hown hB e0 e1 e2 e3 hpg hY hR hz hzb hi0 hz0 hz1 hz2
      go_upto_region 12 with fail
      refine plain_region16 (fun V' => V'.cell? ⟨b, 0, none⟩ = some (.int .i64 (PG : Int)) ∧ V'.cell? ⟨b, 3 + x, none⟩ = some (.slice (some ⟨gx, 0, none⟩) PN cx) ∧ V'.cell? ⟨gx, Y * 3, none⟩ = some (.slice (some ⟨dk, doff, none⟩) PG dc) ∧ V'.cell? ⟨dk, doff + R, none⟩ = some (.int .u8 z)) 27 (by kernel_rfl) (by rw [HV0.out]; exact hc) (fun hHeld => ?_)
      rw [HV0.out] at hHeld ⊢
      clear hc
      refine wpAnyK_take (i := 0) (v := v) rfl (by kernel_rfl) (by kernel_rfl) (by kernel_rfl) (by kernel_rfl) (fun _ _ _ h => h) (Or.inl ⟨by rfl, fun w hSw => by go_simp⟩) hHeld ?_
      simp only [List.getElem_toArray, List.getElem_cons_zero, Act.put, List.setIfInBounds_toArray, List.set_cons_zero, List.set_cons_succ]
      refine wpAnyK_take (i := 1) (v := .pointer (some ⟨b, 0, none⟩)) rfl (by kernel_rfl) (by kernel_rfl) (by kernel_rfl) (by kernel_rfl) (fun _ _ _ h => h) (Or.inl ⟨by rfl, fun w hSw => by go_simp⟩) hHeld ?_
      simp only [List.getElem_toArray, List.getElem_cons_zero, List.getElem_cons_succ, Act.put, List.setIfInBounds_toArray, List.set_cons_zero, List.set_cons_succ]
      refine wpAnyK_take (i := 2) (v := .int .i64 (x : Int)) rfl (by kernel_rfl) (by kernel_rfl) (by kernel_rfl) (by kernel_rfl) (fun _ _ _ h => h) (Or.inl ⟨by rfl, fun w hSw => by go_simp⟩) hHeld ?_
      simp only [List.getElem_toArray, List.getElem_cons_zero, List.getElem_cons_succ, Act.put, List.setIfInBounds_toArray, List.set_cons_zero, List.set_cons_succ]
      refine wpAnyK_take (i := 3) (v := .pointer (some ⟨b, 0, none⟩)) rfl (by kernel_rfl) (by kernel_rfl) (by kernel_rfl) (by kernel_rfl) (fun _ _ _ h => h) (Or.inl ⟨by rfl, fun w hSw => by go_simp⟩) hHeld ?_
      simp only [List.getElem_toArray, List.getElem_cons_zero, List.getElem_cons_succ, Act.put, List.setIfInBounds_toArray, List.set_cons_zero, List.set_cons_succ]
      refine wpAnyK_take (i := 4) (v := .pointer (some ⟨b, 3, none⟩)) rfl (by kernel_rfl) (by kernel_rfl) (by kernel_rfl) (by kernel_rfl) (fun _ _ _ h => h) (Or.inl ⟨by rfl, fun w hSw => by go_simp⟩) hHeld ?_
      simp only [List.getElem_toArray, List.getElem_cons_zero, List.getElem_cons_succ, Act.put, List.setIfInBounds_toArray, List.set_cons_zero, List.set_cons_succ]
      refine wpAnyK_take (i := 5) (v := .pointer (some ⟨b, 3 + x, none⟩)) rfl (by kernel_rfl) (by kernel_rfl) (by kernel_rfl) (by kernel_rfl) (fun _ _ _ h => h) (Or.inl ⟨by rfl, fun w hSw => by go_simp⟩) hHeld ?_
      simp only [List.getElem_toArray, List.getElem_cons_zero, List.getElem_cons_succ, Act.put, List.setIfInBounds_toArray, List.set_cons_zero, List.set_cons_succ]
      refine wpAnyK_take (i := 6) (v := .slice (some ⟨gx, 0, none⟩) PN cx) rfl (by kernel_rfl) (by kernel_rfl) (by kernel_rfl) (by kernel_rfl) (fun _ _ _ h => h) (Or.inl ⟨by rfl, fun w hSw => by go_simp⟩) hHeld ?_
      simp only [List.getElem_toArray, List.getElem_cons_zero, List.getElem_cons_succ, Act.put, List.setIfInBounds_toArray, List.set_cons_zero, List.set_cons_succ]
      refine wpAnyK_take (i := 7) (v := .int .i64 (i : Int)) rfl (by kernel_rfl) (by kernel_rfl) (by kernel_rfl) (by kernel_rfl) (fun _ _ _ h => h) (Or.inl ⟨by rfl, fun w hSw => by go_simp⟩) hHeld ?_
      simp only [List.getElem_toArray, List.getElem_cons_zero, List.getElem_cons_succ, Act.put, List.setIfInBounds_toArray, List.set_cons_zero, List.set_cons_succ]
      refine wpAnyK_take (i := 8) (v := .pointer (some ⟨b, 0, none⟩)) rfl (by kernel_rfl) (by kernel_rfl) (by kernel_rfl) (by kernel_rfl) (fun _ _ _ h => h) (Or.inl ⟨by rfl, fun w hSw => by go_simp⟩) hHeld ?_
      simp only [List.getElem_toArray, List.getElem_cons_zero, List.getElem_cons_succ, Act.put, List.setIfInBounds_toArray, List.set_cons_zero, List.set_cons_succ]
      refine wpAnyK_take (i := 9) (v := .pointer (some ⟨b, 0, none⟩)) rfl (by kernel_rfl) (by kernel_rfl) (by kernel_rfl) (by kernel_rfl) (fun _ _ _ h => h) (Or.inl ⟨by rfl, fun w hSw => by go_simp⟩) hHeld ?_
      simp only [List.getElem_toArray, List.getElem_cons_zero, List.getElem_cons_succ, Act.put, List.setIfInBounds_toArray, List.set_cons_zero, List.set_cons_succ]
      refine wpAnyK_take (i := 10) (v := .pointer (some ⟨b, 0, none⟩)) rfl (by kernel_rfl) (by kernel_rfl) (by kernel_rfl) (by kernel_rfl) (fun _ _ _ h => h) (Or.inl ⟨by rfl, fun w hSw => by go_simp⟩) hHeld ?_
      simp only [List.getElem_toArray, List.getElem_cons_zero, List.getElem_cons_succ, Act.put, List.setIfInBounds_toArray, List.set_cons_zero, List.set_cons_succ]
      refine wpAnyK_take (i := 11) (v := .int .i64 (PG : Int)) rfl (by kernel_rfl) (by kernel_rfl) (by kernel_rfl) (by kernel_rfl) (fun _ _ _ h => h) (Or.inl ⟨by rfl, fun w hSw => by go_simp⟩) hHeld ?_
      simp only [List.getElem_toArray, List.getElem_cons_zero, List.getElem_cons_succ, Act.put, List.setIfInBounds_toArray, List.set_cons_zero, List.set_cons_succ]
      refine wpAnyK_take (i := 12) (v := .int .i64 (Y : Int)) rfl (by kernel_rfl) (by kernel_rfl) (by kernel_rfl) (by kernel_rfl) (fun _ _ _ h => h) (Or.inl ⟨by rfl, fun w hSw => by go_simp⟩) hHeld ?_
      simp only [List.getElem_toArray, List.getElem_cons_zero, List.getElem_cons_succ, Act.put, List.setIfInBounds_toArray, List.set_cons_zero, List.set_cons_succ]
      refine wpAnyK_take (i := 13) (v := .pointer (some ⟨gx, Y * 3, none⟩)) rfl (by kernel_rfl) (by kernel_rfl) (by kernel_rfl) (by kernel_rfl) (fun _ _ _ h => h) (Or.inl ⟨by rfl, fun w hSw => by go_simp⟩) hHeld ?_
      simp only [List.getElem_toArray, List.getElem_cons_zero, List.getElem_cons_succ, Act.put, List.setIfInBounds_toArray, List.set_cons_zero, List.set_cons_succ]
      refine wpAnyK_take (i := 14) (v := .pointer (some ⟨gx, Y * 3, none⟩)) rfl (by kernel_rfl) (by kernel_rfl) (by kernel_rfl) (by kernel_rfl) (fun _ _ _ h => h) (Or.inl ⟨by rfl, fun w hSw => by go_simp⟩) hHeld ?_
      simp only [List.getElem_toArray, List.getElem_cons_zero, List.getElem_cons_succ, Act.put, List.setIfInBounds_toArray, List.set_cons_zero, List.set_cons_succ]
      refine wpAnyK_take (i := 15) (v := .slice (some ⟨dk, doff, none⟩) PG dc) rfl (by kernel_rfl) (by kernel_rfl) (by kernel_rfl) (by kernel_rfl) (fun _ _ _ h => h) (Or.inl ⟨by rfl, fun w hSw => by go_simp⟩) hHeld ?_
      simp only [List.getElem_toArray, List.getElem_cons_zero, List.getElem_cons_succ, Act.put, List.setIfInBounds_toArray, List.set_cons_zero, List.set_cons_succ]
      refine wpAnyK_take (i := 16) (v := .int .i64 (i : Int)) rfl (by kernel_rfl) (by kernel_rfl) (by kernel_rfl) (by kernel_rfl) (fun _ _ _ h => h) (Or.inl ⟨by rfl, fun w hSw => by go_simp⟩) hHeld ?_
      simp only [List.getElem_toArray, List.getElem_cons_zero, List.getElem_cons_succ, Act.put, List.setIfInBounds_toArray, List.set_cons_zero, List.set_cons_succ]
      refine wpAnyK_take (i := 17) (v := .pointer (some ⟨b, 0, none⟩)) rfl (by kernel_rfl) (by kernel_rfl) (by kernel_rfl) (by kernel_rfl) (fun _ _ _ h => h) (Or.inl ⟨by rfl, fun w hSw => by go_simp⟩) hHeld ?_
      simp only [List.getElem_toArray, List.getElem_cons_zero, List.getElem_cons_succ, Act.put, List.setIfInBounds_toArray, List.set_cons_zero, List.set_cons_succ]
      refine wpAnyK_take (i := 18) (v := .pointer (some ⟨b, 0, none⟩)) rfl (by kernel_rfl) (by kernel_rfl) (by kernel_rfl) (by kernel_rfl) (fun _ _ _ h => h) (Or.inl ⟨by rfl, fun w hSw => by go_simp⟩) hHeld ?_
      simp only [List.getElem_toArray, List.getElem_cons_zero, List.getElem_cons_succ, Act.put, List.setIfInBounds_toArray, List.set_cons_zero, List.set_cons_succ]
      refine wpAnyK_take (i := 19) (v := .pointer (some ⟨b, 0, none⟩)) rfl (by kernel_rfl) (by kernel_rfl) (by kernel_rfl) (by kernel_rfl) (fun _ _ _ h => h) (Or.inl ⟨by rfl, fun w hSw => by go_simp⟩) hHeld ?_
      simp only [List.getElem_toArray, List.getElem_cons_zero, List.getElem_cons_succ, Act.put, List.setIfInBounds_toArray, List.set_cons_zero, List.set_cons_succ]
      refine wpAnyK_take (i := 20) (v := .int .i64 (PG : Int)) rfl (by kernel_rfl) (by kernel_rfl) (by kernel_rfl) (by kernel_rfl) (fun _ _ _ h => h) (Or.inl ⟨by rfl, fun w hSw => by go_simp⟩) hHeld ?_
      simp only [List.getElem_toArray, List.getElem_cons_zero, List.getElem_cons_succ, Act.put, List.setIfInBounds_toArray, List.set_cons_zero, List.set_cons_succ]
      refine wpAnyK_take (i := 21) (v := .int .i64 (R : Int)) rfl (by kernel_rfl) (by kernel_rfl) (by kernel_rfl) (by kernel_rfl) (fun _ _ _ h => h) (Or.inl ⟨by rfl, fun w hSw => by go_simp⟩) hHeld ?_
      simp only [List.getElem_toArray, List.getElem_cons_zero, List.getElem_cons_succ, Act.put, List.setIfInBounds_toArray, List.set_cons_zero, List.set_cons_succ]
      refine wpAnyK_take (i := 22) (v := .pointer (some ⟨dk, doff + R, none⟩)) rfl (by kernel_rfl) (by kernel_rfl) (by kernel_rfl) (by kernel_rfl) (fun _ _ _ h => h) (Or.inl ⟨by rfl, fun w hSw => by go_simp⟩) hHeld ?_
      simp only [List.getElem_toArray, List.getElem_cons_zero, List.getElem_cons_succ, Act.put, List.setIfInBounds_toArray, List.set_cons_zero, List.set_cons_succ]
      refine wpAnyK_take (i := 23) (v := .int .u8 z) rfl (by kernel_rfl) (by kernel_rfl) (by kernel_rfl) (by kernel_rfl) (fun _ _ _ h => h) (Or.inl ⟨by rfl, fun w hSw => by go_simp⟩) hHeld ?_
      simp only [List.getElem_toArray, List.getElem_cons_zero, List.getElem_cons_succ, Act.put, List.setIfInBounds_toArray, List.set_cons_zero, List.set_cons_succ]
      refine wpAnyK_one (i := 24) (by kernel_rfl) rfl (fun K hK => ?_)
      (try simp only [List.getElem_toArray, List.getElem_cons_zero, List.getElem_cons_succ, Act.put, List.setIfInBounds_toArray, List.set_cons_zero, List.set_cons_succ])
      go_simp
      rw [HV1.out.1, HV1.out.2.1]
      refine hK.out _ _ (fun _ => HKC.out v1 HV1.out.2.2) (fun hHeld0 => ?_)
      have hHeld := hHeld0 (by decide)
      clear hHeld0 hK K
      (try simp only [List.getElem_toArray, List.getElem_cons_zero, List.getElem_cons_succ, Act.put, List.setIfInBounds_toArray, List.set_cons_zero, List.set_cons_succ])
      refine wpAnyK_one (i := 25) (by kernel_rfl) rfl (fun K hK => ?_)
      simp only [List.getElem_toArray, List.getElem_cons_zero, List.getElem_cons_succ]
      rw [if_pos (by rfl)]
      refine operwp_app22 _ _ _ rfl rfl rfl HR2.out ?_
      refine hK.out _ _ (fun _ => HKC.out v2 HO2.out.2) (fun hHeld0 => ?_)
      have hHeld := hHeld0 (by decide)
      clear hHeld0 hK K
      simp only [Act.put, List.setIfInBounds_toArray, List.set_cons_zero, List.set_cons_succ]
      refine wpAnyK_one (i := 26) (by kernel_rfl) rfl (fun K hK => ?_)
      (try simp only [List.getElem_toArray, List.getElem_cons_zero, List.getElem_cons_succ, Act.put, List.setIfInBounds_toArray, List.set_cons_zero, List.set_cons_succ])
      go_simp
      refine hK.out _ _ (fun _ => hHeld) (fun _ => ?_)
      clear hK K hHeld
      refine wpAnyK_done (by kernel_rfl) ?_ _
      go_wp2_with fail
      go_roundw
      case rel => exact ⟨i + 1, vx, by omega, rfl, rfl, HO2.out.1, HO2.out.2⟩
      case measure => simp [intOf]; omega
    · obtain rfl : i = n := by omega
      have hii : ¬ (i : Int) < (i : Int) := by omega
      obtain ⟨ra, rc, hv, _⟩ : ∃ ra rc, v = .slice ra i rc ∧ True := by
        rcases hown.2 with ⟨e1, e2⟩ | ⟨g', cp, cu, e1, _⟩
        · exact ⟨none, 0, by rw [e1, e2], trivial⟩
        · exact ⟨_, _, e1, trivial⟩
      subst hv
      have HF : Hid (wr.ownsRow w.heap.size 5 1 (.slice ra i rc) i ((rb21 S (x : Int) 0 i).map (Value.int .u8)) ∧ Below w.heap.size w wr) := ⟨hown, hB⟩
      clear hown hB hi0 hz0 hz1 hz2
      go_wp2_with fail
      go_ret2
      exact ⟨ra, rc, rfl, HF.out⟩
end Go.Proofs.YtjoghmdjnkdokaaDoor

namespace Go.Proofs.YtjoghmdjnkdokaaDoor
open Go.RowKit Go.Shelf
set_option linter.unusedVariables false
set_option linter.unusedSimpArgs false

/-! PageRuns: sameBytes. -/
theorem run_conv22 {P : Program} {w : World} {a : Option Addr} {zs : List Int} (n cap : Nat) (hn : zs.length = n) (h : Seg w a zs) (src e dst : TypeId) (hs : P.underlying src = some (.slice e)) (he : P.underlying e = some (.int .u8)) (hd : P.underlying dst = some .string) :
    (convert src dst (.slice a n cap)).run P w = .ok (.string (strOfNums zs)) w := by
  subst hn
  by_cases hz : 0 < zs.length
  · obtain ⟨b, off, rfl, _⟩ := h.at_ 0 hz
    refine run_convert_bytes_arg w src e hs he b off zs.length cap zs rfl (fun i hi => ?_) dst hd
    obtain ⟨b', off', hb, hc⟩ := h.at_ i hi
    cases hb
    exact hc
  · have : zs = [] := List.eq_nil_of_length_eq_zero (by omega)
    subst this
    cases a with
    | none => exact run_convert_bytes_nil w src e hs he _ _ dst hd
    | some x =>
      rw [run_convert_bytes_string w src dst e _ _ cap hs he hd]
      have hl : (loadCells x 0).run P w = .ok (([] : List Int).map (Value.int .u8)).toArray w := by simp [loadCells, loadCellsFrom]
      have := run_bytesToString (P := P) w x 0 cap [] hl
      exact this
/-- The document's device has power. -/
theorem ron22 {w : World} {b : Nat} {G : Nat → Prop} {S : Fs21} (h : Rl21d w b G S) : Rl21d (w.setCell ⟨b, 7, none⟩ (.bool false)) b G { S with on := true } ∧ Kp G w (w.setCell ⟨b, 7, none⟩ (.bool false)) ∧ w.frozen? ⟨b, 7, none⟩ = false ∧ ∃ v, w.cell? ⟨b, 7, none⟩ = some (.bool v) := by
  obtain ⟨g, c, A, tn, ta, tc, la, lc, V, h1, h2, h3, h4, h5, h6⟩ := h
  have hk : Kp (fun k => k = b) w (w.setCell ⟨b, 7, none⟩ (.bool false)) := Kp.set (S := fun k => k = b) rfl _
  exact ⟨⟨g, c, A, tn, ta, tc, la, lc, V, h1.re (S' := { S with on := true }) hk rfl rfl rfl rfl ⟨h1.ht.1, h1.ht.2⟩ (by simp [World.setCell, Array.getElem?_modify, h1.hp]), h2, h3, h4, h5, fun k e => Nat.lt_of_lt_of_le (h6 k e) hk.size⟩, hk.mono (fun i _ e => by subst e; exact h2), h1.fr 7, _, h1.cel rfl⟩
theorem rb_bd22 {w : World} {b : Nat} {G : Nat → Prop} {S : Fs21} (h : Rl21d w b G S) (hO : Ok21 S) (x : Nat) (hx : x < 3) (n : Nat) (hn : (n : Int) = (S.pg : Int) * pn21 S.ps (x : Int)) : ∀ z ∈ rb21 S (x : Int) 0 n, 0 ≤ z ∧ z ≤ 255 := by
  obtain ⟨g, c, A, tn, ta, tc, la, lc, V, q, _⟩ := h
  have hAn := q.hn x hx
  have hpg := hO.pg
  have hnn : n = S.pg * (A x).length := by
    have : (n : Int) = ((S.pg * (A x).length : Nat) : Int) := by rw [hn, ← hAn.1]; exact (Int.natCast_mul _ _).symm
    exact Int.ofNat.inj this
  intro z hz
  unfold rb21 at hz
  obtain ⟨i, hi, rfl⟩ := List.mem_map.1 hz
  have hi' : i < n := by simpa using hi
  rw [Nat.zero_add]
  have hlt : i / S.pg < (A x).length := by rw [hnn] at hi'; exact Nat.div_lt_of_lt_mul hi'
  obtain ⟨d, hd⟩ : ∃ d, (A x)[i / S.pg]? = some d := ⟨_, List.getElem?_eq_getElem hlt⟩
  obtain ⟨s1, s2, s3, s4, s5, s6⟩ := q.hd x (i / S.pg) d hx hd
  have hm : i % S.pg < S.pg := Nat.mod_lt _ (by omega)
  have := s1.bd (i % S.pg)
  rw [s3, fb21_at S _ _ _ hm] at this
  exact this
theorem rd_ok22 {S : Fs21} (hO : Ok21 S) (hon : S.on = true) (x : Nat) (hx : x < 3) (n : Nat) (hn : (n : Int) = (S.pg : Int) * pn21 S.ps (x : Int)) : rdE21 S (x : Int) 0 (n : Int) = 0 := by
  have hps := hO.ps
  have hpg := hO.pg
  have h1 : sz21 S (x : Int) = (n : Int) := by unfold sz21; rw [hn, Int.mul_comm]
  have h2 : 1 ≤ pn21 S.ps (x : Int) := by
    unfold pn21
    rw [if_neg (by omega)]
    split <;> omega
  have h3 : 0 < (n : Int) := by rw [hn]; exact Int.mul_pos (by omega) (by omega)
  unfold rdE21
  rw [if_neg (by rw [hon]; decide), h1, if_neg (by omega)]
theorem seg_rw22 {w : World} {g : Nat} {zs : List Int} (h : Rw21 w g zs) (hb : ∀ z ∈ zs, 0 ≤ z ∧ z ≤ 255) : Seg w (some ⟨g, 0, none⟩) zs := by
  obtain ⟨X, hX⟩ := h
  refine ⟨fun i hi => ⟨g, 0, rfl, ?_⟩, by decide, fun i => ?_⟩
  · rw [Nat.zero_add]
    simp only [World.cell?, hX]
    simp [List.getElem?_append, hi, List.getD]
  · rw [List.getD]
    cases e : zs[i]? with
    | none => simp
    | some z => exact hb z (List.mem_of_getElem? e)
end Go.Proofs.YtjoghmdjnkdokaaDoor

namespace Go.Proofs.YtjoghmdjnkdokaaDoor
open Go.RowKit
set_option linter.unusedVariables false

theorem run_conv_segS {P : Program} {w : World} {a : Option Addr} {zs : List Int} (cap : Nat) (h : Seg w a zs) (src e dst : TypeId) (hs : P.underlying src = some (.slice e)) (he : P.underlying e = some (.int .u8)) (hd : P.underlying dst = some .string) :
    (convert src dst (.slice a zs.length cap)).run P w = .ok (.string (strOfNums zs)) w := by
  by_cases hz : 0 < zs.length
  · obtain ⟨b, off, rfl, _⟩ := h.at_ 0 hz
    refine run_convert_bytes_arg w src e hs he b off zs.length cap zs rfl (fun i hi => ?_) dst hd
    obtain ⟨b', off', hb, hc⟩ := h.at_ i hi
    cases hb
    exact hc
  · have : zs = [] := List.eq_nil_of_length_eq_zero (by omega)
    subst this
    cases a with
    | none => exact run_convert_bytes_nil w src e hs he _ _ dst hd
    | some x =>
      rw [run_convert_bytes_string w src dst e _ _ cap hs he hd]
      have hl : (loadCells x 0).run P w = .ok (([] : List Int).map (Value.int .u8)).toArray w := by simp [loadCells, loadCellsFrom]
      have := run_bytesToString (P := P) w x 0 cap [] hl
      exact this

theorem str_injS {xs ys : List Int} (hx : ∀ z ∈ xs, 0 ≤ z ∧ z ≤ 255) (hy : ∀ z ∈ ys, 0 ≤ z ∧ z ≤ 255) : ((strOfNums xs).toList == (strOfNums ys).toList) = (xs == ys) := by
  rw [ByteArray.toList_eq, ByteArray.toList_eq, strOfNums_data, strOfNums_data]
  have key : ∀ (xs ys : List Int), (∀ z ∈ xs, 0 ≤ z ∧ z ≤ 255) → (∀ z ∈ ys, 0 ≤ z ∧ z ≤ 255) → (xs.map fun n => UInt8.ofNat n.toNat) = (ys.map fun n => UInt8.ofNat n.toNat) → xs = ys := by
    intro xs
    induction xs with
    | nil => intro ys _ _ h; cases ys with
      | nil => rfl
      | cons y r => simp at h
    | cons x r ih =>
      intro ys hx hy h
      cases ys with
      | nil => simp at h
      | cons y t =>
        simp only [List.map_cons, List.cons.injEq] at h
        have h1 := hx x (by simp)
        have h2 := hy y (by simp)
        have h3 := congrArg UInt8.toNat h.1
        simp at h3
        have h4 : x = y := by omega
        rw [h4, ih t (fun z hz => hx z (by simp [hz])) (fun z hz => hy z (by simp [hz])) h.2]
  rw [Bool.eq_iff_iff, beq_iff_eq, beq_iff_eq]
  exact ⟨key xs ys hx hy, fun h => by rw [h]⟩

set_option maxRecDepth 100000 in
theorem bsame_any (a b : Option Addr) (xs ys : List Int) (ca cb : Nat) (w : World) (hx : Seg w a xs) (hy : Seg w b ys) :
    Calls Tryd.prog 9 #[.slice a xs.length ca, .slice b ys.length cb] w fun e w' => e = .returned (.bool (xs == ys)) ∧ w' = w := by
  have h1 := run_conv_segS (P := Tryd.prog) ca hx 22 5 9 Tryd.underlying22 Tryd.underlying5 Tryd.underlying9
  have h2 := run_conv_segS (P := Tryd.prog) cb hy 22 5 9 Tryd.underlying22 Tryd.underlying5 Tryd.underlying9
  have HE : Hid (((strOfNums xs).toList == (strOfNums ys).toList) = (xs == ys)) := str_injS hx.mem hy.mem
  go_enter Tryd.func9, Tryd.ntmps9
  go_wp2
  go_ret
  exact ⟨by rw [← HE.out]; rfl, rfl⟩
end Go.Proofs.YtjoghmdjnkdokaaDoor
