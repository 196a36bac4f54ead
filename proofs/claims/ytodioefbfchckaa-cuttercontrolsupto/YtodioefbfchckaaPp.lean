import Derived.Test.YtodioefbfchckaaPm
import Derived.Test.YtodioefbfchckaaPo
import Derived.Test.YtodioefbfchckaaPh
namespace Go.Proofs.Ytodioefbfchckaa
open Go.RowKit Go.Shelf
set_option linter.unusedVariables false
set_option maxRecDepth 100000 in
theorem pcp17 (a : Option Addr) (n cap : Nat) (D : List Int) (w : World) (hs : Seg w a D) (hn : Hid (D.length = n)) (hl : n ≤ 140737488351232) (hnil : a = none → cap = 0) :
    Calls Try.prog 34 #[.slice a n cap] w (CpQ17 w D) := by
  obtain ⟨i0, hi, hz0, hz1, hz2⟩ := info_parts info_u16
  obtain ⟨wA, hwA⟩ : ∃ wA, wA = w.alloc (.cells #[] 5) := ⟨_, rfl⟩
  have cA : Cb16 w #[] 5 wA := by rw [hwA]; exact cb16 _ _ _
  have own : wA.ownsRow w.heap.size 5 1 (.slice (some ⟨w.heap.size, 0, none⟩) 0 0) 0 [] := ⟨rfl, .inr ⟨w.heap.size, 0, #[], rfl, Nat.le_refl _, cA.cl, Nat.le_refl _, by unfold maxLen; omega, rfl, rfl⟩⟩
  have sA := hs.old cA.bl
  have HB : Hid (Below w.heap.size w wA) := cA.bl
  have HBZ : Hid (w.heap.size ≤ wA.heap.size) := cA.bl.size
  have hlen : D.length ≤ 140737488351232 := by rw [hn.out]; exact hl
  rw [hwA] at own sA HB HBZ
  have hn' := hn.out
  subst hn'
  clear hwA cA
  go_enter Try.func34, Try.ntmps34
  go_wp2_with (first | (at_builtin; refine wpList_append_seg rfl (.tmp 3) (.tmp 4) 23 rfl w.heap.size 5 i0 (.int .u8 0) 1 Try.underlying23 hi hz0 hz1 hz2 rfl own sA hnil rfl rfl (by omega) (by omega) HBZ.out ?_; intro v2 w2 own2 x2 hb2))
  go_ret
  rw [Nat.zero_add, List.nil_append] at own2
  exact ⟨v2, rfl, own2, HB.out.trans hb2⟩
theorem flat17_at : ∀ (l : List St16) (i : Nat) (t : St16), l[i]? = some t → (flat16 l)[i * 3]? = some (.int .i64 t.1) ∧ (flat16 l)[i * 3 + 1]? = some (.int .i64 t.2.1) ∧ (flat16 l)[i * 3 + 2]? = some (.int .i64 t.2.2)
  | [], i, t, h => by simp at h
  | x :: l, 0, t, h => by
    have : x = t := by simpa using h
    subst this
    simp [flat16]
  | x :: l, i + 1, t, h => by
    have ih := flat17_at l i t (by simpa using h)
    have e : flat16 (x :: l) = [.int .i64 x.1, .int .i64 x.2.1, .int .i64 x.2.2] ++ flat16 l := by simp [flat16]
    rw [e]
    have e1 : (i + 1) * 3 = i * 3 + 3 := by omega
    rw [e1, show i * 3 + 3 + 1 = i * 3 + 1 + 3 by omega, show i * 3 + 3 + 2 = i * 3 + 2 + 3 by omega]
    simpa using ih
theorem own_segS17 {w : World} {base n cap : Nat} {e : TypeId} {a : Option Addr} {l : List St16} (h : w.ownsRow base e 3 (.slice a n cap) n (flat16 l)) (hl : l.length = n) (hf : ∀ t ∈ l, Fit16 t) : SegS w a l := by
  refine ⟨fun i hi => ?_, hf⟩
  rcases h.2 with ⟨_, h0⟩ | ⟨g, cp, cur, hv, _⟩
  · omega
  simp only [Value.slice.injEq] at hv
  obtain ⟨rfl, _, rfl⟩ := hv
  have hc : ∀ j u, (flat16 l)[j]? = some u → w.cell? ⟨g, j, none⟩ = some u := by
    intro j u hu
    have := h.cells (g := g) rfl j u hu
    have hadd : (⟨g, 0, none⟩ : Addr).add j = ⟨g, j, none⟩ := by unfold Addr.add; split <;> simp_all
    rwa [hadd] at this
  have hg : l[i]? = some (l.getD i z16) := by simp [List.getD, hi]
  obtain ⟨q0, q1, q2⟩ := flat17_at l i _ hg
  exact ⟨g, 0, rfl, by rw [Nat.zero_add]; exact hc _ _ q0, by rw [Nat.zero_add]; exact hc _ _ q1, by rw [Nat.zero_add]; exact hc _ _ q2⟩
theorem own_base17 {w : World} {base base' n sz : Nat} {e : TypeId} {v : Value} {xs : List Value} (h : w.ownsRow base e sz v n xs) (hb : base' ≤ base) : w.ownsRow base' e sz v n xs := by
  refine ⟨h.1, ?_⟩
  rcases h.2 with h2 | ⟨g, cap, cur, hv, hg, r⟩
  · exact Or.inl h2
  · exact Or.inr ⟨g, cap, cur, hv, by omega, r⟩
def pt17 (S : List St16) (D X : List Int) : Pt17 := ⟨S, D, X, 0, 0⟩
def FaQ17 (w : World) (S : List St16) (D X : List Int) (e : Ending) (w' : World) : Prop :=
  ∃ v1 v2 v3, e = .returned (.agg #[v1, v2, v3]) ∧ Wn17 w.heap.size (v1, v2, v3) (pt17 S D X) w' ∧ Below w.heap.size w w'
def FwQ17 (w : World) (pos : Int) (S : List St16) (D X : List Int) (e : Ending) (w' : World) : Prop :=
  ∃ v1 v2 v3, e = .returned (.agg #[.int .i64 pos, v1, v2, v3]) ∧ Wn17 w.heap.size (v1, v2, v3) (pt17 S D X) w' ∧ Below w.heap.size w w'
/-- The three rows, one behind the other. -/
theorem wn17_of {w A B C : World} {S : List St16} {D X : List Int} {v1 v2 v3 : Value} (b0 : Below w.heap.size w A) (o1 : B.ownsRow A.heap.size 98 3 v1 S.length (flat16 S)) (b1 : Below A.heap.size A B) {B2 : World} (b2 : Below B.heap.size B B2) (o2 : B2.ownsRow B.heap.size 5 1 v2 D.length (D.map (Value.int .u8))) (b3 : Below B2.heap.size B2 C) (o3 : C.ownsRow B2.heap.size 5 1 v3 X.length (X.map (Value.int .u8))) : Wn17 w.heap.size (v1, v2, v3) (pt17 S D X) C := by
  have z0 := b0.size
  have z1 := b1.size
  have z2 := b2.size
  have z3 := b3.size
  have k13 : Below B.heap.size B C := b2.trans (b3.mono z2)
  refine ⟨own_base17 (own_kp16 o1 (Kp.of_below (S := fun _ => False) k13) (fun _ _ x => x)) z0, own_base17 (own_kp o2 (Kp.of_below (S := fun _ => False) b3) (fun _ _ x => x)) (by omega), own_base17 o3 (by omega), ?_, ?_, ?_⟩
  · intro g e1 e2
    have := (o1.lt g e1).2
    have := (o2.lt g e2).1
    omega
  · intro g e1 e2
    have := (o1.lt g e1).2
    have := (o3.lt g e2).1
    omega
  · intro g e1 e2
    have := (o2.lt g e1).2
    have := (o3.lt g e2).1
    omega
theorem four_free {w : World} {b i : Nat} {x0 x1 x2 x3 : Value} {t : TypeId} (h : w.heap[b]? = some (.cells #[x0, x1, x2, x3] t (0, 0))) : w.frozen? ⟨b, i, none⟩ = false := by simp [World.frozen?, h]
theorem four_set {w : World} {b : Nat} {x0 x1 x2 x3 : Value} {t : TypeId} (h : w.heap[b]? = some (.cells #[x0, x1, x2, x3] t (0, 0))) (u0 u1 u2 u3 : Value) : ((((w.setCell ⟨b, 0, none⟩ u0).setCell ⟨b, 1, none⟩ u1).setCell ⟨b, 2, none⟩ u2).setCell ⟨b, 3, none⟩ u3).heap[b]? = some (.cells #[u0, u1, u2, u3] t (0, 0)) := by
  simp [World.setCell, Array.getElem?_modify, h]
set_option maxRecDepth 100000 in
set_option maxHeartbeats 8000000 in
theorem pface17 {sa : Option Addr} {n sc : Nat} {da : Option Addr} {m dc : Nat} {xa : Option Addr} {k xc : Nat} {S : List St16} {D X : List Int} (w : World) (h : Ed17 w sa n S da m D xa k X) (nm : da = none → dc = 0) (nk : xa = none → xc = 0) :
    Calls Try.prog 8 #[ev16 sa n sc da m dc xa k xc] w (FaQ17 w S D X) := by
  have hb := two_boxes16 w #[.slice sa n sc, .slice da m dc, .slice xa k xc] 25 #[.slice none 0 0, .slice none 0 0, .slice none 0 0] 28
  obtain ⟨w2, hw2⟩ : ∃ w2, w2 = (w.alloc (.cells #[.slice sa n sc, .slice da m dc, .slice xa k xc] 25)).alloc (.cells #[.slice none 0 0, .slice none 0 0, .slice none 0 0] 28) := ⟨_, rfl⟩
  simp only [← hw2] at hb
  obtain ⟨bl, z2, qE, qR⟩ := hb
  obtain ⟨bE, hbE⟩ : ∃ bE, bE = w.heap.size := ⟨_, rfl⟩
  obtain ⟨bR, hbR⟩ : ∃ bR, bR = w.heap.size + 1 := ⟨_, rfl⟩
  rw [← hbE] at qE
  rw [← hbR] at qR
  have HW2 : Hid ((w.alloc (.cells #[.slice sa n sc, .slice da m dc, .slice xa k xc] 25)).alloc (.cells #[.slice none 0 0, .slice none 0 0, .slice none 0 0] 28) = w2) := hw2.symm
  have HBE : Hid (w.heap.size = bE) := hbE.symm
  have HBR : Hid (w.heap.size + 1 = bR) := hbR.symm
  have HCE : Hid (∀ W, Below w2.heap.size w2 W → W.cell? ⟨bE, 0, none⟩ = some (.slice sa n sc) ∧ W.cell? ⟨bE, 1, none⟩ = some (.slice da m dc) ∧ W.cell? ⟨bE, 2, none⟩ = some (.slice xa k xc)) := fun W hW => by
    have := (hW.block bE (by omega)).trans qE
    exact ⟨three_cell0 this, three_cell1 this, three_cell2 this⟩
  have HQR : Hid (∀ W, Below w2.heap.size w2 W → W.heap[bR]? = some (.cells #[.slice none 0 0, .slice none 0 0, .slice none 0 0] 28 (0, 0))) := fun W hW => (hW.block bR (by omega)).trans qR
  have HBL : Hid (Below w.heap.size w w2) := bl
  have hn : Hid (S.length = n) := h.hn
  have hm : Hid (D.length = m) := h.hm
  have hk : Hid (X.length = k) := h.hk
  have HC1 : Hid (∀ W, Below w2.heap.size w2 W → Calls Try.prog 19 #[.slice sa n sc] W (FsQ17 W S)) := fun W hW => pfs17 sa n sc S W (h.ss.old (bl.trans (hW.mono bl.size))) hn h.ln
  have HC2 : Hid (∀ W, Below w2.heap.size w2 W → Calls Try.prog 34 #[.slice da m dc] W (CpQ17 W D)) := fun W hW => pcp17 da m dc D W (h.sd.old (bl.trans (hW.mono bl.size))) hm h.lm nm
  have HC3 : Hid (∀ W, Below w2.heap.size w2 W → Calls Try.prog 34 #[.slice xa k xc] W (CpQ17 W X)) := fun W hW => pcp17 xa k xc X W (h.sx.old (bl.trans (hW.mono bl.size))) hk h.lk nk
  have HRW : Hid (w.heap.size ≤ bR ∧ bR < w2.heap.size) := ⟨by omega, by omega⟩
  clear h hw2 hbE hbR qE qR bl z2
  unfold ev16
  go_enter Try.func8, Try.ntmps8
  go_wp2
  rw [HW2.out, HBR.out, HBE.out]
  have g0 := HCE.out w2.drew ((Below.refl _ _).drew)
  refine plain_region16 (fun V => V.cell? ⟨bE, 0, none⟩ = some (.slice sa n sc) ∧ V.cell? ⟨bE, 1, none⟩ = some (.slice da m dc) ∧ V.cell? ⟨bE, 2, none⟩ = some (.slice xa k xc)) 10 (by kernel_rfl) g0 (fun hHeld => ?_)
  refine wpAnyK_take (i := 0) (v := .pointer (some ⟨bE, 0, none⟩)) rfl (by kernel_rfl) (by kernel_rfl) (by kernel_rfl) (by kernel_rfl) (fun _ _ _ h => h) (Or.inl ⟨by rfl, fun w hSw => by go_simp⟩) hHeld ?_
  simp only [List.getElem_toArray, List.getElem_cons_zero, Act.put, List.setIfInBounds_toArray, List.set_cons_zero, List.set_cons_succ]
  refine wpAnyK_take (i := 1) (v := .slice sa n sc) rfl (by kernel_rfl) (by kernel_rfl) (by kernel_rfl) (by kernel_rfl) (fun _ _ _ h => h) (Or.inl ⟨by rfl, fun w hSw => by go_simp⟩) hHeld ?_
  simp only [List.getElem_toArray, List.getElem_cons_zero, List.getElem_cons_succ, Act.put, List.setIfInBounds_toArray, List.set_cons_zero, List.set_cons_succ]
  refine wpAnyK_take (i := 3) (v := .pointer (some ⟨bE, 1, none⟩)) rfl (by kernel_rfl) (by kernel_rfl) (by kernel_rfl) (by kernel_rfl) (fun _ _ _ h => h) (Or.inl ⟨by rfl, fun w hSw => by go_simp⟩) hHeld ?_
  simp only [List.getElem_toArray, List.getElem_cons_zero, List.getElem_cons_succ, Act.put, List.setIfInBounds_toArray, List.set_cons_zero, List.set_cons_succ]
  refine wpAnyK_take (i := 4) (v := .slice da m dc) rfl (by kernel_rfl) (by kernel_rfl) (by kernel_rfl) (by kernel_rfl) (fun _ _ _ h => h) (Or.inl ⟨by rfl, fun w hSw => by go_simp⟩) hHeld ?_
  simp only [List.getElem_toArray, List.getElem_cons_zero, List.getElem_cons_succ, Act.put, List.setIfInBounds_toArray, List.set_cons_zero, List.set_cons_succ]
  refine wpAnyK_take (i := 6) (v := .pointer (some ⟨bE, 2, none⟩)) rfl (by kernel_rfl) (by kernel_rfl) (by kernel_rfl) (by kernel_rfl) (fun _ _ _ h => h) (Or.inl ⟨by rfl, fun w hSw => by go_simp⟩) hHeld ?_
  simp only [List.getElem_toArray, List.getElem_cons_zero, List.getElem_cons_succ, Act.put, List.setIfInBounds_toArray, List.set_cons_zero, List.set_cons_succ]
  refine wpAnyK_take (i := 7) (v := .slice xa k xc) rfl (by kernel_rfl) (by kernel_rfl) (by kernel_rfl) (by kernel_rfl) (fun _ _ _ h => h) (Or.inl ⟨by rfl, fun w hSw => by go_simp⟩) hHeld ?_
  simp only [List.getElem_toArray, List.getElem_cons_zero, List.getElem_cons_succ, Act.put, List.setIfInBounds_toArray, List.set_cons_zero, List.set_cons_succ]
  have bd : Below w2.heap.size w2 w2.drew := (Below.refl _ _).drew
  refine wpAnyK_one (i := 2) (by kernel_rfl) rfl (fun K hK => ?_)
  (try simp only [List.getElem_toArray, List.getElem_cons_zero, List.getElem_cons_succ, Act.put, List.setIfInBounds_toArray, List.set_cons_zero, List.set_cons_succ])
  go_simp
  refine (HC1.out w2.drew bd).mono ?_
  rintro e3 w3 ⟨v1, rfl, o1, b3⟩
  have b3' : Below w2.heap.size w2 w3 := bd.trans (b3.mono (Nat.le_refl _))
  refine hK.out _ _ (fun _ => HCE.out w3 b3') (fun hHeld0 => ?_)
  have hHeld := hHeld0 (by decide)
  clear hHeld0 hK K
  (try simp only [List.getElem_toArray, List.getElem_cons_zero, List.getElem_cons_succ, Act.put, List.setIfInBounds_toArray, List.set_cons_zero, List.set_cons_succ])
  refine wpAnyK_one (i := 5) (by kernel_rfl) rfl (fun K hK => ?_)
  (try simp only [List.getElem_toArray, List.getElem_cons_zero, List.getElem_cons_succ, Act.put, List.setIfInBounds_toArray, List.set_cons_zero, List.set_cons_succ])
  go_simp
  refine (HC2.out w3 b3').mono ?_
  rintro e4 w4 ⟨v2, rfl, o2, b4⟩
  have b4' : Below w2.heap.size w2 w4 := b3'.trans (b4.mono b3'.size)
  refine hK.out _ _ (fun _ => HCE.out w4 b4') (fun hHeld0 => ?_)
  have hHeld := hHeld0 (by decide)
  clear hHeld0 hK K
  (try simp only [List.getElem_toArray, List.getElem_cons_zero, List.getElem_cons_succ, Act.put, List.setIfInBounds_toArray, List.set_cons_zero, List.set_cons_succ])
  refine wpAnyK_one (i := 8) (by kernel_rfl) rfl (fun K hK => ?_)
  (try simp only [List.getElem_toArray, List.getElem_cons_zero, List.getElem_cons_succ, Act.put, List.setIfInBounds_toArray, List.set_cons_zero, List.set_cons_succ])
  go_simp
  refine (HC3.out w4 b4').mono ?_
  rintro e5 w5 ⟨v3, rfl, o3, b5⟩
  have b5' : Below w2.heap.size w2 w5 := b4'.trans (b5.mono b4'.size)
  obtain ⟨p1, l1, c1, eq1⟩ := own_sl17' o1
  obtain ⟨p2, l2, c2, eq2⟩ := own_sl17' o2
  obtain ⟨p3, l3, c3, eq3⟩ := own_sl17' o3
  have hbl := HBL.out
  have HWN : Hid (Wn17 w.heap.size (v1, v2, v3) (pt17 S D X) w5) := wn17_of hbl.drew o1 b3 b4 o2 b5 o3
  have qR5 := HQR.out w5 b5'
  have r0 := three_cell0 qR5
  have r1 := three_cell1 qR5
  have r2 := three_cell2 qR5
  have f0 := three_free qR5 0
  have f1 := three_free qR5 1
  have f2 := three_free qR5 2
  have HQ5 : Hid (w5.heap[bR]? = some (.cells #[.slice none 0 0, .slice none 0 0, .slice none 0 0] 28 (0, 0))) := qR5
  have HB5 : Hid (Below w.heap.size w w5) := hbl.trans (b5'.mono hbl.size)
  have HLT : Hid (∀ j, Ft17 (v1, v2, v3) j → j ≠ bR) := fun j x => by
    have h1 := HRW.out
    have z3 := b3.size
    have z4 := b4.size
    have z2 : w2.drew.heap.size = w2.heap.size := rfl
    rcases x with x | x | x
    · have := (o1.lt j x).1; omega
    · have := (o2.lt j x).1; omega
    · have := (o3.lt j x).1; omega
  clear o1 o2 o3 b3 b4 b5 qR5 hbl
  subst eq1; subst eq2; subst eq3
  refine hK.out _ _ (fun _ => HCE.out w5 b5') (fun hHeld0 => ?_)
  have hHeld := hHeld0 (by decide)
  clear hHeld0 hK K
  (try simp only [List.getElem_toArray, List.getElem_cons_zero, List.getElem_cons_succ, Act.put, List.setIfInBounds_toArray, List.set_cons_zero, List.set_cons_succ])
  refine wpAnyK_one (i := 9) (by kernel_rfl) rfl (fun K hK => ?_)
  (try simp only [List.getElem_toArray, List.getElem_cons_zero, List.getElem_cons_succ, Act.put, List.setIfInBounds_toArray, List.set_cons_zero, List.set_cons_succ])
  go_simp
  refine hK.out _ _ (fun _ => HCE.out w5 b5') (fun hHeld0 => ?_)
  have hHeld := hHeld0 (by decide)
  clear hHeld0 hK K
  (try simp only [List.getElem_toArray, List.getElem_cons_zero, List.getElem_cons_succ, Act.put, List.setIfInBounds_toArray, List.set_cons_zero, List.set_cons_succ])
  refine wpAnyK_one (i := 10) (by kernel_rfl) rfl (fun K hK => ?_)
  simp only [List.getElem_toArray, List.getElem_cons_zero, List.getElem_cons_succ, Act.put]
  go_simp
  refine hK.out _ _ (fun h => absurd rfl h) (fun _ => ?_)
  clear hK K
  refine wpAnyK_done (by kernel_rfl) ?_ _
  go_wp2
  obtain ⟨F, hF⟩ : ∃ F, F = ((w5.setCell ⟨bR, 0, none⟩ (.slice p1 l1 c1)).setCell ⟨bR, 1, none⟩ (.slice p2 l2 c2)).setCell ⟨bR, 2, none⟩ (.slice p3 l3 c3) := ⟨_, rfl⟩
  have kF : Kp (fun j => j = bR) w5 F := by
    rw [hF]
    exact ((Kp.set (S := fun j => j = bR) rfl _).trans (Kp.set (S := fun j => j = bR) rfl _) (fun _ _ x => x)).trans (Kp.set (S := fun j => j = bR) rfl _) (fun _ _ x => x)
  have qF : F.heap[bR]? = some (.cells #[.slice p1 l1 c1, .slice p2 l2 c2, .slice p3 l3 c3] 28 (0, 0)) := by rw [hF]; exact three_set2 (three_set1 (three_set0 HQ5.out _) _) _
  rw [← hF]
  refine bodyPost_ret (v := .agg #[.slice p1 l1 c1, .slice p2 l2 c2, .slice p3 l3 c3]) (results_cell_row (fn := Try.f8) (p := 2) (ty := 28) rfl _ _ bR _ _ _ _ rfl qF Try.underlying28 rfl (by kernel_rfl)) rfl ?_
  exact ⟨_, _, _, rfl, HWN.out.kp kF (fun j x y => HLT.out j x y), HB5.out.trans (kF.below (fun j x => by have x : j = bR := x; have := HRW.out; omega) HB5.out.size)⟩
end Go.Proofs.Ytodioefbfchckaa

namespace Go.Proofs.Ytodioefbfchckaa
open Go.RowKit Go.Shelf
set_option linter.unusedVariables false

/-! Uncontrol, the landed one. -/
def UcQ17 (ty : TypeId) (w : World) (zs : List Int) (e : Ending) (w' : World) : Prop :=
  ∃ v, e = .returned (.tuple #[v, .int .i64 (un17 zs.length zs []).1]) ∧ w'.ownsRow w.heap.size ty 3 v (un17 zs.length zs []).2.length (flat16 (un17 zs.length zs []).2) ∧ Below w.heap.size w w' ∧ ∀ s ∈ (un17 zs.length zs []).2, cok17 s = true
theorem ucq17_no {ty : TypeId} {w w' : World} {zs : List Int} {x : Int} (h : un17 zs.length zs [] = (x, [])) (hb : Below w.heap.size w w') : UcQ17 ty w zs (.returned (.tuple #[.slice none 0 0, .int .i64 x])) w' := by
  refine ⟨.slice none 0 0, by rw [h], ?_, hb, by rw [h]; simp⟩
  rw [h]
  exact ⟨rfl, .inl ⟨rfl, rfl⟩⟩
theorem ucq17_ok {w V : World} {base : Nat} {ty : TypeId} {zs : List Int} {f : Nat} {acc : List St16} {ra : Option Addr} {rc : Nat} {v : Value} (h : Ui17 w base ty zs f [] acc ra rc v V) (hb : w.heap.size ≤ base) : UcQ17 ty w zs (.returned (.tuple #[v, .int .i64 0])) V := by
  have e := h.un
  rw [un17_nil] at e
  refine ⟨v, by rw [← e], ?_, h.bl, by rw [← e]; exact h.ok⟩
  rw [← e]
  exact own_base17 h.own hb
def am17 : Array Value := #[.int .u64 65536, .int .u64 65536, .int .u64 33554432]
theorem am17_cell {V : World} {b j : Nat} {t : TypeId} (q : V.heap[b]? = some (.cells am17 t (0, 0))) (hj : j < 3) : V.cell? ⟨b, j, none⟩ = some (.int .u64 (lim17 j)) := by
  match j, hj with
  | 0, _ => exact three_cell0 q
  | 1, _ => exact three_cell1 q
  | 2, _ => exact three_cell2 q
theorem ar17_cell {V : World} {b j : Nat} {t : TypeId} {l : List Int} (q : V.heap[b]? = some (.cells (ar17 l) t (0, 0))) (hj : j < 3) : V.cell? ⟨b, j, none⟩ = some (.int .u64 (l.getD j 0)) := by
  match j, hj with
  | 0, _ => exact three_cell0 q
  | 1, _ => exact three_cell1 q
  | 2, _ => exact three_cell2 q
theorem ar17_free {V : World} {b j : Nat} {t : TypeId} {cs : Array Value} (q : V.heap[b]? = some (.cells cs t (0, 0))) : V.frozen? ⟨b, j, none⟩ = false := by simp [World.frozen?, q]
set_option maxRecDepth 100000 in
set_option maxHeartbeats 8000000 in
theorem puc17 (a : Option Addr) (n cap : Nat) (zs : List Int) (w : World) (hs : Seg w a zs) (hn : Hid (zs.length = n)) (hc : n ≤ cap) (hnil : a = none → cap = 0) (hl : n ≤ 5864062014804) :
    Calls Try.prog 26 #[.slice a n cap] w (UcQ17 98 w zs) := by
  obtain ⟨w1, hw1⟩ : ∃ w1, w1 = w.alloc (.cells am17 108) := ⟨_, rfl⟩
  have c1 : Cb16 w am17 108 w1 := by rw [hw1]; exact cb16 _ _ _
  obtain ⟨b4, hb4⟩ : ∃ b4, b4 = w.heap.size := ⟨_, rfl⟩
  have q4 : w1.heap[b4]? = some (.cells am17 108 (0, 0)) := by rw [hb4]; exact c1.cl
  have HZ : Hid (Calls Try.prog 49 #[.int .i64 16777216] w fun e w' => e = .returned (.int .u64 33554432) ∧ w' = w) := zig_any 16777216 w (by decide) (by decide)
  have HW1 : Hid (w.alloc (.cells #[.int .u64 65536, .int .u64 65536, .int .u64 33554432] 108) = w1) := hw1.symm
  have HB4 : Hid (w.heap.size = b4) := hb4.symm
  have H0 : Hid (Ui17 w (w.heap.size + 1) 98 zs n zs [] a cap (.slice none 0 0) w1) := ⟨hs.old c1.bl, by rw [hn.out]; exact hc, hnil, ⟨rfl, .inl ⟨rfl, rfl⟩⟩, by rw [hn.out], by rw [hn.out]; exact Nat.le_refl _, by simp, by simp, c1.bl, by rw [c1.sz]; exact Nat.le_refl _⟩
  have HX0 : Hid (∀ x off, a = some ⟨x, off, none⟩ → 0 < zs.length → x < w.heap.size) := hs.lt
  have HN : Hid (zs.length = n) := hn
  clear hw1 c1 hb4 hs hn hc hnil
  go_enter Try.func26, Try.ntmps26
  go_wp2_with fail
  refine HZ.out.mono ?_
  rintro e w' ⟨rfl, hw'⟩
  subst w'
  clear HZ
  go_wp2_with fail
  rw [HW1.out, HB4.out]
  go_loopw [0, 5] (fun t0 t5 V => ∃ (f : Nat) (b : List Int) (acc : List St16) (ra : Option Addr) (rc : Nat) (v : Value), t0 = .slice ra b.length rc ∧ t5 = v ∧ Ui17 w (w.heap.size + 1) 98 zs f b acc ra rc v V ∧ V.heap[b4]? = some (.cells am17 108 (0, 0)) ∧ (∀ x off, ra = some ⟨x, off, none⟩ → 0 < b.length → x < w.heap.size)) (fun t0 _ _ => ln17 t0)
  case atStart =>
    refine ⟨n, zs, [], a, cap, _, by rw [HN.out], rfl, H0.out, q4, HX0.out⟩
  case round =>
    obtain ⟨f, b, acc, ra, rc, v, rfl, rfl, hU, hq4, hx⟩ := hrel
    clear H0 HX0 q4 HW1
    obtain ⟨pv, cv, hv⟩ := own_sl17 hU.own
    subst hv
    by_cases hb : b = []
    · subst hb
      have HQ : Hid (UcQ17 98 w zs (.returned (.tuple #[.slice pv acc.length cv, .int .i64 0])) wr) := ucq17_ok hU (by omega)
      clear hU hq4 hx
      generalize acc.length = k at *
      go_wp2_with fail
      go_ret2
      exact HQ.out
    · have hbl : 0 < b.length := List.length_pos_iff.2 hb
      obtain ⟨m, hm⟩ : ∃ m, m = b.length := ⟨_, rfl⟩
      have hm0 : (0 : Int) < (m : Int) := by omega
      have HM : Hid (m = b.length) := hm
      have HU : Hid (Ui17 w (w.heap.size + 1) 98 zs f b acc ra rc (.slice pv acc.length cv) wr) := hU
      have HI0 := Un17.start (rc := rc) 108 hU.seg hU.cap hU.nil
      have HI : Hid (Un17 wr b wr.heap.size 108 0 [] b ra rc (wr.alloc (.cells #[.int .u64 0, .int .u64 0, .int .u64 0] 108))) := HI0
      have hqA : (wr.alloc (.cells #[.int .u64 0, .int .u64 0, .int .u64 0] 108)).heap[b4]? = some (.cells am17 108 (0, 0)) := (((Below.refl _ _).alloc (Nat.le_refl _) _).block b4 (Array.getElem?_eq_some_iff.1 hq4).1).trans hq4
      obtain ⟨b6, hb6⟩ : ∃ b6, b6 = wr.heap.size := ⟨_, rfl⟩
      have HB6 : Hid (wr.heap.size = b6) := hb6.symm
      have HB64 : Hid (b4 < b6) := by rw [hb6]; exact (Array.getElem?_eq_some_iff.1 hq4).1
      rw [← hm]
      rw [← hb6] at HI
      clear HI0 hU hb6 hm hbl
      go_wp2_with fail
      rw [HB6.out, show decide (0 < m) = true from decide_eq_true (by omega)]
      go_loopw [0, 16] (fun t0 t16 V => ∃ (j : Nat) (l bi : List Int) (ra : Option Addr) (rc : Nat), t0 = .slice ra bi.length rc ∧ t16 = .int .i64 (j : Int) ∧ Un17 wr b b6 108 j l bi ra rc V ∧ V.heap[b4]? = some (.cells am17 108 (0, 0)) ∧ (∀ x off, ra = some ⟨x, off, none⟩ → 0 < bi.length → x < w.heap.size)) (fun _ t16 _ => 3 - (intOf t16).toNat)
      case atStart => exact ⟨0, [], b, ra, rc, by rw [HM.out], rfl, HI.out, hqA, fun x off e h => hx x off e h⟩
      case round =>
        obtain ⟨j, l, bi, ra2, rc2, rfl, rfl, hI, hq, hx2⟩ := hrel
        clear HI hqA hx hq4
        have HL : Hid (bi.length ≤ 5864062014804) := by
          show _ ≤ _
          have := hI.ln; have := HU.out.ln; have := HN.out; omega
        have HBL : Hid (Below w.heap.size w wr) := HU.out.bl.trans (hI.bl.mono HU.out.bl.size)
        by_cases hj : j < 3
        · have hj3 : (j : Int) < 3 := by omega
          have hj0 : (0 : Int) ≤ (j : Int) := by omega
          have HD := decode_any ra2 bi rc2 wr hI.seg (by have := HL.out; omega)
          obtain ⟨k, hk⟩ : ∃ k, k = bi.length := ⟨_, rfl⟩
          have H4 : Hid (∀ w', Below wr.heap.size wr w' → w'.heap[b4]? = some (.cells am17 108 (0, 0))) := fun w' h => (h.block b4 (Array.getElem?_eq_some_iff.1 hq).1).trans hq
          have HQN : Hid (∀ x w', un17 zs.length zs [] = (x, []) → Below wr.heap.size wr w' → UcQ17 98 w zs (.returned (.tuple #[.slice none 0 0, .int .i64 x])) w') := fun x w' h1 h2 => ucq17_no h1 (HBL.out.trans (h2.mono HBL.out.size))
          have HKE : Hid (∀ w', Below wr.heap.size wr w' → Un17 _ b b6 108 j l bi ra2 rc2 w') := fun w' h => hI.keep h
          rw [← hk] at HD ⊢
          have HK : Hid (k = bi.length) := hk
          clear hk
          by_cases he : (decL 0 0 bi).2.2 = 0
          · by_cases hlim : lim17 j < (decL 0 0 bi).1
            · have HNX : Hid (nx17 j bi = (171, 0, 0)) := nx17_lim he hlim
              have HNO := Un17.no HU.out hb hI hj (by rw [HNX.out]; decide)
              rw [HNX.out] at HNO
              have HQ : Hid (∀ w', Below wr.heap.size wr w' → UcQ17 98 w zs (.returned (.tuple #[.slice none 0 0, .int .i64 171])) w') := fun w' h => HQN.out 171 w' HNO h
              rw [he] at HD
              clear HNO HNX HQN HKE he hI hq hx2 HK HL HU
              generalize (decL 0 0 bi).1 = v0 at *
              generalize (decL 0 0 bi).2.1 = n0 at *
              obtain ⟨L, hL⟩ : ∃ L, L = lim17 j := ⟨_, rfl⟩
              have HLL : Hid (L = lim17 j) := hL
              rw [← hL] at hlim
              clear hL
              go_wp2_with fail
              refine HD.mono ?_
              rintro e w' ⟨rfl, b'⟩
              have c4 := am17_cell (H4.out w' b') hj
              rw [← HLL.out] at c4
              go_wp2_with fail
              go_ret2
              exact HQ.out w' b'
            · have hnx := nx17_ok he hlim
              obtain ⟨_, _, f3, f4, f5, f6, f7, f8⟩ := nx17_fact (j := j) (fun z hz => (hI.seg.mem z hz).1) (by rw [hnx])
              have he1 : (nx17 j bi).1 = 0 := by rw [hnx]
              have HST : Hid (∀ w', Below wr.heap.size wr w' → Un17 _ b b6 108 (j + 1) (l ++ [(nx17 j bi).2.1]) (bi.drop (nx17 j bi).2.2) (rs16 ra2 rc2 (nx17 j bi).2.2) (rc2 - (nx17 j bi).2.2) (w'.setCell ⟨b6, j, none⟩ (.int .u64 (nx17 j bi).2.1))) := fun w' h => (hI.keep h).step hj he1 (fun x off e hp => Nat.lt_of_lt_of_le (hx2 x off e hp) HU.out.bl.size)
              have HX3 : Hid (∀ x off, rs16 ra2 rc2 (nx17 j bi).2.2 = some ⟨x, off, none⟩ → 0 < (bi.drop (nx17 j bi).2.2).length → x < w.heap.size) := fun x off e hp => by
                obtain ⟨sg, sa⟩ := seg_rs16 (c := rc2) (d := (nx17 j bi).2.2) hI.seg f6 hI.cap
                obtain ⟨o, ho⟩ := sa x off e hp
                exact hx2 x o ho (by rw [List.length_drop] at hp; omega)
              have HCP : Hid (bi.length ≤ rc2) := hI.cap
              rw [he, ← f3, f4] at HD
              rw [← f3] at hlim
              generalize (nx17 j bi).2.1 = v0 at *
              generalize (nx17 j bi).2.2 = d at *
              have hdk : (d : Int) ≤ (k : Int) := by have := HK.out; omega
              have hdc : (d : Int) ≤ (rc2 : Int) := by have := HK.out; have := HCP.out; omega
              have hd0 : (0 : Int) ≤ (d : Int) := by omega
              obtain ⟨ax, hax⟩ : ∃ ax, ax = rs16 ra2 rc2 d := ⟨_, rfl⟩
              have hif : (if rc2 = d then ra2 else ra2.map (fun y => y.add d)) = ax := hax.symm
              rw [← hax] at HST HX3
              have HC6 : Hid (∀ w', Below wr.heap.size wr w' → w'.frozen? ⟨b6, j, none⟩ = false ∧ w'.cell? ⟨b6, j, none⟩ = some (.int .u64 (l.getD j 0))) := fun w' h => ⟨ar17_free (HKE.out w' h).q6, ar17_cell (HKE.out w' h).q6 hj⟩
              have HQ4 : Hid (∀ w' v, Below wr.heap.size wr w' → (w'.setCell ⟨b6, j, none⟩ v).heap[b4]? = some (.cells am17 108 (0, 0))) := fun w' v h => by
                have hk : Kp (fun k => k = b6) w' (w'.setCell ⟨b6, j, none⟩ v) := Kp.set (S := fun k => k = b6) rfl _
                exact hk.heap (H4.out w' h) (fun e => by have := HB64.out; omega)
              obtain ⟨L, hL⟩ : ∃ L, L = lim17 j := ⟨_, rfl⟩
              have HLL : Hid (L = lim17 j) := hL
              have HDL : Hid ((bi.drop d).length = k - d) := by show _ = _; rw [List.length_drop, HK.out]
              rw [← hL] at hlim f8
              clear hL hax f4 f3 hnx he he1 HQN HKE hI hq hx2 HK HCP f6 f5 HL HU HBL hb f7 f8
              go_wp2_with fail
              refine HD.mono ?_
              rintro e w' ⟨rfl, b'⟩
              have c4 := am17_cell (H4.out w' b') hj
              rw [← HLL.out] at c4
              obtain ⟨g1, g2⟩ := HC6.out w' b'
              have HS := HST.out w' b'
              have HS : Hid _ := HS
              have HQ := HQ4.out w' (.int .u64 v0) b'
              clear HST HQ4 HC6 H4 HD
              go_wp2_with fail
              go_region
              go_wp2_with fail
              go_roundw
              case rel => exact ⟨j + 1, l ++ [v0], bi.drop d, ax, rc2 - d, by rw [HDL.out], by simp, HS.out.keep ((Below.refl _ _).drew), HQ, HX3.out⟩
              case measure => simp [intOf]; omega
          · have HNX : Hid (nx17 j bi = ((decL 0 0 bi).2.2, 0, 0)) := nx17_err he
            have HNO := Un17.no HU.out hb hI hj (by rw [HNX.out]; exact he)
            rw [HNX.out] at HNO
            have HQ : Hid (∀ w', Below wr.heap.size wr w' → UcQ17 98 w zs (.returned (.tuple #[.slice none 0 0, .int .i64 (decL 0 0 bi).2.2])) w') := fun w' h => HQN.out _ w' HNO h
            have he2 : ((decL 0 0 bi).2.2 != 0) = true := by simp [he]
            clear HNO HNX HQN HKE he hI hq hx2 HK HL HU
            generalize (decL 0 0 bi).1 = v0 at *
            generalize (decL 0 0 bi).2.1 = n0 at *
            generalize (decL 0 0 bi).2.2 = e0 at *
            go_wp2_with fail
            refine HD.mono ?_
            rintro e w' ⟨rfl, b'⟩
            go_wp2_with fail
            go_ret2
            exact HQ.out w' b'
        · have h3 : j = 3 := by have := hI.hj; omega
          subst h3
          obtain ⟨A, hA⟩ : ∃ A, A = l.getD 0 0 := ⟨_, rfl⟩
          obtain ⟨C, hC⟩ : ∃ C, C = l.getD 1 0 := ⟨_, rfl⟩
          obtain ⟨U, hU⟩ : ∃ U, U = l.getD 2 0 := ⟨_, rfl⟩
          have bA := hI.bd 0 (by omega)
          have bC := hI.bd 1 (by omega)
          have bU := hI.bd 2 (by omega)
          have kA : 0 ≤ A ∧ A ≤ 65536 := by rw [hA]; exact bA
          have kC : 0 ≤ C ∧ C ≤ 65536 := by rw [hC]; exact bC
          have kU : 0 ≤ U ∧ U ≤ 33554432 := by rw [hU]; exact bU
          have HCL : Hid (∀ V : World, V.heap[b6]? = some (.cells (ar17 l) 108 (0, 0)) → V.cell? ⟨b6, 0, none⟩ = some (.int .u64 A) ∧ V.cell? ⟨b6, 1, none⟩ = some (.int .u64 C) ∧ V.cell? ⟨b6, 2, none⟩ = some (.int .u64 U)) := fun V h => by
            rw [hA, hC, hU]
            exact ⟨ar17_cell h (by omega), ar17_cell h (by omega), ar17_cell h (by omega)⟩
          have oW := own_kp16 HU.out.own (Kp.of_below (S := fun _ => False) hI.bl) (fun _ _ x => x)
          obtain ⟨g, rg, wE, hr, ow, k1, -⟩ := apps17 wr.drew (A, C, zagI U) oW.drew (by have := HU.out.ln; have := HN.out; omega) (Nat.le_trans HU.out.bs hI.bl.size)
          have hlt := HU.out.own.lt
          have qE := k1.heap hI.q6 (fun e => by have := (hlt b6 e).2; have := hI.old; omega)
          have q4E := k1.heap hq (fun e => by have := (hlt b4 e).1; have := HB4.out; omega)
          have sE : Seg wE ra2 bi := hI.seg.drew.kp k1 (fun x off e hp hx => by have := (hlt x hx).1; have := hx2 x off e hp; omega)
          have BE : Below w.heap.size w wE := HBL.out.drew.trans (k1.below (fun k x => by have := (hlt k x).1; omega) HBL.out.size)
          have zE : w.heap.size + 1 ≤ wE.heap.size := by
            have h1 := (Array.getElem?_eq_some_iff.1 q4E).1
            have := HB4.out
            omega
          have hFin := Un17.fin HU.out hb hI sE BE zE (by rw [← hA, ← hC, ← hU]; exact ow)
          have HF : Hid (∃ f', Ui17 w (w.heap.size + 1) 98 zs f' bi (acc ++ [sp17 l]) ra2 rc2 (.slice (some ⟨g, 0, none⟩) (acc.length + 1) rg) wE) := hFin
          have HME : Hid (bi.length < m) := by
            show _ < _
            have := hI.ln; have := HM.out; omega
          have HS0 := HCL.out wr.drew hI.q6
          have HS1 : Hid (∀ o, (wr.alloc o).drew.cell? ⟨b6, 0, none⟩ = some (.int .u64 A) ∧ (wr.alloc o).drew.cell? ⟨b6, 1, none⟩ = some (.int .u64 C) ∧ (wr.alloc o).drew.cell? ⟨b6, 2, none⟩ = some (.int .u64 U)) := fun o => HCL.out _ ((((Below.refl _ _).alloc (Nat.le_refl _) o).block b6 (Array.getElem?_eq_some_iff.1 hI.q6).1).trans hI.q6)
          have HS2 := HCL.out wE qE
          have HZ : Hid (∀ V, Calls Try.prog 53 #[.int .u64 U] V fun e w' => e = .returned (.int .i64 (zagI U)) ∧ w' = V) := fun V => zag_any U V kU.1 (by omega)
          have hwA : IntKind.i64.wrap A = A := IntWalk.i64_in _ (by omega)
          have hwC : IntKind.i64.wrap C = C := IntWalk.i64_in _ (by omega)
          have HR : Hid ((Builtin.append_ #[26, 26] 26 #[.slice pv acc.length cv, .slice (some ⟨wr.heap.size, 0, none⟩) 1 1]).run Try.prog (wr.alloc (.cells #[.int .i64 A, .int .i64 C, .int .i64 (zagI U)] 98)).drew = .ok (.slice (some ⟨g, 0, none⟩) (acc.length + 1) rg) wE) := hr
          have HX3 : Hid (∀ x off, ra2 = some ⟨x, off, none⟩ → 0 < bi.length → x < w.heap.size) := hx2
          clear hA hC hU bA bC bU HCL oW hr ow k1 hlt qE sE BE zE hFin hI hq hx2 HU HBL HL hj
          generalize zagI U = Z at *
          generalize hal : acc.length = al at *
          have HAL : Hid (acc.length = al) := hal
          clear hal
          go_wp2_with fail
          refine plain_region16 (fun V => V.cell? ⟨b6, 0, none⟩ = some (.int .u64 A) ∧ V.cell? ⟨b6, 1, none⟩ = some (.int .u64 C) ∧ V.cell? ⟨b6, 2, none⟩ = some (.int .u64 U)) 13 (by kernel_rfl) HS0 (fun hHeld => ?_)
          refine wpAnyK_take (i := 0) (v := .slice pv al cv) rfl (by kernel_rfl) (by kernel_rfl) (by kernel_rfl) (by kernel_rfl) (fun _ _ _ h => h) (Or.inl ⟨by rfl, fun w hSw => by go_simp⟩) hHeld ?_
          simp only [List.getElem_toArray, List.getElem_cons_zero, Act.put, List.setIfInBounds_toArray, List.set_cons_zero, List.set_cons_succ]
          refine wpAnyK_take (i := 1) (v := .pointer (some ⟨b6, 0, none⟩)) rfl (by kernel_rfl) (by kernel_rfl) (by kernel_rfl) (by kernel_rfl) (fun _ _ _ h => h) (Or.inl ⟨by rfl, fun w hSw => by go_simp⟩) hHeld ?_
          simp only [List.getElem_toArray, List.getElem_cons_zero, List.getElem_cons_succ, Act.put, List.setIfInBounds_toArray, List.set_cons_zero, List.set_cons_succ]
          refine wpAnyK_take (i := 2) (v := .int .u64 A) rfl (by kernel_rfl) (by kernel_rfl) (by kernel_rfl) (by kernel_rfl) (fun _ _ _ h => h) (Or.inl ⟨by rfl, fun w hSw => by go_simp⟩) hHeld ?_
          simp only [List.getElem_toArray, List.getElem_cons_zero, List.getElem_cons_succ, Act.put, List.setIfInBounds_toArray, List.set_cons_zero, List.set_cons_succ]
          refine wpAnyK_take (i := 3) (v := .int .i64 A) rfl (by kernel_rfl) (by kernel_rfl) (by kernel_rfl) (by kernel_rfl) (fun _ _ _ h => h) (Or.inl ⟨by rfl, fun w hSw => by go_simp⟩) hHeld ?_
          simp only [List.getElem_toArray, List.getElem_cons_zero, List.getElem_cons_succ, Act.put, List.setIfInBounds_toArray, List.set_cons_zero, List.set_cons_succ]
          refine wpAnyK_take (i := 4) (v := .pointer (some ⟨b6, 1, none⟩)) rfl (by kernel_rfl) (by kernel_rfl) (by kernel_rfl) (by kernel_rfl) (fun _ _ _ h => h) (Or.inl ⟨by rfl, fun w hSw => by go_simp⟩) hHeld ?_
          simp only [List.getElem_toArray, List.getElem_cons_zero, List.getElem_cons_succ, Act.put, List.setIfInBounds_toArray, List.set_cons_zero, List.set_cons_succ]
          refine wpAnyK_take (i := 5) (v := .int .u64 C) rfl (by kernel_rfl) (by kernel_rfl) (by kernel_rfl) (by kernel_rfl) (fun _ _ _ h => h) (Or.inl ⟨by rfl, fun w hSw => by go_simp⟩) hHeld ?_
          simp only [List.getElem_toArray, List.getElem_cons_zero, List.getElem_cons_succ, Act.put, List.setIfInBounds_toArray, List.set_cons_zero, List.set_cons_succ]
          refine wpAnyK_take (i := 6) (v := .int .i64 C) rfl (by kernel_rfl) (by kernel_rfl) (by kernel_rfl) (by kernel_rfl) (fun _ _ _ h => h) (Or.inl ⟨by rfl, fun w hSw => by go_simp⟩) hHeld ?_
          simp only [List.getElem_toArray, List.getElem_cons_zero, List.getElem_cons_succ, Act.put, List.setIfInBounds_toArray, List.set_cons_zero, List.set_cons_succ]
          refine wpAnyK_take (i := 7) (v := .pointer (some ⟨b6, 2, none⟩)) rfl (by kernel_rfl) (by kernel_rfl) (by kernel_rfl) (by kernel_rfl) (fun _ _ _ h => h) (Or.inl ⟨by rfl, fun w hSw => by go_simp⟩) hHeld ?_
          simp only [List.getElem_toArray, List.getElem_cons_zero, List.getElem_cons_succ, Act.put, List.setIfInBounds_toArray, List.set_cons_zero, List.set_cons_succ]
          refine wpAnyK_take (i := 8) (v := .int .u64 U) rfl (by kernel_rfl) (by kernel_rfl) (by kernel_rfl) (by kernel_rfl) (fun _ _ _ h => h) (Or.inl ⟨by rfl, fun w hSw => by go_simp⟩) hHeld ?_
          simp only [List.getElem_toArray, List.getElem_cons_zero, List.getElem_cons_succ, Act.put, List.setIfInBounds_toArray, List.set_cons_zero, List.set_cons_succ]
          refine wpAnyK_one (i := 9) (by kernel_rfl) rfl (fun K hK => ?_)
          (try simp only [List.getElem_toArray, List.getElem_cons_zero, List.getElem_cons_succ, Act.put, List.setIfInBounds_toArray, List.set_cons_zero, List.set_cons_succ])
          go_simp
          refine (HZ.out _).mono ?_
          rintro e9 w9 ⟨rfl, rfl⟩
          refine hK.out _ _ (fun _ => HS0) (fun hHeld0 => ?_)
          have hHeld := hHeld0 (by decide)
          clear hHeld0 hK K
          (try simp only [List.getElem_toArray, List.getElem_cons_zero, List.getElem_cons_succ, Act.put, List.setIfInBounds_toArray, List.set_cons_zero, List.set_cons_succ])
          refine wpAnyK_one (i := 10) (by kernel_rfl) rfl (fun K hK => ?_)
          (try simp only [List.getElem_toArray, List.getElem_cons_zero, List.getElem_cons_succ, Act.put, List.setIfInBounds_toArray, List.set_cons_zero, List.set_cons_succ])
          go_simp
          refine hK.out _ _ (fun _ => HS0) (fun hHeld0 => ?_)
          have hHeld := hHeld0 (by decide)
          clear hHeld0 hK K
          (try simp only [List.getElem_toArray, List.getElem_cons_zero, List.getElem_cons_succ, Act.put, List.setIfInBounds_toArray, List.set_cons_zero, List.set_cons_succ])
          refine wpAnyK_one (i := 11) (by kernel_rfl) rfl (fun K hK => ?_)
          (try simp only [List.getElem_toArray, List.getElem_cons_zero, List.getElem_cons_succ, Act.put, List.setIfInBounds_toArray, List.set_cons_zero, List.set_cons_succ])
          go_simp
          refine hK.out _ _ (fun _ => HS1.out _) (fun hHeld0 => ?_)
          have hHeld := hHeld0 (by decide)
          clear hHeld0 hK K
          (try simp only [List.getElem_toArray, List.getElem_cons_zero, List.getElem_cons_succ, Act.put, List.setIfInBounds_toArray, List.set_cons_zero, List.set_cons_succ])
          refine wpAnyK_one (i := 12) (by kernel_rfl) rfl (fun K0 hK => ?_)
          simp only [List.getElem_toArray, List.getElem_cons_zero, List.getElem_cons_succ]
          rw [if_pos (by rfl)]
          refine operwp_app16 _ _ _ rfl rfl rfl HR.out ?_
          refine hK.out _ _ (fun _ => HS2) (fun hHeld0 => ?_)
          have hHeld := hHeld0 (by decide)
          clear hHeld0 hK K0
          simp only [Act.put, List.setIfInBounds_toArray, List.set_cons_zero, List.set_cons_succ]
          refine wpAnyK_one (i := 13) (by kernel_rfl) rfl (fun K0 hK => ?_)
          (try simp only [List.getElem_toArray, List.getElem_cons_zero, List.getElem_cons_succ, Act.put, List.setIfInBounds_toArray, List.set_cons_zero, List.set_cons_succ])
          go_simp
          refine hK.out _ _ (fun _ => HS2) (fun hHeld0 => ?_)
          clear hHeld0 hK K0
          (try simp only [List.getElem_toArray, List.getElem_cons_zero, List.getElem_cons_succ, Act.put, List.setIfInBounds_toArray, List.set_cons_zero, List.set_cons_succ])
          refine wpAnyK_done (by kernel_rfl) ?_ _
          obtain ⟨f', hF⟩ := HF.out
          go_wp2_with fail
          go_roundw
          case rel => exact ⟨f', bi, acc ++ [sp17 l], ra2, rc2, _, rfl, rfl, hF, q4E, HX3.out⟩
          case measure => exact HME.out
end Go.Proofs.Ytodioefbfchckaa
