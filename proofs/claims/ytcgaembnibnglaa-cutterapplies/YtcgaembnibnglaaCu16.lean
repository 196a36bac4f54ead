
import Derived.Test.YtcgaembnibnglaaCu15
import Derived.Test.YtcgaembnibnglaaCu8
namespace Go.Proofs.Ytcgaembnibnglaa
open Go.RowKit Go.Shelf
set_option linter.unusedVariables false
set_option maxRecDepth 100000 in
theorem pcp17 (a : Option Addr) (n cap : Nat) (D : List Int) (w : World) (hs : Seg w a D) (hn : Hid (D.length = n)) (hl : n ≤ 140737488351232) (hnil : a = none → cap = 0) :
    Calls Try.prog 34 #[.slice a n cap] w (CpQ17 w D) := by
  obtain ⟨i0, hi, hz0, hz1, hz2⟩ := info_parts info_u16
  obtain ⟨wA, hwA⟩ : ∃ wA, wA = w.alloc (.cells #[] 5) := ⟨_, rfl⟩
  have cA : Cb16 w #[] 5 wA := by rw [hwA]; exact cb16 _ _ _
  have own : wA.ownsRow w.heap.size 5 1 (.slice (some ⟨w.heap.size, 0, none⟩) 0 0) 0 [] := ⟨rfl, .inr ⟨w.heap.size, 0, #[], rfl, Nat.le_refl _, cA.cl, Nat.le_refl _, by unfold maxLen; omega, rfl, rfl⟩⟩
  have sA := hs.old cA.bl
  have HB : Hid (Below w.heap.size w wA) := cA.bl
  have HBZ : Hid (w.heap.size ≤ wA.heap.size) := cA.bl.size
  have hlen : D.length ≤ 140737488351232 := by rw [hn.out]; exact hl
  rw [hwA] at own sA HB HBZ
  have hn' := hn.out
  subst hn'
  clear hwA cA
  go_enter Try.func34, Try.ntmps34
  go_wp2_with (first | (at_builtin; refine wpList_append_seg rfl (.tmp 3) (.tmp 4) 24 rfl w.heap.size 5 i0 (.int .u8 0) 1 Try.underlying24 hi hz0 hz1 hz2 rfl own sA hnil rfl rfl (by omega) (by omega) HBZ.out ?_; intro v2 w2 own2 x2 hb2))
  go_ret
  rw [Nat.zero_add, List.nil_append] at own2
  exact ⟨v2, rfl, own2, HB.out.trans hb2⟩
theorem flat17_at : ∀ (l : List St16) (i : Nat) (t : St16), l[i]? = some t → (flat16 l)[i * 3]? = some (.int .i64 t.1) ∧ (flat16 l)[i * 3 + 1]? = some (.int .i64 t.2.1) ∧ (flat16 l)[i * 3 + 2]? = some (.int .i64 t.2.2)
  | [], i, t, h => by simp at h
  | x :: l, 0, t, h => by
    have : x = t := by simpa using h
    subst this
    simp [flat16]
  | x :: l, i + 1, t, h => by
    have ih := flat17_at l i t (by simpa using h)
    have e : flat16 (x :: l) = [.int .i64 x.1, .int .i64 x.2.1, .int .i64 x.2.2] ++ flat16 l := by simp [flat16]
    rw [e]
    have e1 : (i + 1) * 3 = i * 3 + 3 := by omega
    rw [e1, show i * 3 + 3 + 1 = i * 3 + 1 + 3 by omega, show i * 3 + 3 + 2 = i * 3 + 2 + 3 by omega]
    simpa using ih
theorem own_segS17 {w : World} {base n cap : Nat} {e : TypeId} {a : Option Addr} {l : List St16} (h : w.ownsRow base e 3 (.slice a n cap) n (flat16 l)) (hl : l.length = n) (hf : ∀ t ∈ l, Fit16 t) : SegS w a l := by
  refine ⟨fun i hi => ?_, hf⟩
  rcases h.2 with ⟨_, h0⟩ | ⟨g, cp, cur, hv, _⟩
  · omega
  simp only [Value.slice.injEq] at hv
  obtain ⟨rfl, _, rfl⟩ := hv
  have hc : ∀ j u, (flat16 l)[j]? = some u → w.cell? ⟨g, j, none⟩ = some u := by
    intro j u hu
    have := h.cells (g := g) rfl j u hu
    have hadd : (⟨g, 0, none⟩ : Addr).add j = ⟨g, j, none⟩ := by unfold Addr.add; split <;> simp_all
    rwa [hadd] at this
  have hg : l[i]? = some (l.getD i z16) := by simp [List.getD, hi]
  obtain ⟨q0, q1, q2⟩ := flat17_at l i _ hg
  exact ⟨g, 0, rfl, by rw [Nat.zero_add]; exact hc _ _ q0, by rw [Nat.zero_add]; exact hc _ _ q1, by rw [Nat.zero_add]; exact hc _ _ q2⟩
theorem own_base17 {w : World} {base base' n sz : Nat} {e : TypeId} {v : Value} {xs : List Value} (h : w.ownsRow base e sz v n xs) (hb : base' ≤ base) : w.ownsRow base' e sz v n xs := by
  refine ⟨h.1, ?_⟩
  rcases h.2 with h2 | ⟨g, cap, cur, hv, hg, r⟩
  · exact Or.inl h2
  · exact Or.inr ⟨g, cap, cur, hv, by omega, r⟩
def pt17 (S : List St16) (D X : List Int) : Pt17 := ⟨S, D, X, 0, 0⟩
def FaQ17 (w : World) (S : List St16) (D X : List Int) (e : Ending) (w' : World) : Prop :=
  ∃ v1 v2 v3, e = .returned (.agg #[v1, v2, v3]) ∧ Wn17 w.heap.size (v1, v2, v3) (pt17 S D X) w' ∧ Below w.heap.size w w'
def FwQ17 (w : World) (pos : Int) (S : List St16) (D X : List Int) (e : Ending) (w' : World) : Prop :=
  ∃ v1 v2 v3, e = .returned (.agg #[.int .i64 pos, v1, v2, v3]) ∧ Wn17 w.heap.size (v1, v2, v3) (pt17 S D X) w' ∧ Below w.heap.size w w'
/-- The three rows, one behind the other. -/
theorem wn17_of {w A B C : World} {S : List St16} {D X : List Int} {v1 v2 v3 : Value} (b0 : Below w.heap.size w A) (o1 : B.ownsRow A.heap.size 75 3 v1 S.length (flat16 S)) (b1 : Below A.heap.size A B) {B2 : World} (b2 : Below B.heap.size B B2) (o2 : B2.ownsRow B.heap.size 5 1 v2 D.length (D.map (Value.int .u8))) (b3 : Below B2.heap.size B2 C) (o3 : C.ownsRow B2.heap.size 5 1 v3 X.length (X.map (Value.int .u8))) : Wn17 w.heap.size (v1, v2, v3) (pt17 S D X) C := by
  have z0 := b0.size
  have z1 := b1.size
  have z2 := b2.size
  have z3 := b3.size
  have k13 : Below B.heap.size B C := b2.trans (b3.mono z2)
  refine ⟨own_base17 (own_kp16 o1 (Kp.of_below (S := fun _ => False) k13) (fun _ _ x => x)) z0, own_base17 (own_kp o2 (Kp.of_below (S := fun _ => False) b3) (fun _ _ x => x)) (by omega), own_base17 o3 (by omega), ?_, ?_, ?_⟩
  · intro g e1 e2
    have := (o1.lt g e1).2
    have := (o2.lt g e2).1
    omega
  · intro g e1 e2
    have := (o1.lt g e1).2
    have := (o3.lt g e2).1
    omega
  · intro g e1 e2
    have := (o2.lt g e1).2
    have := (o3.lt g e2).1
    omega
theorem four_free {w : World} {b i : Nat} {x0 x1 x2 x3 : Value} {t : TypeId} (h : w.heap[b]? = some (.cells #[x0, x1, x2, x3] t (0, 0))) : w.frozen? ⟨b, i, none⟩ = false := by simp [World.frozen?, h]
theorem four_set {w : World} {b : Nat} {x0 x1 x2 x3 : Value} {t : TypeId} (h : w.heap[b]? = some (.cells #[x0, x1, x2, x3] t (0, 0))) (u0 u1 u2 u3 : Value) : ((((w.setCell ⟨b, 0, none⟩ u0).setCell ⟨b, 1, none⟩ u1).setCell ⟨b, 2, none⟩ u2).setCell ⟨b, 3, none⟩ u3).heap[b]? = some (.cells #[u0, u1, u2, u3] t (0, 0)) := by
  simp [World.setCell, Array.getElem?_modify, h]
set_option maxRecDepth 100000 in
set_option maxHeartbeats 8000000 in
theorem pface17 {sa : Option Addr} {n sc : Nat} {da : Option Addr} {m dc : Nat} {xa : Option Addr} {k xc : Nat} {S : List St16} {D X : List Int} (w : World) (h : Ed17 w sa n S da m D xa k X) (nm : da = none → dc = 0) (nk : xa = none → xc = 0) :
    Calls Try.prog 10 #[ev16 sa n sc da m dc xa k xc] w (FaQ17 w S D X) := by
  have hb := two_boxes16 w #[.slice sa n sc, .slice da m dc, .slice xa k xc] 26 #[.slice none 0 0, .slice none 0 0, .slice none 0 0] 29
  obtain ⟨w2, hw2⟩ : ∃ w2, w2 = (w.alloc (.cells #[.slice sa n sc, .slice da m dc, .slice xa k xc] 26)).alloc (.cells #[.slice none 0 0, .slice none 0 0, .slice none 0 0] 29) := ⟨_, rfl⟩
  simp only [← hw2] at hb
  obtain ⟨bl, z2, qE, qR⟩ := hb
  obtain ⟨bE, hbE⟩ : ∃ bE, bE = w.heap.size := ⟨_, rfl⟩
  obtain ⟨bR, hbR⟩ : ∃ bR, bR = w.heap.size + 1 := ⟨_, rfl⟩
  rw [← hbE] at qE
  rw [← hbR] at qR
  have HW2 : Hid ((w.alloc (.cells #[.slice sa n sc, .slice da m dc, .slice xa k xc] 26)).alloc (.cells #[.slice none 0 0, .slice none 0 0, .slice none 0 0] 29) = w2) := hw2.symm
  have HBE : Hid (w.heap.size = bE) := hbE.symm
  have HBR : Hid (w.heap.size + 1 = bR) := hbR.symm
  have HCE : Hid (∀ W, Below w2.heap.size w2 W → W.cell? ⟨bE, 0, none⟩ = some (.slice sa n sc) ∧ W.cell? ⟨bE, 1, none⟩ = some (.slice da m dc) ∧ W.cell? ⟨bE, 2, none⟩ = some (.slice xa k xc)) := fun W hW => by
    have := (hW.block bE (by omega)).trans qE
    exact ⟨three_cell0 this, three_cell1 this, three_cell2 this⟩
  have HQR : Hid (∀ W, Below w2.heap.size w2 W → W.heap[bR]? = some (.cells #[.slice none 0 0, .slice none 0 0, .slice none 0 0] 29 (0, 0))) := fun W hW => (hW.block bR (by omega)).trans qR
  have HBL : Hid (Below w.heap.size w w2) := bl
  have hn : Hid (S.length = n) := h.hn
  have hm : Hid (D.length = m) := h.hm
  have hk : Hid (X.length = k) := h.hk
  have HC1 : Hid (∀ W, Below w2.heap.size w2 W → Calls Try.prog 28 #[.slice sa n sc] W (FsQ17 W S)) := fun W hW => pfs17 sa n sc S W (h.ss.old (bl.trans (hW.mono bl.size))) hn h.ln
  have HC2 : Hid (∀ W, Below w2.heap.size w2 W → Calls Try.prog 34 #[.slice da m dc] W (CpQ17 W D)) := fun W hW => pcp17 da m dc D W (h.sd.old (bl.trans (hW.mono bl.size))) hm h.lm nm
  have HC3 : Hid (∀ W, Below w2.heap.size w2 W → Calls Try.prog 34 #[.slice xa k xc] W (CpQ17 W X)) := fun W hW => pcp17 xa k xc X W (h.sx.old (bl.trans (hW.mono bl.size))) hk h.lk nk
  have HRW : Hid (w.heap.size ≤ bR ∧ bR < w2.heap.size) := ⟨by omega, by omega⟩
  clear h hw2 hbE hbR qE qR bl z2
  unfold ev16
  go_enter Try.func10, Try.ntmps10
  go_wp2
  rw [HW2.out, HBR.out, HBE.out]
  have g0 := HCE.out w2.drew ((Below.refl _ _).drew)
  refine plain_region16 (fun V => V.cell? ⟨bE, 0, none⟩ = some (.slice sa n sc) ∧ V.cell? ⟨bE, 1, none⟩ = some (.slice da m dc) ∧ V.cell? ⟨bE, 2, none⟩ = some (.slice xa k xc)) 10 (by kernel_rfl) g0 (fun hHeld => ?_)
  refine wpAnyK_take (i := 0) (v := .pointer (some ⟨bE, 0, none⟩)) rfl (by kernel_rfl) (by kernel_rfl) (by kernel_rfl) (by kernel_rfl) (fun _ _ _ h => h) (Or.inl ⟨by rfl, fun w hSw => by go_simp⟩) hHeld ?_
  simp only [List.getElem_toArray, List.getElem_cons_zero, Act.put, List.setIfInBounds_toArray, List.set_cons_zero, List.set_cons_succ]
  refine wpAnyK_take (i := 1) (v := .slice sa n sc) rfl (by kernel_rfl) (by kernel_rfl) (by kernel_rfl) (by kernel_rfl) (fun _ _ _ h => h) (Or.inl ⟨by rfl, fun w hSw => by go_simp⟩) hHeld ?_
  simp only [List.getElem_toArray, List.getElem_cons_zero, List.getElem_cons_succ, Act.put, List.setIfInBounds_toArray, List.set_cons_zero, List.set_cons_succ]
  refine wpAnyK_take (i := 3) (v := .pointer (some ⟨bE, 1, none⟩)) rfl (by kernel_rfl) (by kernel_rfl) (by kernel_rfl) (by kernel_rfl) (fun _ _ _ h => h) (Or.inl ⟨by rfl, fun w hSw => by go_simp⟩) hHeld ?_
  simp only [List.getElem_toArray, List.getElem_cons_zero, List.getElem_cons_succ, Act.put, List.setIfInBounds_toArray, List.set_cons_zero, List.set_cons_succ]
  refine wpAnyK_take (i := 4) (v := .slice da m dc) rfl (by kernel_rfl) (by kernel_rfl) (by kernel_rfl) (by kernel_rfl) (fun _ _ _ h => h) (Or.inl ⟨by rfl, fun w hSw => by go_simp⟩) hHeld ?_
  simp only [List.getElem_toArray, List.getElem_cons_zero, List.getElem_cons_succ, Act.put, List.setIfInBounds_toArray, List.set_cons_zero, List.set_cons_succ]
  refine wpAnyK_take (i := 6) (v := .pointer (some ⟨bE, 2, none⟩)) rfl (by kernel_rfl) (by kernel_rfl) (by kernel_rfl) (by kernel_rfl) (fun _ _ _ h => h) (Or.inl ⟨by rfl, fun w hSw => by go_simp⟩) hHeld ?_
  simp only [List.getElem_toArray, List.getElem_cons_zero, List.getElem_cons_succ, Act.put, List.setIfInBounds_toArray, List.set_cons_zero, List.set_cons_succ]
  refine wpAnyK_take (i := 7) (v := .slice xa k xc) rfl (by kernel_rfl) (by kernel_rfl) (by kernel_rfl) (by kernel_rfl) (fun _ _ _ h => h) (Or.inl ⟨by rfl, fun w hSw => by go_simp⟩) hHeld ?_
  simp only [List.getElem_toArray, List.getElem_cons_zero, List.getElem_cons_succ, Act.put, List.setIfInBounds_toArray, List.set_cons_zero, List.set_cons_succ]
  have bd : Below w2.heap.size w2 w2.drew := (Below.refl _ _).drew
  refine wpAnyK_one (i := 2) (by kernel_rfl) rfl (fun K hK => ?_)
  (try simp only [List.getElem_toArray, List.getElem_cons_zero, List.getElem_cons_succ, Act.put, List.setIfInBounds_toArray, List.set_cons_zero, List.set_cons_succ])
  go_simp
  refine (HC1.out w2.drew bd).mono ?_
  rintro e3 w3 ⟨v1, rfl, o1, b3⟩
  have b3' : Below w2.heap.size w2 w3 := bd.trans (b3.mono (Nat.le_refl _))
  refine hK.out _ _ (fun _ => HCE.out w3 b3') (fun hHeld0 => ?_)
  have hHeld := hHeld0 (by decide)
  clear hHeld0 hK K
  (try simp only [List.getElem_toArray, List.getElem_cons_zero, List.getElem_cons_succ, Act.put, List.setIfInBounds_toArray, List.set_cons_zero, List.set_cons_succ])
  refine wpAnyK_one (i := 5) (by kernel_rfl) rfl (fun K hK => ?_)
  (try simp only [List.getElem_toArray, List.getElem_cons_zero, List.getElem_cons_succ, Act.put, List.setIfInBounds_toArray, List.set_cons_zero, List.set_cons_succ])
  go_simp
  refine (HC2.out w3 b3').mono ?_
  rintro e4 w4 ⟨v2, rfl, o2, b4⟩
  have b4' : Below w2.heap.size w2 w4 := b3'.trans (b4.mono b3'.size)
  refine hK.out _ _ (fun _ => HCE.out w4 b4') (fun hHeld0 => ?_)
  have hHeld := hHeld0 (by decide)
  clear hHeld0 hK K
  (try simp only [List.getElem_toArray, List.getElem_cons_zero, List.getElem_cons_succ, Act.put, List.setIfInBounds_toArray, List.set_cons_zero, List.set_cons_succ])
  refine wpAnyK_one (i := 8) (by kernel_rfl) rfl (fun K hK => ?_)
  (try simp only [List.getElem_toArray, List.getElem_cons_zero, List.getElem_cons_succ, Act.put, List.setIfInBounds_toArray, List.set_cons_zero, List.set_cons_succ])
  go_simp
  refine (HC3.out w4 b4').mono ?_
  rintro e5 w5 ⟨v3, rfl, o3, b5⟩
  have b5' : Below w2.heap.size w2 w5 := b4'.trans (b5.mono b4'.size)
  obtain ⟨p1, l1, c1, eq1⟩ := own_sl17' o1
  obtain ⟨p2, l2, c2, eq2⟩ := own_sl17' o2
  obtain ⟨p3, l3, c3, eq3⟩ := own_sl17' o3
  have hbl := HBL.out
  have HWN : Hid (Wn17 w.heap.size (v1, v2, v3) (pt17 S D X) w5) := wn17_of hbl.drew o1 b3 b4 o2 b5 o3
  have qR5 := HQR.out w5 b5'
  have r0 := three_cell0 qR5
  have r1 := three_cell1 qR5
  have r2 := three_cell2 qR5
  have f0 := three_free qR5 0
  have f1 := three_free qR5 1
  have f2 := three_free qR5 2
  have HQ5 : Hid (w5.heap[bR]? = some (.cells #[.slice none 0 0, .slice none 0 0, .slice none 0 0] 29 (0, 0))) := qR5
  have HB5 : Hid (Below w.heap.size w w5) := hbl.trans (b5'.mono hbl.size)
  have HLT : Hid (∀ j, Ft17 (v1, v2, v3) j → j ≠ bR) := fun j x => by
    have h1 := HRW.out
    have z3 := b3.size
    have z4 := b4.size
    have z2 : w2.drew.heap.size = w2.heap.size := rfl
    rcases x with x | x | x
    · have := (o1.lt j x).1; omega
    · have := (o2.lt j x).1; omega
    · have := (o3.lt j x).1; omega
  clear o1 o2 o3 b3 b4 b5 qR5 hbl
  subst eq1; subst eq2; subst eq3
  refine hK.out _ _ (fun _ => HCE.out w5 b5') (fun hHeld0 => ?_)
  have hHeld := hHeld0 (by decide)
  clear hHeld0 hK K
  (try simp only [List.getElem_toArray, List.getElem_cons_zero, List.getElem_cons_succ, Act.put, List.setIfInBounds_toArray, List.set_cons_zero, List.set_cons_succ])
  refine wpAnyK_one (i := 9) (by kernel_rfl) rfl (fun K hK => ?_)
  (try simp only [List.getElem_toArray, List.getElem_cons_zero, List.getElem_cons_succ, Act.put, List.setIfInBounds_toArray, List.set_cons_zero, List.set_cons_succ])
  go_simp
  refine hK.out _ _ (fun _ => HCE.out w5 b5') (fun hHeld0 => ?_)
  have hHeld := hHeld0 (by decide)
  clear hHeld0 hK K
  (try simp only [List.getElem_toArray, List.getElem_cons_zero, List.getElem_cons_succ, Act.put, List.setIfInBounds_toArray, List.set_cons_zero, List.set_cons_succ])
  refine wpAnyK_one (i := 10) (by kernel_rfl) rfl (fun K hK => ?_)
  simp only [List.getElem_toArray, List.getElem_cons_zero, List.getElem_cons_succ, Act.put]
  go_simp
  refine hK.out _ _ (fun h => absurd rfl h) (fun _ => ?_)
  clear hK K
  refine wpAnyK_done (by kernel_rfl) ?_ _
  go_wp2
  obtain ⟨F, hF⟩ : ∃ F, F = ((w5.setCell ⟨bR, 0, none⟩ (.slice p1 l1 c1)).setCell ⟨bR, 1, none⟩ (.slice p2 l2 c2)).setCell ⟨bR, 2, none⟩ (.slice p3 l3 c3) := ⟨_, rfl⟩
  have kF : Kp (fun j => j = bR) w5 F := by
    rw [hF]
    exact ((Kp.set (S := fun j => j = bR) rfl _).trans (Kp.set (S := fun j => j = bR) rfl _) (fun _ _ x => x)).trans (Kp.set (S := fun j => j = bR) rfl _) (fun _ _ x => x)
  have qF : F.heap[bR]? = some (.cells #[.slice p1 l1 c1, .slice p2 l2 c2, .slice p3 l3 c3] 29 (0, 0)) := by rw [hF]; exact three_set2 (three_set1 (three_set0 HQ5.out _) _) _
  rw [← hF]
  refine bodyPost_ret (v := .agg #[.slice p1 l1 c1, .slice p2 l2 c2, .slice p3 l3 c3]) (results_cell_row (fn := Try.f10) (p := 2) (ty := 29) rfl _ _ bR _ _ _ _ rfl qF Try.underlying29 rfl (by kernel_rfl)) rfl ?_
  exact ⟨_, _, _, rfl, HWN.out.kp kF (fun j x y => HLT.out j x y), HB5.out.trans (kF.below (fun j x => by have x : j = bR := x; have := HRW.out; omega) HB5.out.size)⟩
end Go.Proofs.Ytcgaembnibnglaa
