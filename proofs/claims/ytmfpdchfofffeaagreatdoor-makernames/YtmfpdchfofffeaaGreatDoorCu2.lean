import Derived.Test.YtmfpdchfofffeaaGreatDoorCu1
namespace Go.Proofs.YtmfpdchfofffeaaGreatDoor
open Go.RowKit Go.Shelf
set_option linter.unusedVariables false
attribute [local go_sem] Oper.semAt_some
set_option maxRecDepth 100000 in
theorem pwys17 (fv : Value) (w : World) (hf : ∃ g lb, fv = .func (.func g) #[] lb) : Calls Tryz.prog 59 #[fv] w fun e w' => e = .returned (.func (.func 90) #[] #[.pointer (some ⟨w.heap.size, 0, none⟩)]) ∧ Cb16 w #[fv] 121 w' := by
  obtain ⟨g, lb, rfl⟩ := hf
  go_enter Tryz.func59, Tryz.ntmps59
  go_wp2
  go_ret
  exact ⟨rfl, cb16 _ _ _⟩
def wv17 (o : Wy17) : Value := .agg #[.int .i64 o.1, .int .u8 o.2.1, .bool o.2.2]
def wL17 (l : List Wy17) : List (Array Value) := l.map fun o => #[wv17 o]
theorem wL17_len (l : List Wy17) : (wL17 l).length = l.length := by simp [wL17]
theorem wL17_get {l : List Wy17} {i : Nat} {o : Wy17} (h : l[i]? = some o) : (wL17 l)[i]? = some #[wv17 o] := by simp [wL17, h]
/-- A piece that is told lies in memory. -/
structure Pv17 (w : World) (R : Nat → Prop) (v : Array Value) (p : Pc17) : Prop where
  lies : ∃ a cap, v = #[.agg #[.int .i64 p.1, .slice a p.2.1.length cap, .bool p.2.2]] ∧ Seg w a p.2.1 ∧ ∀ b off, a = some ⟨b, off, none⟩ → 0 < p.2.1.length → R b
  bd : -1152921504606846976 ≤ p.1 ∧ p.1 ≤ 1152921504606846976
  ln : p.2.1.length ≤ 1073741824
/-- The state of ways' own loop. -/
structure Wi17 (W : World) (J : Nat → (Nat → Prop) → World → Prop) (R : Nat → Prop) (l bY N : Nat) (P : List Pc17) (i : Nat) (E F : Nat → Prop) (V : World) : Prop where
  ef : ∀ k, E k → F k
  fY : F bY
  lo : Lo16 W.heap.size F V
  j : J (of17 P i) F V
  hY : V.heap[bY]? = some (.cells #[.func (.yield l) #[] #[]] 154 (0, 0))
  kr : Kr16 R W V
  sz : N ≤ V.heap.size
theorem Wi17.step {W : World} {J : Nat → (Nat → Prop) → World → Prop} {R : Nat → Prop} {l bY N : Nat} {P : List Pc17} {i : Nat} {E E' F : Nat → Prop} {V V' : World} (hJ : Abd16 W.heap.size J) (hN : W.heap.size ≤ N) (hRl : ∀ k, R k → k < W.heap.size)
    (hl : bY < N) (h : Wi17 W J R l bY N P i E F V) (hlo : Lo16 N E V) (hk : Kp E V V') (h1 : ∀ k, E k → E' k) (h2 : ∀ k, E' k → E k ∨ V.heap.size ≤ k) (h3 : Lo16 N E' V') (G : Nat → Prop) (hG : ∀ k, G k → V.heap.size ≤ k ∧ k < V'.heap.size) : Wi17 W J R l bY N P i E' (fun k => (F k ∨ E' k) ∨ G k) V' := by
  have hs := hk.size
  have hkr : Kr16 (fun k => R k ∨ k = bY) V V' := Kr16.of_kp hk (by
    rintro k (x | x) e
    · have := hRl k x; have := hlo k e; omega
    · have := hlo k e; omega)
  have lo2 : Lo16 W.heap.size (fun k => (F k ∨ E' k) ∨ G k) V' := by
    have := h.sz
    rintro k ((x | x) | x)
    · have := h.lo k x; omega
    · have := h3 k x; omega
    · have := hG k x; omega
  refine ⟨fun k x => .inl (.inr x), .inl (.inl h.fY), lo2, ?_, hkr.heap h.hY (.inr rfl), h.kr.trans (hkr.mono fun k x => .inl x), by have := h.sz; omega⟩
  refine hJ _ F _ V V' h.j h.lo (hk.mono fun k _ x => h.ef k x) (fun k x => .inl (.inl x)) ?_ lo2
  rintro k ((x | x) | x)
  · exact .inl x
  · rcases h2 k x with y | y
    · exact .inl (h.ef k y)
    · exact .inr y
  · exact .inr (hG k x).1
theorem yb17 (P : List Pc17) {i j : Nat} {p : Pc17} (h : P[i]? = some p) (hj : j < p.2.1.length) : (wL17 (ws17 P))[of17 P i + j]? = some #[.agg #[.int .i64 (p.1 + (j : Int)), .int .u8 (p.2.1.getD j 0), .bool p.2.2]] := wL17_get (ws17_get h hj)
set_option maxRecDepth 100000 in
set_option maxHeartbeats 4000000 in
theorem ww17 (q : Nat) (hq : 2 ≤ q) (B : Nat) (R : Nat → Prop) {gf : Nat} {lb : Array Value} {L : List (Array Value)} {P : List Pc17} (w : World) (eg : ∀ args w, (callFunc gf args).run Tryz.prog w = .ok (.enter gf args) w) (hB : w.heap[B]? = some (.cells #[.func (.func gf) #[] lb] 121 (0, 0))) (SQ : Seq16 5 Tryz.prog gf lb L R w) (hL : L.length = P.length) (hv : ∀ (i : Nat) v p, L[i]? = some v → P[i]? = some p → Pv17 w R v p) (hRB : R B) (hRl : ∀ k, R k → k < w.heap.size) :
    Seq16 q Tryz.prog 90 #[.pointer (some ⟨B, 0, none⟩)] (wL17 (ws17 P)) R w := by
  intro l J PX W hW hJ hP hY h0
  have hBW := one_cell16 (hW.heap hB hRB)
  refine callsIn_of_fn16 Tryz.func90 rfl ?_
  simp only [Tryz.ntmps90, List.size_toArray, List.length_cons, List.length_nil, Nat.reduceAdd, Nat.reduceSub, Array.replicate_succ, Array.replicate_zero, List.push_toArray, List.append_toArray, List.nil_append, List.cons_append]
  refine fn16_seq (fn16_ofP ?_)
  go_wp2
  obtain ⟨W1, hW1⟩ : ∃ W1, W1 = W.alloc (.cells #[.func (.yield l) #[] #[]] 154) := ⟨_, rfl⟩
  have cb1 : Cb16 W #[.func (.yield l) #[] #[]] 154 W1 := by rw [hW1]; exact cb16 _ _ _
  rw [← hW1]
  obtain ⟨bY, hbY⟩ : ∃ bY, bY = W.heap.size := ⟨_, rfl⟩
  have HBY : Hid (bY = W.heap.size) := hbY
  rw [← hbY]
  have hB1 : W1.cell? ⟨B, 0, none⟩ = some (.func (.func gf) #[] lb) := one_cell16 ((cb1.bl.block B (Array.getElem?_eq_some_iff.1 (hW.heap hB hRB)).1).trans (hW.heap hB hRB))
  have hRW : ∀ k, R k → k < W.heap.size := fun k x => Nat.lt_of_lt_of_le (hRl k x) hW.size
  have k1 : Kr16 R W W1 := ⟨cb1.bl.size, fun k hk _ => cb1.bl.block k hk⟩
  have SQ1 := SQ.later (hW.trans k1)
  have z1 := cb1.sz
  have WI0 : Wi17 W J R l bY W1.heap.size P 0 (fun _ => False) (fun k => k = bY) W1 := by
    have hlo : Lo16 W.heap.size (fun k => k = bY) W1 := by
      rintro k x; omega
    refine ⟨fun k x => x.elim, rfl, hlo, ?_, by rw [hbY]; exact cb1.cl, k1, Nat.le_refl _⟩
    rw [of17_zero]
    exact hJ 0 (fun _ => False) _ W W1 h0 (fun k x => x.elim) (.of_below cb1.bl) (fun k x => x.elim) (fun k x => .inr (hlo k x).1) hlo
  have hN : W.heap.size ≤ W1.heap.size := by omega
  have hll : bY < W1.heap.size := by omega
  have hPW : ∀ (i : Nat) v p, L[i]? = some v → P[i]? = some p → Pv17 W R v p := fun i v p x y => by
    have := hv i v p x y
    obtain ⟨a, cap, e1, e2, e3⟩ := this.lies
    exact ⟨⟨a, cap, e1, e2.kr hW e3, e3⟩, this.bd, this.ln⟩
  clear hW1 hbY cb1 SQ hv hB hBW z1
  refine fn16_seq (fn16_ofP ?_)
  go_wp2
  refine fn16_block ?_
  refine range16 (n := 5) (w := W1) Tryz.func90 (gf := gf) (lb := lb) ?_ eg ?_ SQ1 ?_
    (fun i E V => ∃ F, Wi17 W J R l bY W1.heap.size P i E F V) ?_ (fun ch E V => ∃ F, (∀ k, E k → F k) ∧ Lo16 W.heap.size F V ∧ PX ch F V) ?_ ?_ ?_ ?_ ?_
  · rfl
  · intro k hk; have := hRW k hk; omega
  · intro v hv
    obtain ⟨i, hi, rfl⟩ := List.getElem_of_mem hv
    obtain ⟨a, cap, e1, _, _⟩ := (hPW i L[i] P[i] (List.getElem?_eq_getElem hi) (List.getElem?_eq_getElem (by omega))).lies
    rw [e1]; rfl
  · rintro i E E' A A' ⟨F, hF⟩ hlo hk h1 h2 h3
    exact ⟨_, hF.step hJ hN hRW hll hlo hk h1 h2 h3 (fun _ => False) (fun k x => x.elim)⟩
  · rintro ch E E' A A' ⟨F, f1, f2, f3⟩ hlo hk h1 h2 h3
    have lo2 : Lo16 W.heap.size (fun k => F k ∨ E' k) A' := by
      have hs := hk.size
      rintro k (x | x)
      · have := f2 k x; omega
      · have := h3 k x; omega
    refine ⟨fun k => F k ∨ E' k, fun k x => .inr x, lo2, hP ch F _ A A' f3 f2 (hk.mono fun k _ x => f1 k x) (fun k x => .inl x) ?_ lo2⟩
    rintro k (x | x)
    · exact .inl x
    · rcases h2 k x with y | y
      · exact .inl (f1 k y)
      · exact .inr y
  · exact ⟨_, WI0⟩
  · rintro l' i v E V hv ⟨F, hF⟩ hlo hEl hlr hkr
    have hi : i < P.length := by
      have := (List.getElem?_eq_some_iff.1 hv).1
      omega
    have hgp : P[i]? = some P[i] := List.getElem?_eq_getElem hi
    have hpv := hPW i v P[i] hv hgp
    have HOF : Hid (of17 P (i + 1) = of17 P i + P[i].2.1.length) := of17_succ hgp
    have HYB : Hid (∀ j, j < P[i].2.1.length → (wL17 (ws17 P))[of17 P i + j]? = some #[.agg #[.int .i64 (P[i].1 + (j : Int)), .int .u8 (P[i].2.1.getD j 0), .bool P[i].2.2]]) := fun j hj => yb17 P hgp hj
    generalize P[i] = p at *
    obtain ⟨pp, pb, pf⟩ := p
    simp only at HOF HYB
    obtain ⟨⟨a, cap, rfl, hseg, hsr⟩, hpd, hpn⟩ := hpv
    simp only at hseg hsr hpd hpn ⊢
    obtain ⟨m, hm⟩ : ∃ m, m = pb.length := ⟨_, rfl⟩
    rw [← hm] at HOF HYB hsr hpn ⊢
    have HM : Hid (m = pb.length) := hm
    obtain ⟨wA, hwA⟩ : ∃ wA, wA = V.alloc (.cells #[.int .i64 pp, .slice a m cap, .bool pf] 156) := ⟨_, rfl⟩
    have HWA : Hid (V.alloc (.cells #[.int .i64 pp, .slice a m cap, .bool pf] 156) = wA) := hwA.symm
    obtain ⟨os, hos⟩ : ∃ os, os = V.heap.size := ⟨_, rfl⟩
    have HOS : Hid (os = V.heap.size) := hos
    have cA : Cb16 V #[.int .i64 pp, .slice a m cap, .bool pf] 156 wA := by rw [hwA]; exact cb16 _ _ _
    have qA : wA.heap[os]? = some (.cells #[.int .i64 pp, .slice a m cap, .bool pf] 156 (0, 0)) := by rw [hos]; exact cA.cl
    have bA := cA.bl
    have zA := cA.sz
    have hloA : Lo16 W1.heap.size E wA := fun k x => by have := hlo k x; omega
    have OA := hF.step hJ hN hRW hll hlo (Kp.of_below bA) (fun k x => x) (fun k x => .inl x) hloA (fun k => k = os) (fun k x => by omega)
    obtain ⟨FA, hFA, hFAo⟩ : ∃ FA, Wi17 W J R l bY W1.heap.size P i E FA wA ∧ FA os := ⟨_, OA, .inr rfl⟩
    have HEL : Hid (E l') := hEl
    have hl'o : l' < os := by have := hlo l' hEl; omega
    have HLOA : Hid (Lo16 W1.heap.size E wA) := hloA
    have HVA : Hid (Kr16 (fun k => E k ∨ R k) V wA) := ⟨bA.size, fun k hk _ => bA.block k hk⟩
    clear hm hwA hos cA bA zA OA hF hlr hkr hloA hlo hEl SQ1 WI0 hgp hv
    gi_wp2
    rw [HWA.out, ← HOS.out]
    refine As16.mk HVA.out ⟨FA, hFA⟩ (fun V2 hk2 _ _ => ?_)
    have hs2 := hk2.size
    have O2' := hFA.step hJ hN hRW hll HLOA.out (hk2.mono (S' := E) (fun k _ x => by rw [show k = l' from x]; exact HEL.out)) (fun k x => x) (fun k x => .inl x) (fun k x => by have := HLOA.out k x; omega) (fun _ => False) (fun k x => x.elim)
    obtain ⟨F2, O2, F2o⟩ : ∃ F2, Wi17 W J R l bY W1.heap.size P i E F2 V2 ∧ F2 os := ⟨_, O2', .inl (.inl hFAo)⟩
    have q2 := hk2.heap qA (by show ¬ os = l'; omega)
    clear O2' hFA hFAo hk2 hs2 HWA HVA qA
    have a0 := three_cell0 q2
    have a1 := three_cell1 q2
    have a2 := three_cell2 q2
    have hYc := one_cell16 O2.hY
    have hs2 : Seg V2 a pb := hseg.kr O2.kr (by rw [← HM.out]; exact hsr)
    have HO2 : Hid (Wi17 W J R l bY W1.heap.size P i E F2 V2) := O2
    obtain ⟨b0, hb0⟩ : ∃ b0, b0 = of17 P i := ⟨_, rfl⟩
    rw [← hb0] at HYB HOF
    have hj0 : J (b0 + 0) F2 V2 := by rw [hb0]; exact O2.j
    have hF2Y : F2 bY := O2.fY
    have hlo2 := O2.lo
    have hkr2 := O2.kr
    clear O2 hb0 q2 hseg
    gi_wp2
    gi_loopw [11] (fun t11 wr => ∃ j : Nat, j ≤ m ∧ t11 = .int .i64 (j : Int) ∧ J (b0 + j) F2 wr ∧ Kr16 (fun k => F2 k ∨ R k) V2 wr) (fun t11 _ => m - (intOf t11).toNat)
    case atStart => exact ⟨0, Nat.zero_le _, rfl, hj0, Kr16.refl _ _⟩
    case round =>
      obtain ⟨j, hj, rfl, hJj, hkj⟩ := hrel
      have hYw := hkj.cell hYc (.inl hF2Y)
      have e0 := hkj.cell a0 (.inl F2o)
      have e2 := hkj.cell a2 (.inl F2o)
      have hloj : Lo16 W.heap.size F2 wr := fun k x => ⟨(hlo2 k x).1, Nat.lt_of_lt_of_le (hlo2 k x).2 hkj.size⟩
      have hkRj : Kr16 R W wr := hkr2.trans (hkj.mono fun k x => .inr x)
      by_cases hlt : j < m
      · have hji : (j : Int) < (m : Int) := by omega
        have hj0i : (0 : Int) ≤ (j : Int) := by omega
        obtain ⟨b, off, rfl, c1⟩ := (hs2.kr hkj (fun x o e hl => .inr (hsr x o e (by rw [HM.out]; exact hl)))).at_ j (by rw [← HM.out]; omega)
        have hv := hs2.bd j
        obtain ⟨fn, tmps, assign, body, hy, hR⟩ := hY (b0 + j) _ F2 wr (HYB.out j hlt) hJj hloj hkRj
        have hw1 : IntKind.i64.wrap (pp + (j : Int)) = pp + (j : Int) := IntWalk.i64_in _ (by omega)
        have HKJ : Hid (Kr16 (fun k => F2 k ∨ R k) V2 wr) := hkj
        clear hJj hkj hkRj hloj hs2 hsr
        generalize pb.getD j 0 = dv at *
        gi_wp2
        refine (roundIn_any16 hR).mono ?_
        rintro e W4 hyd
        cases e with
        | returned v =>
          obtain ⟨rfl, hJ3, hk3⟩ := hyd
          have HJ3 : Hid (J (b0 + (j + 1)) F2 W4) := hJ3
          have HK3 : Hid (Kr16 (fun k => F2 k ∨ R k) V2 W4) := HKJ.out.trans hk3
          clear hJ3 hk3 hR hy HKJ
          gi_wp2
          go_roundw
          case rel => exact ⟨j + 1, by omega, by simp, HJ3.out, HK3.out⟩
          case measure => simp [intOf]; omega
        | panicked ch =>
          obtain ⟨hx, hk3⟩ := hyd
          have HO := HO2.out
          have HX : Hid (bp16 (fun i E V => ∃ F, Wi17 W J R l bY W1.heap.size P i E F V) (fun ch E V => ∃ F, (∀ k, E k → F k) ∧ Lo16 W.heap.size F V ∧ PX ch F V) i E (fun k => E k ∨ R k) V2 (.panic ch) { tmps := #[], defers := [] } W4) := by
            refine ⟨rfl, ⟨F2, HO.ef, fun k x => ⟨(hlo2 k x).1, Nat.lt_of_lt_of_le (hlo2 k x).2 (HKJ.out.trans hk3).size⟩, hx⟩, (HKJ.out.trans hk3).mono ?_⟩
            rintro k (x | x)
            · exact .inl (HO.ef k x)
            · exact .inr x
          clear hx hk3 hR hy HKJ HO
          gi_wp2
          exact HX.out
        | outgrown => exact hyd.elim
      · have hj2 : j = m := by omega
        subst hj2
        have hneg : ¬ (j : Int) < (j : Int) := by omega
        have HO := HO2.out
        have HF : Hid ((∃ F, Wi17 W J R l bY W1.heap.size P (i + 1) E F wr) ∧ Kr16 (fun k => E k ∨ R k) V2 wr) := by
          refine ⟨⟨F2, HO.ef, HO.fY, hloj, ?_, hkj.heap HO.hY (.inl HO.fY), hkRj, Nat.le_trans HO.sz hkj.size⟩, hkj.mono ?_⟩
          · rw [HOF.out]; exact hJj
          · rintro k (x | x)
            · exact .inl (HO.ef k x)
            · exact .inr x
        clear hJj hkj hloj hkRj HO hs2 hsr hlt hj
        gi_wp2
        exact HF.out
  · rintro Dd E V hED hlo ⟨F, hF⟩ hD
    rw [hL] at hF
    have hlD := hF.ef _ hED
    have hkp : Kp F V (V.putObj Dd (.deferred none)) := Kp.put16 hlD _
    have hlo2 : Lo16 W.heap.size F (V.putObj Dd (.deferred none)) := fun k x => ⟨(hF.lo k x).1, Nat.lt_of_lt_of_le (hF.lo k x).2 hkp.size⟩
    refine ⟨by simp, .inl ⟨_, _, rfl, run_takeDeferred hD, ?_⟩⟩
    refine ⟨_, results_none rfl _ _ _, F, ?_, ?_⟩
    · rw [HBY.out]; exact hlo2
    · rw [wL17_len, ← of17_all]
      exact hJ _ F F V _ hF.j hF.lo hkp (fun k x => x) (fun k x => .inl x) hlo2
  · rintro ch Dd E V hED hlo ⟨F, f1, f2, f3⟩ hD
    have hkp : Kp F V (V.putObj Dd (.deferred none)) := Kp.put16 (f1 _ hED) _
    have hlo2 : Lo16 W.heap.size F (V.putObj Dd (.deferred none)) := fun k x => ⟨(f2 k x).1, Nat.lt_of_lt_of_le (f2 k x).2 hkp.size⟩
    refine ⟨by simp, .inl ⟨_, _, rfl, run_takeDeferred hD, ?_⟩⟩
    refine ⟨F, ?_, ?_⟩
    · rw [HBY.out]; exact hlo2
    · exact hP ch F F V _ f3 f2 hkp (fun k x => x) (fun k x => .inl x) hlo2
end Go.Proofs.YtmfpdchfofffeaaGreatDoor
