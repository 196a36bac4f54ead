
import Derived.Test.YtgbpejnafgllpaaEd16
namespace Go.Proofs.Ytgbpejnafgllpaa
open Go.RowKit Go.Shelf
set_option linter.unusedVariables false
attribute [local go_sem] Oper.semAt_some

/-! normal: the edit whose bytes have these origins. -/
/-- Between two rounds. -/
structure Ni16 (w : World) (R : Nat → Prop) (bo be bw : Nat) (O : List Og16) (i : Nat) (E : Nat → Prop) (vS vD vX : Value) (s : Wt16) (W : World) : Prop where
  hs : wr16 (O.take i) = some s
  bd : Bd16 s i
  wr : Wr16 w.heap.size bw vS vD vX s 0 W
  ho : W.heap[bo]? = some (.cells #[.slice none 0 0, .slice none 0 0, .slice none 0 0] 25 (0, 0))
  he : W.heap[be]? = some (.cells #[.int .i64 0] 29 (0, 0))
  bl : Below w.heap.size w W
  nf : ∀ k, Wf16 bw vS vD vX k → ¬ E k ∧ ¬ R k ∧ k ≠ bo ∧ k ≠ be
structure Np16 (w : World) (bo be : Nat) (O : List Og16) (ch : List PanicEntry) (W : World) : Prop where
  ch : ch = pn16
  no : wr16 O = none
  ho : W.heap[bo]? = some (.cells #[.slice none 0 0, .slice none 0 0, .slice none 0 0] 25 (0, 0))
  he : W.heap[be]? = some (.cells #[.int .i64 0] 29 (0, 0))
  bl : Below w.heap.size w W
variable {w : World} {R : Nat → Prop} {bo be bw : Nat} {O : List Og16} {i : Nat} {E : Nat → Prop} {vS vD vX : Value} {s : Wt16} {W W' : World}
theorem Ni16.kp {E' : Nat → Prop} (h : Ni16 w R bo be bw O i E vS vD vX s W) {K : Nat → Prop} (hk : Kp K W W') (hK : ∀ k, K k → w.heap.size ≤ k ∧ k ≠ bo ∧ k ≠ be ∧ ¬ Wf16 bw vS vD vX k) (hE : ∀ k, E' k → E k ∨ W.heap.size ≤ k) : Ni16 w R bo be bw O i E' vS vD vX s W' :=
  ⟨h.hs, h.bd, h.wr.kp hk (fun k x y => (hK k y).2.2.2 x), hk.heap h.ho (fun x => (hK _ x).2.1 rfl), hk.heap h.he (fun x => (hK _ x).2.2.1 rfl), h.bl.trans (hk.below (fun k x => (hK k x).1) h.bl.size), fun k x => by
    obtain ⟨y1, y2, y3⟩ := h.nf k x
    refine ⟨fun z => ?_, y2, y3⟩
    rcases hE k z with q | q
    · exact y1 q
    · have := (h.wr.lt k x).2; omega⟩
/-- What normal answers. -/
def NoQ16 (w : World) (r : Option Wt16) (e : Ending) (w' : World) : Prop :=
  match r with
  | some s => ∃ vS vD vX, e = .returned (.tuple #[.agg #[vS, vD, vX], .int .i64 0]) ∧ w'.ownsRow w.heap.size 53 3 vS s.fin.length (flat16 s.fin) ∧ w'.ownsRow w.heap.size 5 1 vD s.D.length (s.D.map (Value.int .u8)) ∧ w'.ownsRow w.heap.size 5 1 vX s.X.length (s.X.map (Value.int .u8)) ∧ Below w.heap.size w w'
  | none => e = .returned (.tuple #[.agg #[.slice none 0 0, .slice none 0 0, .slice none 0 0], .int .i64 160]) ∧ Below w.heap.size w w'
theorem three_new16 (w : World) (v1 v2 v3 : Array Value) (t1 t2 t3 : TypeId) : let V := ((w.alloc (.cells v1 t1)).alloc (.cells v2 t2)).alloc (.cells v3 t3)
    Below w.heap.size w V ∧ V.heap.size = w.heap.size + 3 ∧ V.heap[w.heap.size]? = some (.cells v1 t1 (0, 0)) ∧ V.heap[w.heap.size + 1]? = some (.cells v2 t2 (0, 0)) ∧ V.heap[w.heap.size + 2]? = some (.cells v3 t3 (0, 0)) := by
  obtain ⟨b1, z1, q1, q2⟩ := two_boxes16 w v1 t1 v2 t2
  refine ⟨b1.trans ((Below.refl _ _).alloc (by simp; omega) _), by simp, ?_, ?_, ?_⟩
  · exact (Below.heap_alloc _ _ w.heap.size (by simp; omega)).trans q1
  · exact (Below.heap_alloc _ _ (w.heap.size + 1) (by simp)).trans q2
  · have := heap_alloc_new ((w.alloc (.cells v1 t1)).alloc (.cells v2 t2)) (.cells v3 t3 (0, 0))
    rw [z1] at this
    exact this
theorem results_cc16 {P : Program} {fn : Func} {p q : Tmp} {ty tz : TypeId} (h : fn.results = #[.cell p ty, .cell q tz]) (tmps : Array Value) (w : World) (g : Nat) (t : TypeId) (cs : Array Value) (fr : Nat × Nat) (d : TypeDesc)
    (hp : tmps.getD p undef = .pointer (some ⟨g, 0, none⟩)) (hg : w.heap[g]? = some (.cells cs t fr))
    (hu : P.underlying ty = some d) (hd : (match d with | .struct _ | .array _ _ => true | _ => false) = true) (hi : (P.info? ty).map (·.size) = some cs.size)
    (g2 : Nat) (x : Value) (hq : tmps.getD q undef = .pointer (some ⟨g2, 0, none⟩)) (hx : (loadVar tz ⟨g2, 0, none⟩).run P w = .ok x w) :
    (results fn tmps).run P w = .ok (.tuple #[.agg cs, x]) w := by
  have e : (results fn tmps).run P w = ((asAddr (tmps.getD p undef)).run P w).andThen fun a w₁ => ((loadVar ty a).run P w₁).andThen fun x w₂ => ((asAddr (tmps.getD q undef)).run P w₂).andThen fun a' w₃ => ((loadVar tz a').run P w₃).andThen fun x' w₄ => .ok (.tuple #[x, x']) w₄ := by
    simp only [results, h]
    simp [Sem.run_bind, Result.andThen]
  rw [e, hp, hq]
  simp [asAddr, Result.andThen, run_loadVar_row w g t ty cs fr d hg hu hd hi, hx]
theorem own_nil16 {W : World} {base sz : Nat} {e : TypeId} : W.ownsRow base e sz (.slice none 0 0) 0 [] := ⟨by simp, .inl ⟨rfl, rfl⟩⟩
set_option maxRecDepth 100000 in
set_option maxHeartbeats 8000000 in
theorem pnorm16 {gf : Nat} {lb : Array Value} (eg : ∀ args w, (callFunc gf args).run Try.prog w = .ok (.enter gf args) w) (hRl : ∀ k, R k → k < w.heap.size) (SQ : Seq16 9 Try.prog gf lb (ol16 O) R w) (hO : O.length ≤ 16777216) (hat : ∀ o ∈ O, -576460752303423488 ≤ o.1 ∧ o.1 ≤ 576460752303423488) :
    Calls Try.prog 27 #[.func (.func gf) #[] lb] w (NoQ16 w (wr16 O)) := by
  have hmf : ∀ (fn : Fn) (first cap : Array Value) (w : World), (Instr.makeFunc fn first cap).run Try.prog w = .ok (.func fn first cap) w := fun _ _ _ _ => rfl
  obtain ⟨w3, hw3⟩ : ∃ w3, w3 = ((w.alloc (.cells #[.slice none 0 0, .slice none 0 0, .slice none 0 0] 25)).alloc (.cells #[.int .i64 0] 29)).alloc (.cells #[.slice none 0 0, .slice none 0 0, .slice none 0 0, .int .i64 0, .int .i64 0, .int .i64 0, .int .i64 0] 78) := ⟨_, rfl⟩
  have hn := three_new16 w #[.slice none 0 0, .slice none 0 0, .slice none 0 0] #[.int .i64 0] #[.slice none 0 0, .slice none 0 0, .slice none 0 0, .int .i64 0, .int .i64 0, .int .i64 0, .int .i64 0] 25 29 78
  simp only [← hw3] at hn
  obtain ⟨b3, z3, q1, q2, q3⟩ := hn
  refine callsIn_wide.1 (callsIn_of_fn16 (n := 9) Try.func27 rfl ?_)
  simp only [Try.ntmps27, List.size_toArray, List.length_cons, List.length_nil, Nat.reduceAdd, Nat.reduceSub, Array.replicate_succ, Array.replicate_zero, List.push_toArray, List.append_toArray, List.nil_append, List.cons_append]
  refine fn16_seq (fn16_ofP ?_)
  go_wp2
  refine fn16_seq (fn16_ofP ?_)
  go_wp2
  refine fn16_seq (fn16_ofP ?_)
  go_wp2
  rw [← hw3]
  refine fn16_seq (fn16_seq (fn16_ofP ?_))
  go_wp2
  refine fn16_block ?_
  obtain ⟨bo, hbo⟩ : ∃ bo, bo = w.heap.size := ⟨_, rfl⟩
  obtain ⟨be, hbe⟩ : ∃ be, be = w.heap.size + 1 := ⟨_, rfl⟩
  obtain ⟨bw, hbw⟩ : ∃ bw, bw = w.heap.size + 2 := ⟨_, rfl⟩
  rw [← hbw] at q3 ⊢
  rw [← hbe] at q2 ⊢
  rw [← hbo] at q1 ⊢
  have HB : Hid (bo = w.heap.size ∧ be = w.heap.size + 1 ∧ bw = w.heap.size + 2 ∧ w3.heap.size = w.heap.size + 3) := ⟨hbo, hbe, hbw, z3⟩
  have hRl3 : ∀ k, R k → k < w3.heap.size := fun k x => by have := hRl k x; omega
  have SQ3 := SQ.later (Kr16.of_kp (S := fun _ => False) (D := R) (Kp.of_below b3) (fun _ _ x => x))
  have hI0 : Ni16 w R bo be bw O 0 (fun _ => False) (.slice none 0 0) (.slice none 0 0) (.slice none 0 0) wz16 w3 := by
    refine ⟨rfl, ⟨Nat.le_refl _, Nat.le_refl _, Nat.le_refl _, Nat.le_refl _, Nat.le_refl _, by unfold wz16; simp⟩, ?_, q1, q2, b3, ?_⟩
    · exact ⟨q3, own_nil16, own_nil16, own_nil16, by simp [Value.ownBlock], by simp [Value.ownBlock], by simp [Value.ownBlock], by simp [Value.ownBlock], by simp [Value.ownBlock], by simp [Value.ownBlock], by omega⟩
    · rintro k (x | x | x | x)
      · exact ⟨fun x => x, fun y => by have := hRl k y; omega, by omega, by omega⟩
      · simp [Value.ownBlock] at x
      · simp [Value.ownBlock] at x
      · simp [Value.ownBlock] at x
  clear hw3 hbo hbe hbw q1 q2 q3 z3 SQ
  refine range16 (n := 9) (w := w3) Try.func27 (gf := gf) (lb := lb) rfl eg hRl3 SQ3 ?_
    (fun i E V => ∃ vS vD vX s, Ni16 w R bo be bw O i E vS vD vX s V) ?_ (fun ch _ V => Np16 w bo be O ch V) ?_ ⟨_, _, _, _, hI0⟩ ?_ ?_ ?_
  · intro v hv
    simp only [ol16, List.mem_map] at hv
    obtain ⟨i, _, rfl⟩ := hv
    rfl
  · rintro i E E' A B ⟨vS, vD, vX, s, hA⟩ hlo hk _ h2 _
    have hb := HB.out
    exact ⟨vS, vD, vX, s, hA.kp hk (fun k x => by have := (hlo k x).1; exact ⟨by omega, by omega, by omega, fun y => (hA.nf k y).1 x⟩) h2⟩
  · rintro ch E E' A B hA hlo hk _ h2 _
    have hb := HB.out
    exact ⟨hA.ch, hA.no, hk.heap hA.ho (fun x => by have := (hlo _ x).1; omega), hk.heap hA.he (fun x => by have := (hlo _ x).1; omega), hA.bl.trans (hk.below (fun k x => by have := (hlo k x).1; omega) hA.bl.size)⟩
  · rintro l i v E V hv ⟨vS, vD, vX, s, hA⟩ hlo hEl hlr hkr
    have hil : i < O.length := by
      have := (List.getElem?_eq_some_iff.1 hv).1
      rwa [ol16_len] at this
    have hgi : O[i]? = some O[i] := List.getElem?_eq_getElem hil
    rw [ol16_get hgi] at hv
    obtain rfl := Option.some.inj hv
    have hmem : O[i] ∈ O := List.getElem_mem hil
    have hao := hat _ hmem
    have HTK : Hid (O.take (i + 1) = O.take i ++ [O[i]]) := List.take_succ_eq_append_getElem hil
    have HDR : Hid (O = O.take (i + 1) ++ O.drop (i + 1)) := (List.take_append_drop (i + 1) O).symm
    generalize O[i] = o at *
    obtain ⟨at_, ov, ow⟩ := o
    unfold ov16
    simp only
    obtain ⟨wA, hwA⟩ : ∃ wA, wA = V.alloc (.cells #[.int .i64 at_, .int .u8 ov, .bool ow] 65) := ⟨_, rfl⟩
    have HWA : Hid (V.alloc (.cells #[.int .i64 at_, .int .u8 ov, .bool ow] 65) = wA) := hwA.symm
    have cA : Cb16 V #[.int .i64 at_, .int .u8 ov, .bool ow] 65 wA := by rw [hwA]; exact cb16 _ _ _
    obtain ⟨os, hos⟩ : ∃ os, os = V.heap.size := ⟨_, rfl⟩
    have HOS : Hid (V.heap.size = os) := hos.symm
    have hb := HB.out
    have hAA : Ni16 w R bo be bw O i E vS vD vX s wA := hA.kp (K := fun _ => False) (Kp.of_below cA.bl) (fun k x => x.elim) (fun k x => .inl x)
    have qA : wA.heap[os]? = some (.cells #[.int .i64 at_, .int .u8 ov, .bool ow] 65 (0, 0)) := by rw [hos]; exact cA.cl
    have HVA : Hid (Kr16 (fun k => E k ∨ R k) V wA) := ⟨cA.bl.size, fun k hk _ => cA.bl.block k hk⟩
    have hl'o : l < os := by have := hlo l hEl; omega
    have HEL : Hid (E l) := hEl
    have HNE : Hid (∀ k, E k → w3.heap.size ≤ k) := fun k x => (hlo k x).1
    have HNL : Hid (∀ k, E k → k < os) := fun k x => by have := (hlo k x).2; omega
    have HAA : Hid (Ni16 w R bo be bw O i E vS vD vX s wA) := hAA
    clear hwA cA hos hlo hA hlr hkr hEl hgi hv hmem hI0 SQ3 hAA hb hmf eg hat
    gi_wp2
    rw [HWA.out, HOS.out]
    refine As16.mk HVA.out ⟨_, _, _, _, HAA.out⟩ (fun V2 hk2 _ _ => ?_)
    have hA2 := HAA.out.kp (E' := E) hk2 (fun k x => by
      have x : k = l := x
      subst x
      have h1 := HNE.out _ HEL.out
      have h2 := HB.out
      exact ⟨by omega, by omega, by omega, fun y => (HAA.out.nf _ y).1 HEL.out⟩) (fun k x => .inl x)
    have qq := hk2.heap qA (by show ¬ os = l; omega)
    have a0 := three_cell0 qq
    have a1 := three_cell1 qq
    have a2 := three_cell2 qq
    have CT := ptk16 (at_, ov, ow) hA2.wr hA2.bd (by omega) hao
    have HA2 : Hid (Ni16 w R bo be bw O i E vS vD vX s V2) := hA2
    unfold ov16 at CT
    simp only at CT
    cases htk : tk16 s (at_, ov, ow) with
    | some s' =>
      rw [htk] at CT
      have HS : Hid (wr16 (O.take (i + 1)) = some s' ∧ Bd16 s' (i + 1)) := ⟨by rw [HTK.out, wr16_snoc hA2.hs]; exact htk, tk16_bd htk hA2.bd hao⟩
      clear hA2 qq qA HVA HWA hk2 htk HAA HTK HDR
      gi_wp2
      refine ⟨trivial, (CallsIn.inRound l (callsIn_wide.2 CT)).mono ?_⟩
      rintro e9 w9 ⟨rfl, vS', vD', vX', h9, k9, f9⟩
      clear CT
      gi_wp2
      have hA2 := HA2.out
      have hb := HB.out
      refine ⟨⟨vS', vD', vX', s', HS.out.1, HS.out.2, h9, k9.heap hA2.ho (fun x => (hA2.nf _ x).2.2.1 rfl), k9.heap hA2.he (fun x => (hA2.nf _ x).2.2.2 rfl), hA2.bl.trans (k9.below (fun k x => (hA2.wr.lt k x).1) hA2.bl.size), fun k x => ?_⟩, Kr16.of_kp k9 (fun k x y => ?_)⟩
      · rcases f9 k x with y | y
        · exact hA2.nf k y
        · have h1 := World.block_lt_of_cell? V2 _ a0
          have h1 : os < V2.heap.size := h1
          have h2 := hA2.bl.size
          have h3 := (Array.getElem?_eq_some_iff.1 hA2.ho).1
          have h4 := (Array.getElem?_eq_some_iff.1 hA2.he).1
          exact ⟨fun z => by have := HNL.out k z; omega, fun z => by have := hRl k z; omega, by omega, by omega⟩
      · rcases x with x | x
        · exact (hA2.nf k y).1 x
        · exact (hA2.nf k y).2.1 x
    | none =>
      rw [htk] at CT
      have HN : Hid (wr16 O = none) := by
        show wr16 O = none
        rw [HDR.out]
        exact wr16_none (by rw [HTK.out, wr16_snoc hA2.hs]; exact htk)
      clear hA2 qq qA HVA HWA hk2 htk HAA HTK HDR
      gi_wp2
      refine ⟨trivial, (CallsIn.inRound l (callsIn_wide.2 CT)).mono ?_⟩
      rintro e9 w9 ⟨rfl, k9⟩
      clear CT
      gi_wp2
      have hA2 := HA2.out
      refine ⟨rfl, ⟨rfl, HN.out, k9.heap hA2.ho (fun x => (hA2.nf _ x).2.2.1 rfl), k9.heap hA2.he (fun x => (hA2.nf _ x).2.2.2 rfl), hA2.bl.trans (k9.below (fun k x => (hA2.wr.lt k x).1) hA2.bl.size)⟩, Kr16.of_kp k9 (fun k x y => ?_)⟩
      rcases x with x | x
      · exact (hA2.nf k y).1 x
      · exact (hA2.nf k y).2.1 x
  · rintro Dd E V hED hlo ⟨vS, vD, vX, s, hA⟩ hD
    have hb := HB.out
    rw [ol16_len] at hA
    have hOt : O.take O.length = O := List.take_length
    have hsO := hA.hs
    rw [hOt] at hsO
    rw [hsO]
    have hDw := (hlo Dd hED).1
    have CE := pend16 hA.wr (by have := hA.bd.a; omega) (by have := hA.bd.c; omega) (by have := hA.bd.S; omega)
    have HA : Hid (Ni16 w R bo be bw O O.length E vS vD vX s V) := hA
    have HD : Hid (V.heap[Dd]? = some (.deferred (some []))) := hD
    have HED : Hid (E Dd) := hED
    obtain ⟨pD, lD, cD, eD⟩ := own_slice16 hA.wr.oD
    obtain ⟨pX, lX, cX, eX⟩ := own_slice16 hA.wr.oX
    subst eD; subst eX
    have hne1 : bo ≠ be := by omega
    have hne2 : Dd ≠ bo ∧ Dd ≠ be := by omega
    have HDL : Hid (Dd < V.heap.size) := (hlo Dd hED).2
    clear hA hlo hI0 SQ3 hD hED hb hsO hOt hat eg hRl3
    refine fn16_ofP ?_
    go_wp2_with (first
      | (go_at_call 43; refine CE.mono ?_; rintro e9 w9 ⟨vS', rfl, o1, o2, o3, k9, f9⟩; clear CE; obtain ⟨pS, lS, cS, eS⟩ := own_slice16 o1; subst eS; have ho9 := k9.heap HA.out.ho (fun x => (HA.out.nf _ x).2.2.1 rfl); have he9 := k9.heap HA.out.he (fun x => (HA.out.nf _ x).2.2.2 rfl); have n0 := three_cell0 ho9; have n1 := three_cell1 ho9; have n2 := three_cell2 ho9; have f0 : w9.frozen? ⟨bo, 0, none⟩ = false := (by simp [World.frozen?, ho9]); have f1 : w9.frozen? ⟨bo, 1, none⟩ = false := (by simp [World.frozen?, ho9]); have f2 : w9.frozen? ⟨bo, 2, none⟩ = false := (by simp [World.frozen?, ho9]); have m0 := one_cell16 he9; have fe := one_free16 (i := 0) he9))
    have hA := HA.out
    have hb := HB.out
    have hd9 := k9.heap HD.out (fun x => (hA.nf _ x).1 HED.out)
    have kS : Kp (fun k => k = bo ∨ k = be) w9 ((((w9.setCell ⟨bo, 0, none⟩ (.slice pS lS cS)).setCell ⟨bo, 1, none⟩ (.slice pD lD cD)).setCell ⟨bo, 2, none⟩ (.slice pX lX cX)).setCell ⟨be, 0, none⟩ (.int .i64 0)) := by
      have k0 := Kp.set (S := fun k => k = bo ∨ k = be) (w := w9) (b := bo) (i := 0) (.inl rfl) (.slice pS lS cS)
      have k1 := k0.trans (Kp.set (S := fun k => k = bo ∨ k = be) (b := bo) (i := 1) (.inl rfl) (.slice pD lD cD)) (fun _ _ x => x)
      have k2 := k1.trans (Kp.set (S := fun k => k = bo ∨ k = be) (b := bo) (i := 2) (.inl rfl) (.slice pX lX cX)) (fun _ _ x => x)
      exact k2.trans (Kp.set (S := fun k => k = bo ∨ k = be) (b := be) (i := 0) (.inr rfl) (.int .i64 0)) (fun _ _ x => x)
    have hoF : ((((w9.setCell ⟨bo, 0, none⟩ (.slice pS lS cS)).setCell ⟨bo, 1, none⟩ (.slice pD lD cD)).setCell ⟨bo, 2, none⟩ (.slice pX lX cX)).setCell ⟨be, 0, none⟩ (.int .i64 0)).heap[bo]? = some (.cells #[.slice pS lS cS, .slice pD lD cD, .slice pX lX cX] 25 (0, 0)) := (heap_setCell_other _ _ _ _ hne1).trans (three_set2 (three_set1 (three_set0 ho9 _) _) _)
    have heF : ((((w9.setCell ⟨bo, 0, none⟩ (.slice pS lS cS)).setCell ⟨bo, 1, none⟩ (.slice pD lD cD)).setCell ⟨bo, 2, none⟩ (.slice pX lX cX)).setCell ⟨be, 0, none⟩ (.int .i64 0)).heap[be]? = some (.cells #[.int .i64 0] 29 (0, 0)) := one_set16 ((heap_setCell_other _ _ _ _ (Ne.symm hne1)).trans ((heap_setCell_other _ _ _ _ (Ne.symm hne1)).trans ((heap_setCell_other _ _ _ _ (Ne.symm hne1)).trans he9))) _
    generalize (((w9.setCell ⟨bo, 0, none⟩ (.slice pS lS cS)).setCell ⟨bo, 1, none⟩ (.slice pD lD cD)).setCell ⟨bo, 2, none⟩ (.slice pX lX cX)).setCell ⟨be, 0, none⟩ (.int .i64 0) = wF at kS hoF heF ⊢
    have hdF := kS.heap hd9 (fun x => by rcases x with x | x; exact hne2.1 x; exact hne2.2 x)
    refine ⟨by simp, .inl ⟨_, _, rfl, run_takeDeferred hdF, ?_⟩⟩
    have kD : Kp (fun k => k = Dd) wF (wF.putObj Dd (.deferred none)) := Kp.put16 (S := fun k => k = Dd) rfl _
    have kT : Kp (fun k => k = bo ∨ k = be ∨ k = Dd) w9 (wF.putObj Dd (.deferred none)) := (kS.mono (fun k _ x => by rcases x with x | x; exact .inl x; exact .inr (.inl x))).trans kD (fun k _ x => .inr (.inr x))
    refine ⟨by simp, .inr ⟨fun _ => by omega, _, _, 41, #[.pointer (some ⟨bo, 0, none⟩), .pointer (some ⟨be, 0, none⟩)], rfl, by simp [go_sem], fun _ _ => trivial, ?_⟩⟩
    refine (pcatch16 8 _ _ _).mono ?_
    rintro e u' w' ⟨rfl, rfl, rfl⟩
    show LeavesInM _ _ _ _ _ _ _ .returning _
    have hw : ∀ k, Wf16 bw vS (.slice pD lD cD) (.slice pX lX cX) k → ¬ (k = bo ∨ k = be ∨ k = Dd) := fun k x => by
      obtain ⟨y1, y2, y3, y4⟩ := hA.nf k x
      rintro (z | z | z)
      · exact y3 z
      · exact y4 z
      · exact y1 (by rw [z]; exact HED.out)
    have h3 := (Array.getElem?_eq_some_iff.1 hA.ho).1
    have h4 := (Array.getElem?_eq_some_iff.1 hA.he).1
    have h5 := HDL.out
    refine ⟨_, results_cc16 (fn := Try.f27) (p := 2) (q := 3) (ty := 25) (tz := 29) rfl _ _ bo _ _ _ _ rfl (kD.heap hoF (Ne.symm hne2.1)) Try.underlying25 rfl (by kernel_rfl) be (.int .i64 0) rfl (by have := one_cell16 (kD.heap heF (Ne.symm hne2.2)); simp [go_sem, this]), ?_⟩
    refine ⟨_, _, _, rfl, own_kp16 o1 kT (fun x e => ?_), own_kp o2 kT (fun x e => hw x (.inr (.inr (.inl e)))), own_kp o3 kT (fun x e => hw x (.inr (.inr (.inr e)))), ?_⟩
    · rcases f9 x e with y | y
      · exact hw x (.inr (.inl y))
      · omega
    · have b9 := hA.bl.trans (k9.below (fun k x => (hA.wr.lt k x).1) hA.bl.size)
      exact b9.trans (kT.below (fun k x => by omega) b9.size)
  · rintro ch Dd E V hED hlo hA hD
    obtain rfl := hA.ch
    rw [hA.no]
    have hb := HB.out
    have hDw := (hlo Dd hED).1
    have hne1 : bo ≠ be := by omega
    have hne2 : bo ≠ Dd ∧ be ≠ Dd := by omega
    refine ⟨by simp, .inl ⟨_, _, rfl, run_takeDeferred hD, ?_⟩⟩
    have kD : Kp (fun k => k = Dd) V (V.putObj Dd (.deferred none)) := Kp.put16 (S := fun k => k = Dd) rfl _
    refine ⟨by simp, .inr ⟨fun _ => by omega, _, _, 41, #[.pointer (some ⟨bo, 0, none⟩), .pointer (some ⟨be, 0, none⟩)], rfl, by simp [go_sem], fun _ _ => trivial, ?_⟩⟩
    refine (pcatch16_no 8 _ bo be _ _ _ _ hne1 (kD.heap hA.ho hne2.1) (kD.heap hA.he hne2.2)).mono ?_
    rintro e u' w' ⟨rfl, hu, ho', he', k'⟩
    show LeavesInM _ _ _ _ _ _ _ (settle u') w'
    rw [hu]
    refine ⟨_, results_cc16 (fn := Try.f27) (p := 2) (q := 3) (ty := 25) (tz := 29) rfl _ _ bo _ _ _ _ rfl ho' Try.underlying25 rfl (by kernel_rfl) be (.int .i64 160) rfl (by have := one_cell16 he'; simp [go_sem, this]), rfl, ?_⟩
    exact (hA.bl.trans (kD.below (fun k x => by have x : k = Dd := x; omega) hA.bl.size)).trans (k'.below (fun k x => by rcases x with x | x <;> omega) (by have := hA.bl.size; have := kD.size; omega))
end Go.Proofs.Ytgbpejnafgllpaa
