
import Derived.Test.YtgbpejnafgllpaaEd17
namespace Go.Proofs.Ytgbpejnafgllpaa
open Go.RowKit Go.Shelf
set_option linter.unusedVariables false

/-! Normal. -/
theorem results_cu16 {P : Program} {fn : Func} {p u : Tmp} {ty : TypeId} (h : fn.results = #[.cell p ty, .tmp u]) (tmps : Array Value) (w : World) (g : Nat) (t : TypeId) (cs : Array Value) (fr : Nat × Nat) (d : TypeDesc)
    (hp : tmps.getD p undef = .pointer (some ⟨g, 0, none⟩)) (hg : w.heap[g]? = some (.cells cs t fr))
    (hu : P.underlying ty = some d) (hd : (match d with | .struct _ | .array _ _ => true | _ => false) = true) (hi : (P.info? ty).map (·.size) = some cs.size) :
    (results fn tmps).run P w = .ok (.tuple #[.agg cs, tmps.getD u undef]) w := by
  rw [results_cell_tmp h, hp]
  simp [asAddr, Result.andThen, run_loadVar_row w g t ty cs fr d hg hu hd hi]
theorem own_base16 {w : World} {b c n sz : Nat} {e : TypeId} {v : Value} {xs : List Value} (h : w.ownsRow b e sz v n xs) (hc : c ≤ b) : w.ownsRow c e sz v n xs := by
  refine ⟨h.1, ?_⟩
  rcases h.2 with h | ⟨g, cap, cur, h1, h2, h3⟩
  · exact .inl h
  · exact .inr ⟨g, cap, cur, h1, Nat.le_trans hc h2, h3⟩
/-- What Normal answers. -/
def NmQ16 (w : World) (S : List St16) (D X : List Int) (e : Ending) (w' : World) : Prop :=
  if it16 S D.length X.length = 0 then NoQ16 w (wr16 (og16 S D X S.length)) e w'
  else e = .returned (.tuple #[.agg #[.slice none 0 0, .slice none 0 0, .slice none 0 0], .int .i64 (it16 S D.length X.length)]) ∧ Below w.heap.size w w'
variable {w : World} {sa da xa : Option Addr} {n sc m dc k xc : Nat} {S : List St16} {D X : List Int}
/-- Where an edit's bytes come from lies within bounds. -/
theorem og16_at {S : List St16} {D X : List Int} (h : Ok16 S S.length) (hl : S.length ≤ 1073741824) : ∀ i, i ≤ S.length → ∀ o ∈ og16 S D X i, -576460752303423488 ≤ o.1 ∧ o.1 ≤ 576460752303423488
  | 0, _, o, ho => by simp [og16] at ho
  | i + 1, hi, o, ho => by
    simp only [og16, List.mem_append] at ho
    have hb := sa16_le i (h.mono (by omega))
    have ha := ad16_le h (show i < S.length by omega)
    rcases ho with (ho | ho) | ho
    · exact og16_at h hl i (by omega) o ho
    · unfold oa16 at ho
      simp only [List.mem_map, List.mem_range] at ho
      obtain ⟨j, hj, rfl⟩ := ho
      simp only
      omega
    · unfold oc16 at ho
      simp only [List.mem_map, List.mem_range] at ho
      obtain ⟨j, hj, rfl⟩ := ho
      simp
set_option maxRecDepth 100000 in
set_option maxHeartbeats 8000000 in
theorem pnml16 (h : Ed16 w sa n S da m D xa k X) (hdc : m ≤ dc) (hxc : k ≤ xc) :
    Calls Try.prog 11 #[ev16 sa n sc da m dc xa k xc] w (NmQ16 w S D X) := by
  have hn := h.hn
  have hm := h.hm
  have hk := h.hk
  obtain ⟨w1, hw1⟩ : ∃ w1, w1 = (w.alloc (.cells #[.slice sa n sc, .slice da m dc, .slice xa k xc] 25)).alloc (.cells #[.slice none 0 0, .slice none 0 0, .slice none 0 0] 25) := ⟨_, rfl⟩
  have hb := two_boxes16 w #[.slice sa n sc, .slice da m dc, .slice xa k xc] 25 #[.slice none 0 0, .slice none 0 0, .slice none 0 0] 25
  simp only [← hw1] at hb
  obtain ⟨b1, z1, q1, q2⟩ := hb
  have CS := psize16 (sc := sc) (dc := dc) (xc := xc) (h.old b1)
  unfold szR16 at CS
  have HH : Hid (Ed16 w sa n S da m D xa k X) := h
  obtain ⟨er, her⟩ : ∃ er, er = it16 S m k := ⟨_, rfl⟩
  obtain ⟨sz, hsz⟩ : ∃ sz, sz = (sz16 S m k : Int) := ⟨_, rfl⟩
  rw [← her, ← hsz] at CS
  have HER : Hid (er = it16 S m k) := her
  obtain ⟨be, hbe⟩ : ∃ be, be = w.heap.size := ⟨_, rfl⟩
  obtain ⟨bo, hbo⟩ : ∃ bo, bo = w.heap.size + 1 := ⟨_, rfl⟩
  rw [← hbe] at q1
  rw [← hbo] at q2
  have HB : Hid (be = w.heap.size ∧ bo = w.heap.size + 1 ∧ w1.heap.size = w.heap.size + 2) := ⟨hbe, hbo, z1⟩
  have c0 := three_cell0 q1
  have c1 := three_cell1 q1
  have c2 := three_cell2 q1
  clear her hsz h z1
  unfold ev16 at CS ⊢
  go_enter Try.func11, Try.ntmps11
  go_wp2_with fail
  rw [← hw1, ← hbo, ← hbe]
  refine CS.mono ?_
  rintro e2 w2 ⟨rfl, b2⟩
  clear CS hw1 hbo hbe c0 c1 c2
  have p1 := (b2.block be (Array.getElem?_eq_some_iff.1 q1).1).trans q1
  have p2 := (b2.block bo (Array.getElem?_eq_some_iff.1 q2).1).trans q2
  have c0 := three_cell0 p1
  have c1 := three_cell1 p1
  have c2 := three_cell2 p1
  have n0 := three_cell0 p2
  have n1 := three_cell1 p2
  have n2 := three_cell2 p2
  have f0 : w2.frozen? ⟨bo, 0, none⟩ = false := by simp [World.frozen?, p2]
  have f1 : w2.frozen? ⟨bo, 1, none⟩ = false := by simp [World.frozen?, p2]
  have f2 : w2.frozen? ⟨bo, 2, none⟩ = false := by simp [World.frozen?, p2]
  have HP2 : Hid (w2.heap[bo]? = some (.cells #[.slice none 0 0, .slice none 0 0, .slice none 0 0] 25 (0, 0))) := p2
  have b02 : Below w.heap.size w w2 := b1.trans (b2.mono b1.size)
  by_cases hz : er = 0
  · subst hz
    go_wp2_with fail
    have CO := porig16 sa n sc da m dc xa k xc w2
    unfold ev16 at CO
    refine CO.mono ?_
    rintro e5 w5 ⟨rfl, cb⟩
    clear CO
    have hit := HER.out.symm
    rw [← hm, ← hk] at hit
    obtain ⟨i1, i2, i3, i4⟩ := it16_zero hit
    have i1' := i1
    rw [hn] at i1 i2 i3
    rw [hm] at i2 i4
    rw [hk] at i3 i4
    have b05 : Below w.heap.size w w5 := b02.trans (cb.bl.mono b02.size)
    have h5 := HH.out.old b05
    obtain ⟨Bc, hBc⟩ : ∃ Bc, Bc = w2.heap.size := ⟨_, rfl⟩
    have hq5 : w5.heap[Bc]? = some (.cells #[.slice sa n sc, .slice da m dc, .slice xa k xc] 25 (0, 0)) := by rw [hBc]; exact cb.cl
    have hs5 := cb.sz
    have hs02 := b02.size
    obtain ⟨R, hRB, hRs, hRd, hRx, HR⟩ : ∃ R : Nat → Prop, R Bc ∧ (∀ b off, sa = some ⟨b, off, none⟩ → 0 < S.length → R b) ∧ (∀ b off, da = some ⟨b, off, none⟩ → 0 < D.length → R b) ∧ (∀ b off, xa = some ⟨b, off, none⟩ → 0 < X.length → R b) ∧ Hid (∀ k, R k → k = Bc ∨ k < w.heap.size) :=
      ⟨fun k => k = Bc ∨ k < w.heap.size, .inl rfl, fun b off x y => .inr (HH.out.ss.lt b off x y), fun b off x y => .inr (HH.out.sd.lt b off x y), fun b off x y => .inr (HH.out.sx.lt b off x y), fun k x => x⟩
    have hRl : ∀ k, R k → k < w5.heap.size := fun k x => by rcases HR.out k x with y | y <;> omega
    have SQ := os16 9 (by omega) Bc R w5 hq5 h5 i1 i2 i3 hdc hxc hRB hRs hRd hRx hRl
    have hol : (og16 S D X n).length ≤ 16777216 := by
      rw [og16_len]
      have e2 : sa16 S n = m := i2
      have e3 : sc16 S n = k := i3
      omega
    have hoa := og16_at (D := D) (X := X) i1' (by have := HH.out.ln; omega) n (by omega)
    have CN := pnorm16 (gf := 44) (fun _ _ => rfl) hRl SQ hol hoa
    rw [hBc] at CN
    go_wp2_with fail
    clear c0 c1 c2 n0 n1 n2 f0 f1 f2
    have p5 := (cb.bl.block bo (Array.getElem?_eq_some_iff.1 p2).1).trans p2
    have hbl5 : bo < w2.heap.size := (Array.getElem?_eq_some_iff.1 p2).1
    cases hw : wr16 (og16 S D X n) with
    | some s =>
      rw [hw] at CN
      refine CN.mono ?_
      rintro e6 w6 ⟨vS, vD, vX, rfl, o1, o2, o3, b6⟩
      obtain ⟨pS, lS, cS, eS⟩ := own_slice16 o1
      obtain ⟨pD, lD, cD, eD⟩ := own_slice16 o2
      obtain ⟨pX, lX, cX, eX⟩ := own_slice16 o3
      subst eS; subst eD; subst eX
      have p6 := (b6.block bo (by have := (Array.getElem?_eq_some_iff.1 p5).1; omega)).trans p5
      have n0 := three_cell0 p6
      have n1 := three_cell1 p6
      have n2 := three_cell2 p6
      have f0 : w6.frozen? ⟨bo, 0, none⟩ = false := by simp [World.frozen?, p6]
      have f1 : w6.frozen? ⟨bo, 1, none⟩ = false := by simp [World.frozen?, p6]
      have f2 : w6.frozen? ⟨bo, 2, none⟩ = false := by simp [World.frozen?, p6]
      have HP6 : Hid (w6.heap[bo]? = some (.cells #[.slice none 0 0, .slice none 0 0, .slice none 0 0] 25 (0, 0))) := p6
      have b06 : Below w.heap.size w w6 := b05.trans (b6.mono b05.size)
      clear CN SQ hRs hRd hRx hRl HR hRB hq5 h5 cb hol hoa p5
      go_wp2_with fail
      refine bodyPost_ret (v := .tuple #[.agg #[.slice pS lS cS, .slice pD lD cD, .slice pX lX cX], .int .i64 0]) (results_cu16 (fn := Try.f11) (p := 2) (u := 3) (ty := 25) rfl _ _ bo _ _ _ _ rfl (three_set2 (three_set1 (three_set0 HP6.out _) _) _) Try.underlying25 rfl (by kernel_rfl)) rfl ?_
      unfold NmQ16
      rw [if_pos hit, hn, hw]
      have hb := HB.out
      have hsz6 := b06.size
      have k0 := Kp.set (S := fun k => k = bo) (w := w6) (b := bo) (i := 0) rfl (.slice pS lS cS)
      have k1 := k0.trans (Kp.set (S := fun k => k = bo) (b := bo) (i := 1) rfl (.slice pD lD cD)) (fun _ _ x => x)
      have k2 := k1.trans (Kp.set (S := fun k => k = bo) (b := bo) (i := 2) rfl (.slice pX lX cX)) (fun _ _ x => x)
      have bF := b06.trans (k2.below (fun k x => by have x : k = bo := x; omega) b06.size)
      refine ⟨_, _, _, rfl, own_base16 (own_kp16 o1 k2 (fun x e => ?_)) (Nat.le_trans hs02 (by omega)), own_base16 (own_kp o2 k2 (fun x e => ?_)) (Nat.le_trans hs02 (by omega)), own_base16 (own_kp o3 k2 (fun x e => ?_)) (Nat.le_trans hs02 (by omega)), bF⟩
      · have := (o1.lt x e).1; show ¬ x = bo; omega
      · have := (o2.lt x e).1; show ¬ x = bo; omega
      · have := (o3.lt x e).1; show ¬ x = bo; omega
    | none =>
      rw [hw] at CN
      refine CN.mono ?_
      rintro e6 w6 ⟨rfl, b6⟩
      have p6 := (b6.block bo (by have := (Array.getElem?_eq_some_iff.1 p5).1; omega)).trans p5
      have n0 := three_cell0 p6
      have n1 := three_cell1 p6
      have n2 := three_cell2 p6
      have f0 : w6.frozen? ⟨bo, 0, none⟩ = false := by simp [World.frozen?, p6]
      have f1 : w6.frozen? ⟨bo, 1, none⟩ = false := by simp [World.frozen?, p6]
      have f2 : w6.frozen? ⟨bo, 2, none⟩ = false := by simp [World.frozen?, p6]
      have HP6 : Hid (w6.heap[bo]? = some (.cells #[.slice none 0 0, .slice none 0 0, .slice none 0 0] 25 (0, 0))) := p6
      have b06 : Below w.heap.size w w6 := b05.trans (b6.mono b05.size)
      clear CN SQ hRs hRd hRx hRl HR hRB hq5 h5 cb hol hoa p5
      go_wp2_with fail
      refine bodyPost_ret (v := .tuple #[.agg #[.slice none 0 0, .slice none 0 0, .slice none 0 0], .int .i64 160]) (results_cu16 (fn := Try.f11) (p := 2) (u := 3) (ty := 25) rfl _ _ bo _ _ _ _ rfl (three_set2 (three_set1 (three_set0 HP6.out _) _) _) Try.underlying25 rfl (by kernel_rfl)) rfl ?_
      unfold NmQ16
      rw [if_pos hit, hn, hw]
      have hb := HB.out
      have hsz6 := b06.size
      have k0 := Kp.set (S := fun k => k = bo) (w := w6) (b := bo) (i := 0) rfl (.slice none 0 0)
      have k1 := k0.trans (Kp.set (S := fun k => k = bo) (b := bo) (i := 1) rfl (.slice none 0 0)) (fun _ _ x => x)
      have k2 := k1.trans (Kp.set (S := fun k => k = bo) (b := bo) (i := 2) rfl (.slice none 0 0)) (fun _ _ x => x)
      have bF := b06.trans (k2.below (fun k x => by have x : k = bo := x; omega) b06.size)
      exact ⟨rfl, bF⟩
  · go_wp2_with fail
    refine bodyPost_ret (v := .tuple #[.agg #[.slice none 0 0, .slice none 0 0, .slice none 0 0], .int .i64 er]) (results_cu16 (fn := Try.f11) (p := 2) (u := 3) (ty := 25) rfl _ _ bo _ _ _ _ rfl (three_set2 (three_set1 (three_set0 HP2.out _) _) _) Try.underlying25 rfl (by kernel_rfl)) rfl ?_
    unfold NmQ16
    rw [hm, hk, ← HER.out, if_neg hz]
    have hb := HB.out
    have k0 := Kp.set (S := fun k => k = bo) (w := w2) (b := bo) (i := 0) rfl (.slice none 0 0)
    have k1 := k0.trans (Kp.set (S := fun k => k = bo) (b := bo) (i := 1) rfl (.slice none 0 0)) (fun _ _ x => x)
    have k2 := k1.trans (Kp.set (S := fun k => k = bo) (b := bo) (i := 2) rfl (.slice none 0 0)) (fun _ _ x => x)
    exact ⟨rfl, b02.trans (k2.below (fun k x => by have x : k = bo := x; omega) b02.size)⟩
end Go.Proofs.Ytgbpejnafgllpaa
