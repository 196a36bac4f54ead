
import Derived.Test.YtcgaembnibnglaaCu18
import Derived.Test.YtcgaembnibnglaaCu16
namespace Go.Proofs.Ytcgaembnibnglaa
open Go.RowKit Go.Shelf
set_option linter.unusedVariables false

/-! The document's Apply. -/
theorem of17_step {S : List St16} {D X : List Int} {p0 : Int} {n m k : Nat} (hsa : sa16 S n = m) (hsc : sc16 S n = k) (hm : D.length = m) (hk : X.length = k) : ∀ j, j ≤ n → of17 (pi17 S D X p0 n) (2 * j) = sa16 S j + sc16 S j := by
  intro j
  induction j with
  | zero => intro _; exact of17_zero _
  | succ j ih =>
    intro hj
    have ih := ih (by omega)
    have m1 := sa16_mono (S := S) (i := j + 1) n hj
    simp only [sa16, sc16] at m1
    have g1 : (pi17 S D X p0 n)[2 * j]? = some (pc17 S D X p0 (2 * j)) := pi17_get (by omega)
    have g2 : (pi17 S D X p0 n)[2 * j + 1]? = some (pc17 S D X p0 (2 * j + 1)) := pi17_get (by omega)
    have e1 := of17_succ g1
    have e2 := of17_succ g2
    rw [pc17_a] at e1
    rw [pc17_c] at e2
    simp only [List.length_take, List.length_drop] at e1 e2
    rw [show 2 * (j + 1) = 2 * j + 1 + 1 by omega, e2, e1, ih]
    simp only [sa16, sc16]
    omega
/-- The j-th byte that the i-th step adds; the bytes that it copies. -/
theorem aw17_add {z : List Int} {pos : Int} {S : List St16} {D X : List Int} {m k : Nat} (hsa : sa16 S S.length = m) (hsc : sc16 S S.length = k) (hm : D.length = m) (hk : X.length = k) {i j : Nat} (hi : i < S.length) (hj : j < ad16 S i) : (aw17 z pos S D X)[sa16 S i + sc16 S i + j]? = some (fy17 z (pos + pl16 S i + (j : Int), D.getD (sa16 S i + j) 0, true)) := by
  have m1 := sa16_mono (S := S) (i := i + 1) S.length hi
  simp only [sa16, sc16] at m1
  have g1 : (pi17 S D X pos S.length)[2 * i]? = some (pc17 S D X pos (2 * i)) := pi17_get (by omega)
  rw [pc17_a] at g1
  have h1 := ws17_get g1 (j := j) (by simp only [List.length_take, List.length_drop]; omega)
  rw [of17_step hsa hsc hm hk i (by omega)] at h1
  unfold aw17
  rw [List.getElem?_map, h1]
  simp only [Option.map_some]
  congr 3
  simp only [List.getD]
  rw [List.getElem?_take, if_pos hj, List.getElem?_drop]
theorem aw17_cpy {z : List Int} {pos : Int} {S : List St16} {D X : List Int} {m k : Nat} (hsa : sa16 S S.length = m) (hsc : sc16 S S.length = k) (hm : D.length = m) (hk : X.length = k) {i : Nat} (hi : i < S.length) : (aw17 z pos S D X).take (sa16 S (i + 1) + sc16 S (i + 1)) = (aw17 z pos S D X).take (sa16 S i + sc16 S i + ad16 S i) ++ (X.drop (sc16 S i)).take (cp16 S i) := by
  have m1 := sa16_mono (S := S) (i := i + 1) S.length hi
  simp only [sa16, sc16] at m1
  have hlen : (aw17 z pos S D X).length = m + k := by unfold aw17; rw [List.length_map]; exact ws17_len hsa hsc hm hk
  have g1 : (pi17 S D X pos S.length)[2 * i]? = some (pc17 S D X pos (2 * i)) := pi17_get (by omega)
  have g2 : (pi17 S D X pos S.length)[2 * i + 1]? = some (pc17 S D X pos (2 * i + 1)) := pi17_get (by omega)
  have e1 := of17_succ g1
  rw [pc17_a, of17_step hsa hsc hm hk i (by omega)] at e1
  simp only [List.length_take, List.length_drop] at e1
  rw [pc17_c] at g2
  apply List.ext_getElem?
  intro q
  simp only [sa16, sc16]
  rcases Nat.lt_or_ge q (sa16 S i + sc16 S i + ad16 S i) with h | h
  · rw [List.getElem?_append_left (by rw [List.length_take]; omega), List.getElem?_take, if_pos (by omega), List.getElem?_take, if_pos h]
  · have hl : ((aw17 z pos S D X).take (sa16 S i + sc16 S i + ad16 S i)).length = sa16 S i + sc16 S i + ad16 S i := by rw [List.length_take]; omega
    rw [List.getElem?_append_right (by rw [hl]; exact h), hl]
    rcases Nat.lt_or_ge q (sa16 S i + ad16 S i + (sc16 S i + cp16 S i)) with h2 | h2
    · rw [List.getElem?_take, if_pos h2]
      have h3 := ws17_get g2 (j := q - (sa16 S i + sc16 S i + ad16 S i)) (by simp only [List.length_take, List.length_drop]; omega)
      rw [e1, show sa16 S i + sc16 S i + min (ad16 S i) (D.length - sa16 S i) + (q - (sa16 S i + sc16 S i + ad16 S i)) = q by omega] at h3
      unfold aw17
      rw [List.getElem?_map, h3]
      simp only [Option.map_some, fy17, Bool.false_eq_true, if_false, List.getD]
      have : q - (sa16 S i + sc16 S i + ad16 S i) < ((X.drop (sc16 S i)).take (cp16 S i)).length := by simp only [List.length_take, List.length_drop]; omega
      rw [List.getElem?_eq_getElem this]
      rfl
    · rw [List.getElem?_take, if_neg (by omega), List.getElem?_eq_none (by simp only [List.length_take, List.length_drop]; omega)]
theorem own_ne17 {w : World} {base n sz b : Nat} {e t : TypeId} {v : Value} {xs : List Value} {c : Array Value} {fr : Nat × Nat} (h : w.ownsRow base e sz v n xs) (hb : w.heap[b]? = some (.cells c t fr)) (hne : e ≠ t) : v.ownBlock ≠ some b := by
  rcases h.2 with ⟨rfl, _⟩ | ⟨g, cap, cur, rfl, _, hg, _⟩
  · simp [Value.ownBlock]
  · intro x
    have x : some g = some b := x
    injection x with x
    subst x
    rw [hg] at hb
    injection hb with hb
    injection hb with h1 h2 h3
    exact hne h2
/-- While bytes are laid down. -/
structure Rp17 (w : World) (b4 : Nat) (pos : Int) (v1 v2 v3 v : Value) (Q : List Int) (c : Nat) (W : World) : Prop where
  hE : W.heap[b4]? = some (.cells #[.int .i64 pos, v1, v2, v3] 45 (0, 0))
  own : W.ownsRow w.heap.size 5 1 v c ((Q.take c).map (Value.int .u8))
  nv : v.ownBlock ≠ some b4
  bl : Below w.heap.size w W
theorem Rp17.kp {w : World} {b4 : Nat} {pos : Int} {v1 v2 v3 v : Value} {Q : List Int} {c : Nat} {W W' : World} (h : Rp17 w b4 pos v1 v2 v3 v Q c W) (hb : Below W.heap.size W W') : Rp17 w b4 pos v1 v2 v3 v Q c W' :=
  ⟨(hb.block b4 (Array.getElem?_eq_some_iff.1 h.hE).1).trans h.hE, own_kp h.own (Kp.of_below (S := fun _ => False) hb) (fun _ _ x => x), h.nv, h.bl.trans (hb.mono h.bl.size)⟩
set_option maxRecDepth 100000 in
set_option maxHeartbeats 4000000 in
theorem rapl17_no (pos size : Int) {za : Option Addr} {zl zc : Nat} {sa : Option Addr} {n sc : Nat} {da : Option Addr} {m dc : Nat} {xa : Option Addr} {k xc : Nat} {S : List St16} (w : World) (hs : SegS w sa S) (hn : Hid (S.length = n)) (hln : n ≤ 5864062014805) (hlm : m ≤ 140737488355328) (hlk : k ≤ 140737488355328) (he : ¬ W17 pos S m k (zl : Int) size) :
    Calls Try.prog 23 #[.slice za zl zc, wn17 pos sa n sc da m dc xa k xc, .int .i64 size] w fun e w' => e = .returned (.tuple #[.slice none 0 0, .int .i64 171]) ∧ Below w.heap.size w w' := by
  obtain ⟨w1, hw1⟩ : ∃ w1, w1 = w.alloc (.cells #[.int .i64 pos, .slice sa n sc, .slice da m dc, .slice xa k xc] 45) := ⟨_, rfl⟩
  have c1 : Cb16 w #[.int .i64 pos, .slice sa n sc, .slice da m dc, .slice xa k xc] 45 w1 := by rw [hw1]; exact cb16 _ _ _
  have CS := rchk17 (m := m) (k := k) (sc := sc) (da := da) (dc := dc) (xa := xa) (xc := xc) pos (zl : Int) size w1 (hs.old c1.bl) hn hln hlm hlk
  rw [cc17_no he] at CS
  obtain ⟨c20, c21, c22, c23⟩ := four_cells c1.cl
  unfold wn17 at CS ⊢
  rw [hw1] at c20 c21 c22 c23
  have HW1 : Hid (w.alloc (.cells #[.int .i64 pos, .slice sa n sc, .slice da m dc, .slice xa k xc] 45) = w1) := hw1.symm
  have b1 := c1.bl
  clear hw1 c1 he
  go_enter Try.func23, Try.ntmps23
  go_wp2_with (first
    | (go_at_call 24; rw [HW1.out]; refine CS.mono ?_; rintro e1 w2 ⟨rfl, B2⟩; clear CS))
  go_ret2
  exact ⟨rfl, b1.trans (B2.mono b1.size)⟩
set_option maxRecDepth 100000 in
set_option maxHeartbeats 8000000 in
theorem rapl17 (pos : Int) (size : Nat) {za : Option Addr} {zl zc : Nat} {z : List Int} {sa : Option Addr} {n sc : Nat} {da : Option Addr} {m dc : Nat} {xa : Option Addr} {k xc : Nat} {S : List St16} {D X : List Int} (w : World) (h : Ed16 w sa n S da m D xa k X) (hz : Seg w za z) (hzl : Hid (z.length = zl)) (hxc : k ≤ xc) (nk : xa = none → xc = 0) (hW : W17 pos S m k (zl : Int) (size : Int)) :
    Calls Try.prog 23 #[.slice za zl zc, wn17 pos sa n sc da m dc xa k xc, .int .i64 (size : Int)] w (ApQ16 w (aw17 z pos S D X)) := by
  obtain ⟨hok, hsa, hsc, hmk, hpos⟩ := w17_ok hW
  have hsz := hW.1
  have hln := h.ln
  have hol := hW.2.1
  have hn := h.hn
  have HG : Hid (∀ i, i < n → (0 ≤ pos + pl16 S i ∧ pos + pl16 S i + (ad16 S i : Int) ≤ (zl : Int)) ∧ (ad16 S i : Int) = (S.getD i z16).1 ∧ (cp16 S i : Int) = (S.getD i z16).2.1 ∧ (sa16 S i + ad16 S i ≤ m ∧ sc16 S i + cp16 S i ≤ k) ∧ (-16777216 ≤ sk16 S i ∧ sk16 S i ≤ 16777216)) := fun i hi => by
    have hi' : i < S.length := by omega
    have hcg := cg17_all hol.2.2 i (fun t ht => hW.2.2.1 t (by omega))
    obtain ⟨g1, g2, g3, g4, g5, g6, _⟩ := hW.2.2.1 i hi'
    have hp := hcg.p
    obtain ⟨y1, y2, y3, y4, y5, y6⟩ := ad16_le hok hi'
    exact ⟨⟨by omega, by omega⟩, y3, y4, ⟨by omega, by omega⟩, y5, y6⟩
  have HQA : Hid (∀ i j, i < n → j < ad16 S i → (aw17 z pos S D X)[sa16 S i + sc16 S i + j]? = some (fy17 z (pos + pl16 S i + (j : Int), D.getD (sa16 S i + j) 0, true))) := fun i j hi hj => aw17_add hsa hsc h.hm h.hk (by omega) hj
  have HQC : Hid (∀ i, i < n → (aw17 z pos S D X).take (sa16 S (i + 1) + sc16 S (i + 1)) = (aw17 z pos S D X).take (sa16 S i + sc16 S i + ad16 S i) ++ (X.drop (sc16 S i)).take (cp16 S i)) := fun i hi => aw17_cpy hsa hsc h.hm h.hk (by omega)
  have HQL : Hid ((aw17 z pos S D X).length = m + k) := by show _ = _; unfold aw17; rw [List.length_map]; exact ws17_len hsa hsc h.hm h.hk
  have HQE : Hid (sa16 S n + sc16 S n = m + k) := by show _ = _; rw [← hn, hsa, hsc]
  obtain ⟨w1, hw1⟩ : ∃ w1, w1 = w.alloc (.cells #[.int .i64 pos, .slice sa n sc, .slice da m dc, .slice xa k xc] 45) := ⟨_, rfl⟩
  have c1 : Cb16 w #[.int .i64 pos, .slice sa n sc, .slice da m dc, .slice xa k xc] 45 w1 := by rw [hw1]; exact cb16 _ _ _
  have CS := rchk17 (m := m) (k := k) (sc := sc) (da := da) (dc := dc) (xa := xa) (xc := xc) pos (zl : Int) (size : Int) w1 (h.ss.old c1.bl) hn (by have := h.ln; omega) (by have := h.lm; omega) (by have := h.lk; omega)
  rw [cc17_ok hW] at CS
  obtain ⟨c20, c21, c22, c23⟩ := four_cells c1.cl
  obtain ⟨b4, hb4⟩ : ∃ b4, b4 = w.heap.size := ⟨_, rfl⟩
  have q1 : w1.heap[b4]? = some (.cells #[.int .i64 pos, .slice sa n sc, .slice da m dc, .slice xa k xc] 45 (0, 0)) := by rw [hb4]; exact c1.cl
  unfold wn17 at CS ⊢
  rw [hw1] at c20 c21 c22 c23
  have HW1 : Hid (w.alloc (.cells #[.int .i64 pos, .slice sa n sc, .slice da m dc, .slice xa k xc] 45) = w1) := hw1.symm
  have HB4 : Hid (w.heap.size = b4) := hb4.symm
  have b1 := c1.bl
  have HED : Hid (Ed16 w sa n S da m D xa k X) := h
  have HZ : Hid (Seg w za z) := hz
  generalize hQ : aw17 z pos S D X = Q at *
  have HAQ : Hid (aw17 z pos S D X = Q) := hQ
  clear hw1 c1 hW hok hsa hsc hb4 h hz hQ
  go_enter Try.func23, Try.ntmps23
  go_wp2_with (first
    | (go_at_call 24; rw [HW1.out]; refine CS.mono ?_; rintro e1 w2 ⟨rfl, B2⟩; clear CS; have HR2 : Hid (Rp17 w b4 pos (.slice sa n sc) (.slice da m dc) (.slice xa k xc) (.slice none 0 0) Q 0 w2) := ⟨(B2.block b4 (Array.getElem?_eq_some_iff.1 q1).1).trans q1, ⟨by simp, .inl ⟨rfl, rfl⟩⟩, by simp [Value.ownBlock], b1.trans (B2.mono b1.size)⟩; obtain ⟨d0, d1, d2, d3⟩ := four_cells HR2.out.hE; rw [← HB4.out] at d0 d1 d2 d3; clear c20 c21 c22 c23))
  rw [HB4.out]
  clear d0 d1 d2 d3
  go_loopw [9, 10, 11, 12, 30] (fun t9 t10 t11 t12 t30 wr => ∃ (i : Nat) (v : Value), t9 = v ∧ i ≤ n ∧ t30 = .int .i64 (i : Int) ∧ t10 = .int .i64 (pos + pl16 S i) ∧ t11 = .int .i64 (sa16 S i : Int) ∧ t12 = .int .i64 (sc16 S i : Int) ∧ Rp17 w b4 pos (.slice sa n sc) (.slice da m dc) (.slice xa k xc) v Q (sa16 S i + sc16 S i) wr) (fun _ _ _ _ t30 _ => n - (intOf t30).toNat)
  case atStart => exact ⟨0, _, rfl, Nat.zero_le _, rfl, by simp [pl16], rfl, rfl, HR2.out⟩
  case round =>
    obtain ⟨i, v0, hv0, hi, rfl, rfl, rfl, rfl, hR⟩ := hrel
    have hv0' := hv0.symm
    subst hv0'
    by_cases hin : i < n
    · have hii : (i : Int) < (n : Int) := by omega
      have hi0 : (0 : Int) ≤ (i : Int) := by omega
      have hil : i < S.length := by omega
      obtain ⟨b, off, rfl, hT⟩ := (HED.out.ss.old hR.bl).at_ i hil
      have c0 := hT.c0
      have c1 := hT.c1
      have c2 := hT.c2
      obtain ⟨⟨g1, g2⟩, g3, g4, ⟨g5, g6⟩, g7, g8⟩ := HG.out i hin
      have HQA1 := HQA.out i
      have HQA2 : Hid (∀ j, j < ad16 S i → Q[sa16 S i + sc16 S i + j]? = some (fy17 z (pos + pl16 S i + (j : Int), D.getD (sa16 S i + j) 0, true))) := fun j hj => HQA1 j hin hj
      have HQC2 : Hid (Q.take (sa16 S (i + 1) + sc16 S (i + 1)) = Q.take (sa16 S i + sc16 S i + ad16 S i) ++ (X.drop (sc16 S i)).take (cp16 S i)) := HQC.out i hin
      have HNX : Hid (pos + pl16 S (i + 1) = pos + pl16 S i + (ad16 S i : Int) + sk16 S i ∧ sa16 S (i + 1) = sa16 S i + ad16 S i ∧ sc16 S (i + 1) = sc16 S i + cp16 S i) := ⟨by simp only [pl16]; omega, rfl, rfl⟩
      have hsk : (S.getD i z16).2.2 = sk16 S i := rfl
      rw [← g3] at c0
      rw [← g4] at c1
      rw [hsk] at c2
      clear HQA1 hsk g3 g4 hT
      generalize hp : pos + pl16 S i = q at *
      generalize hA : ad16 S i = A at *
      generalize hC : cp16 S i = C at *
      generalize hK : sk16 S i = K at *
      generalize hd : sa16 S i = d at *
      generalize hx : sc16 S i = x at *
      clear hp hA hC hK hd hx
      obtain ⟨wB, hwB⟩ : ∃ wB, wB = wr.alloc (.cells #[.int .i64 (A : Int), .int .i64 (C : Int), .int .i64 K] 95) := ⟨_, rfl⟩
      have cB : Cb16 wr #[.int .i64 (A : Int), .int .i64 (C : Int), .int .i64 K] 95 wB := by rw [hwB]; exact cb16 _ _ _
      obtain ⟨os, hos⟩ : ∃ os, os = wr.heap.size := ⟨_, rfl⟩
      have qB : wB.heap[os]? = some (.cells #[.int .i64 (A : Int), .int .i64 (C : Int), .int .i64 K] 95 (0, 0)) := by rw [hos]; exact cB.cl
      have hRB := hR.kp cB.bl
      have hno : v0.ownBlock ≠ some os := fun e => by have := (hR.own.lt os e).2; omega
      have HWB : Hid (wr.alloc (.cells #[.int .i64 (A : Int), .int .i64 (C : Int), .int .i64 K] 95) = wB) := hwB.symm
      have HOS : Hid (wr.heap.size = os) := hos.symm
      have hosw : w.heap.size ≤ os := by have := hR.bl.size; omega
      have hb4 := HB4.out
      clear hwB hos cB hR
      go_wp2_with fail
      rw [HWB.out, HOS.out]
      go_loopw [9, 15] (fun t9 t15 ws => ∃ (j : Nat) (v : Value), t9 = v ∧ j ≤ A ∧ t15 = .int .i64 (j : Int) ∧ Rp17 w b4 pos (.slice (some ⟨b, off, none⟩) n sc) (.slice da m dc) (.slice xa k xc) v Q (d + x + j) ws ∧ v.ownBlock ≠ some os ∧ ws.heap[os]? = some (.cells #[.int .i64 (A : Int), .int .i64 (C : Int), .int .i64 K] 95 (0, 0))) (fun _ t15 _ => A - (intOf t15).toNat)
      case atStart => exact ⟨0, _, rfl, Nat.zero_le _, rfl, hRB, hno, qB⟩
      case round =>
        obtain ⟨j, v, hv0, hj, rfl, hRj, hnv, qS⟩ := hrel
        have hv0' := hv0.symm
        subst hv0'
        have s0 := three_cell0 qS
        have s1 := three_cell1 qS
        have s2 := three_cell2 qS
        obtain ⟨e0, e1, e2, e3⟩ := four_cells hRj.hE
        have hjq := HQL.out
        by_cases hlt : j < A
        · have hji : (j : Int) < (A : Int) := by omega
          have hj0 : (0 : Int) ≤ (j : Int) := by omega
          have hqj := HQA2.out j hlt
          obtain ⟨an, han⟩ : ∃ an : Nat, (an : Int) = q + (j : Int) := ⟨(q + (j : Int)).toNat, by omega⟩
          have hanl : an < z.length := by rw [hzl.out]; omega
          obtain ⟨zb, zo, hza, c3⟩ := (HZ.out.old hRj.bl).at_ an hanl
          have hzlt := HZ.out.lt
          have hdl : d + j < D.length := by rw [HED.out.hm]; omega
          obtain ⟨db, do_, hda, c4⟩ := (HED.out.sd.old hRj.bl).at_ (d + j) hdl
          have hdlt := HED.out.sd.lt
          obtain ⟨y, hy⟩ : ∃ y, y = fy17 z (q + (j : Int), D.getD (d + j) 0, true) := ⟨_, rfl⟩
          have hby : IntKind.u8.wrap (z.getD an 0 + D.getD (d + j) 0) = y := by
            rw [hy]; unfold fy17; simp only [if_true]
            rw [Int.add_comm]
            congr 2
            rw [← han]; simp
          rw [← hy] at hqj
          have HTK : Hid ((Q.take (d + x + (j + 1))).map (Value.int .u8) = (Q.take (d + x + j)).map (Value.int .u8) ++ [.int .u8 y]) := by
            show _ = _
            obtain ⟨hl, he⟩ := List.getElem?_eq_some_iff.1 hqj
            rw [show d + x + (j + 1) = d + x + j + 1 by omega, List.take_succ_eq_append_getElem hl, he, List.map_append]; rfl
          obtain ⟨g, rc, w', hr, ow, kk, at1⟩ := appb16 wr.drew y hRj.own (by omega) hRj.bl.size
          have kk' : Kp (fun t => v.ownBlock = some t) wr w' := ⟨kk.os, kk.tape, kk.output, kk.size, kk.block⟩
          have hzb : zb < w.heap.size := hzlt zb zo hza (by omega)
          have hdb : db < w.heap.size := hdlt db do_ hda (by omega)
          have hvg : ∀ t, v.ownBlock = some t → w.heap.size ≤ t := fun t e => (hRj.own.lt t e).1
          have lb4 := (Array.getElem?_eq_some_iff.1 hRj.hE).1
          have los := (Array.getElem?_eq_some_iff.1 qS).1
          have hgn : g ≠ b4 ∧ g ≠ os := by
            rcases at1 with e | e
            · exact ⟨fun x => hRj.nv (by rw [e, x]), fun x => hnv (by rw [e, x])⟩
            · have e : wr.heap.size ≤ g := e
              exact ⟨by omega, by omega⟩
          have HN : Hid (Rp17 w b4 pos (.slice (some ⟨b, off, none⟩) n sc) (.slice da m dc) (.slice xa k xc) (.slice (some ⟨g, 0, none⟩) (d + x + j + 1) rc) Q (d + x + (j + 1)) w' ∧ w'.heap[os]? = some (.cells #[.int .i64 (A : Int), .int .i64 (C : Int), .int .i64 K] 95 (0, 0))) := by
            refine ⟨⟨kk'.heap hRj.hE (fun e => hRj.nv e), ?_, fun e => ?_, hRj.bl.trans (kk'.below (fun t e => hvg t e) hRj.bl.size)⟩, kk'.heap qS (fun e => hnv e)⟩
            · rw [HTK.out]; exact ow
            · have e : some g = some b4 := e
              injection e with e
              exact hgn.1 e
          have HNO : Hid (g ≠ os) := hgn.2
          obtain ⟨pv, cv, hv⟩ := own_sl17 hRj.own
          have hzc : wr.cell? ⟨zb, zo + an, none⟩ = some (.int .u8 (z.getD an 0)) := c3
          have hdc4 : wr.cell? ⟨db, do_ + (d + j), none⟩ = some (.int .u8 (D.getD (d + j) 0)) := c4
          have t1 : w'.cell? ⟨zb, zo + an, none⟩ = some (.int .u8 (z.getD an 0)) := by rw [World.cell?_of_block (a := ⟨zb, zo + an, none⟩) (kk'.block zb (World.block_lt_of_cell? wr _ hzc) (fun e => by have := hvg _ e; omega))]; exact hzc
          have t2 : w'.cell? ⟨db, do_ + (d + j), none⟩ = some (.int .u8 (D.getD (d + j) 0)) := by rw [World.cell?_of_block (a := ⟨db, do_ + (d + j), none⟩) (kk'.block db (World.block_lt_of_cell? wr _ hdc4) (fun e => by have := hvg _ e; omega))]; exact hdc4
          have t3 := (four_cells HN.out.1.hE).2.2.1
          have w1 : IntKind.i64.wrap (q + (j : Int)) = (an : Int) := by rw [IntWalk.i64_in _ (by omega), han]
          have hdjn : ((d + j : Nat) : Int) = (d : Int) + (j : Int) := by omega
          obtain ⟨dj, hdj⟩ : ∃ dj, dj = d + j := ⟨_, rfl⟩
          rw [← hdj] at hdc4 t2 hby
          have w2 : IntKind.i64.wrap ((d : Int) + (j : Int)) = (dj : Int) := by rw [IntWalk.i64_in _ (by omega)]; omega
          have u1 : (an : Int) < (zl : Int) := by omega
          have u2 : (0 : Int) ≤ (an : Int) := by omega
          have u3 : (dj : Int) < (m : Int) := by omega
          have u4 : (0 : Int) ≤ (dj : Int) := by omega
          have HKK : Hid (∀ o, (wr.alloc o).drew.cell? ⟨zb, zo + an, none⟩ = some (.int .u8 (z.getD an 0)) ∧ (wr.alloc o).drew.cell? ⟨b4, 2, none⟩ = some (.slice da m dc) ∧ (wr.alloc o).drew.cell? ⟨db, do_ + dj, none⟩ = some (.int .u8 (D.getD dj 0))) := fun o => by
            have hbb : Below wr.heap.size wr (wr.alloc o).drew := ((Below.refl _ _).alloc (Nat.le_refl _) o).drew
            exact ⟨(hbb.cell (p := ⟨zb, zo + an, none⟩) (World.block_lt_of_cell? wr _ hzc)).trans hzc, (hbb.cell (p := ⟨b4, 2, none⟩) lb4).trans e2, (hbb.cell (p := ⟨db, do_ + dj, none⟩) (World.block_lt_of_cell? wr _ hdc4)).trans hdc4⟩
          subst hza; subst hda; subst hv
          clear c3 c4 ow kk kk' at1 hgn hqj HTK hRj hnv qS han hanl hdl hdj hdjn hy hvg hzlt hdlt
          generalize z.getD an 0 = zv at *
          generalize D.getD dj 0 = dv at *
          go_wp2_with fail
          refine plain_region16 (fun V => V.cell? ⟨zb, zo + an, none⟩ = some (.int .u8 zv) ∧ V.cell? ⟨b4, 2, none⟩ = some (.slice (some ⟨db, do_, none⟩) m dc) ∧ V.cell? ⟨db, do_ + dj, none⟩ = some (.int .u8 dv)) 19 (by kernel_rfl) ⟨hzc, e2, hdc4⟩ (fun hHeld => ?_)
          refine wpAnyK_take (i := 0) (v := .slice pv (d + x + j) cv) rfl (by kernel_rfl) (by kernel_rfl) (by kernel_rfl) (by kernel_rfl) (fun _ _ _ h => h) (Or.inl ⟨by rfl, fun w hSw => by go_simp⟩) hHeld ?_
          simp only [List.getElem_toArray, List.getElem_cons_zero, Act.put, List.setIfInBounds_toArray, List.set_cons_zero, List.set_cons_succ]
          refine wpAnyK_take (i := 1) (v := .slice (some ⟨zb, zo, none⟩) zl zc) rfl (by kernel_rfl) (by kernel_rfl) (by kernel_rfl) (by kernel_rfl) (fun _ _ _ h => h) (Or.inl ⟨by rfl, fun w hSw => by go_simp⟩) hHeld ?_
          simp only [List.getElem_toArray, List.getElem_cons_zero, List.getElem_cons_succ, Act.put, List.setIfInBounds_toArray, List.set_cons_zero, List.set_cons_succ]
          refine wpAnyK_take (i := 2) (v := .int .i64 q) rfl (by kernel_rfl) (by kernel_rfl) (by kernel_rfl) (by kernel_rfl) (fun _ _ _ h => h) (Or.inl ⟨by rfl, fun w hSw => by go_simp⟩) hHeld ?_
          simp only [List.getElem_toArray, List.getElem_cons_zero, List.getElem_cons_succ, Act.put, List.setIfInBounds_toArray, List.set_cons_zero, List.set_cons_succ]
          refine wpAnyK_take (i := 3) (v := .int .i64 (j : Int)) rfl (by kernel_rfl) (by kernel_rfl) (by kernel_rfl) (by kernel_rfl) (fun _ _ _ h => h) (Or.inl ⟨by rfl, fun w hSw => by go_simp⟩) hHeld ?_
          simp only [List.getElem_toArray, List.getElem_cons_zero, List.getElem_cons_succ, Act.put, List.setIfInBounds_toArray, List.set_cons_zero, List.set_cons_succ]
          refine wpAnyK_take (i := 4) (v := .int .i64 (an : Int)) rfl (by kernel_rfl) (by kernel_rfl) (by kernel_rfl) (by kernel_rfl) (fun _ _ _ h => h) (Or.inl ⟨by rfl, fun w hSw => by go_simp⟩) hHeld ?_
          simp only [List.getElem_toArray, List.getElem_cons_zero, List.getElem_cons_succ, Act.put, List.setIfInBounds_toArray, List.set_cons_zero, List.set_cons_succ]
          refine wpAnyK_take (i := 5) (v := .pointer (some ⟨zb, zo + an, none⟩)) rfl (by kernel_rfl) (by kernel_rfl) (by kernel_rfl) (by kernel_rfl) (fun _ _ _ h => h) (Or.inl ⟨by rfl, fun w hSw => by go_simp⟩) hHeld ?_
          simp only [List.getElem_toArray, List.getElem_cons_zero, List.getElem_cons_succ, Act.put, List.setIfInBounds_toArray, List.set_cons_zero, List.set_cons_succ]
          refine wpAnyK_take (i := 6) (v := .int .u8 zv) rfl (by kernel_rfl) (by kernel_rfl) (by kernel_rfl) (by kernel_rfl) (fun _ _ _ h => h) (Or.inl ⟨by rfl, fun w hSw => by go_simp⟩) hHeld ?_
          simp only [List.getElem_toArray, List.getElem_cons_zero, List.getElem_cons_succ, Act.put, List.setIfInBounds_toArray, List.set_cons_zero, List.set_cons_succ]
          refine wpAnyK_take (i := 7) (v := .pointer (some ⟨b4, 1, none⟩)) rfl (by kernel_rfl) (by kernel_rfl) (by kernel_rfl) (by kernel_rfl) (fun _ _ _ h => h) (Or.inl ⟨by rfl, fun w hSw => by go_simp⟩) hHeld ?_
          simp only [List.getElem_toArray, List.getElem_cons_zero, List.getElem_cons_succ, Act.put, List.setIfInBounds_toArray, List.set_cons_zero, List.set_cons_succ]
          refine wpAnyK_take (i := 8) (v := .pointer (some ⟨b4, 2, none⟩)) rfl (by kernel_rfl) (by kernel_rfl) (by kernel_rfl) (by kernel_rfl) (fun _ _ _ h => h) (Or.inl ⟨by rfl, fun w hSw => by go_simp⟩) hHeld ?_
          simp only [List.getElem_toArray, List.getElem_cons_zero, List.getElem_cons_succ, Act.put, List.setIfInBounds_toArray, List.set_cons_zero, List.set_cons_succ]
          refine wpAnyK_take (i := 9) (v := .slice (some ⟨db, do_, none⟩) m dc) rfl (by kernel_rfl) (by kernel_rfl) (by kernel_rfl) (by kernel_rfl) (fun _ _ _ h => h) (Or.inl ⟨by rfl, fun w hSw => by go_simp⟩) hHeld ?_
          simp only [List.getElem_toArray, List.getElem_cons_zero, List.getElem_cons_succ, Act.put, List.setIfInBounds_toArray, List.set_cons_zero, List.set_cons_succ]
          refine wpAnyK_take (i := 10) (v := .int .i64 (d : Int)) rfl (by kernel_rfl) (by kernel_rfl) (by kernel_rfl) (by kernel_rfl) (fun _ _ _ h => h) (Or.inl ⟨by rfl, fun w hSw => by go_simp⟩) hHeld ?_
          simp only [List.getElem_toArray, List.getElem_cons_zero, List.getElem_cons_succ, Act.put, List.setIfInBounds_toArray, List.set_cons_zero, List.set_cons_succ]
          refine wpAnyK_take (i := 11) (v := .int .i64 (j : Int)) rfl (by kernel_rfl) (by kernel_rfl) (by kernel_rfl) (by kernel_rfl) (fun _ _ _ h => h) (Or.inl ⟨by rfl, fun w hSw => by go_simp⟩) hHeld ?_
          simp only [List.getElem_toArray, List.getElem_cons_zero, List.getElem_cons_succ, Act.put, List.setIfInBounds_toArray, List.set_cons_zero, List.set_cons_succ]
          refine wpAnyK_take (i := 12) (v := .int .i64 (dj : Int)) rfl (by kernel_rfl) (by kernel_rfl) (by kernel_rfl) (by kernel_rfl) (fun _ _ _ h => h) (Or.inl ⟨by rfl, fun w hSw => by go_simp⟩) hHeld ?_
          simp only [List.getElem_toArray, List.getElem_cons_zero, List.getElem_cons_succ, Act.put, List.setIfInBounds_toArray, List.set_cons_zero, List.set_cons_succ]
          refine wpAnyK_take (i := 13) (v := .pointer (some ⟨db, do_ + dj, none⟩)) rfl (by kernel_rfl) (by kernel_rfl) (by kernel_rfl) (by kernel_rfl) (fun _ _ _ h => h) (Or.inl ⟨by rfl, fun w hSw => by go_simp⟩) hHeld ?_
          simp only [List.getElem_toArray, List.getElem_cons_zero, List.getElem_cons_succ, Act.put, List.setIfInBounds_toArray, List.set_cons_zero, List.set_cons_succ]
          refine wpAnyK_take (i := 14) (v := .int .u8 dv) rfl (by kernel_rfl) (by kernel_rfl) (by kernel_rfl) (by kernel_rfl) (fun _ _ _ h => h) (Or.inl ⟨by rfl, fun w hSw => by go_simp⟩) hHeld ?_
          simp only [List.getElem_toArray, List.getElem_cons_zero, List.getElem_cons_succ, Act.put, List.setIfInBounds_toArray, List.set_cons_zero, List.set_cons_succ]
          refine wpAnyK_take (i := 15) (v := .int .u8 y) rfl (by kernel_rfl) (by kernel_rfl) (by kernel_rfl) (by kernel_rfl) (fun _ _ _ h => h) (Or.inl ⟨by rfl, fun w hSw => by go_simp⟩) hHeld ?_
          simp only [List.getElem_toArray, List.getElem_cons_zero, List.getElem_cons_succ, Act.put, List.setIfInBounds_toArray, List.set_cons_zero, List.set_cons_succ]
          refine wpAnyK_one (i := 16) (by kernel_rfl) rfl (fun K hK => ?_)
          (try simp only [List.getElem_toArray, List.getElem_cons_zero, List.getElem_cons_succ, Act.put, List.setIfInBounds_toArray, List.set_cons_zero, List.set_cons_succ])
          go_simp
          refine hK.out _ _ (fun _ => HKK.out _) (fun hHeld0 => ?_)
          have hHeld := hHeld0 (by decide)
          clear hHeld0 hK K
          (try simp only [List.getElem_toArray, List.getElem_cons_zero, List.getElem_cons_succ, Act.put, List.setIfInBounds_toArray, List.set_cons_zero, List.set_cons_succ])
          refine wpAnyK_one (i := 17) (by kernel_rfl) rfl (fun K0 hK => ?_)
          simp only [List.getElem_toArray, List.getElem_cons_zero, List.getElem_cons_succ]
          rw [if_pos (by rfl)]
          refine operwp_app16 _ _ _ rfl rfl rfl hr ?_
          refine hK.out _ _ (fun _ => ⟨t1, t3, t2⟩) (fun hHeld0 => ?_)
          have hHeld := hHeld0 (by decide)
          clear hHeld0 hK K0
          simp only [Act.put, List.setIfInBounds_toArray, List.set_cons_zero, List.set_cons_succ]
          refine wpAnyK_one (i := 18) (by kernel_rfl) rfl (fun K0 hK => ?_)
          (try simp only [List.getElem_toArray, List.getElem_cons_zero, List.getElem_cons_succ, Act.put, List.setIfInBounds_toArray, List.set_cons_zero, List.set_cons_succ])
          go_simp
          refine hK.out _ _ (fun _ => ⟨t1, t3, t2⟩) (fun hHeld0 => ?_)
          clear hHeld0 hK K0
          (try simp only [List.getElem_toArray, List.getElem_cons_zero, List.getElem_cons_succ, Act.put, List.setIfInBounds_toArray, List.set_cons_zero, List.set_cons_succ])
          refine wpAnyK_done (by kernel_rfl) ?_ _
          go_wp2_with fail
          go_roundw
          case rel => exact ⟨j + 1, _, rfl, by omega, by simp, HN.out.1, fun e => by
              have e : some g = some os := e
              injection e with e
              exact HNO.out e, HN.out.2⟩
          case measure => simp [intOf]; omega
        · have hj2 : j = A := by omega
          subst hj2
          have hneg : ¬ (j : Int) < (j : Int) := by omega
          obtain ⟨i0, hi0', hz0, hz1, hz2⟩ := info_parts info_u16
          have hxl : x + C ≤ X.length := by rw [HED.out.hk]; omega
          have hX := HED.out.sx.old hRj.bl
          obtain ⟨sX, _⟩ := seg_rs16 (c := xc) (d := x) hX (by omega) (by rw [HED.out.hk]; exact hxc)
          have sX2 := sX.take C
          have hlC : ((X.drop x).take C).length = C := by rw [List.length_take, List.length_drop]; omega
          have hnx : rs16 xa xc x = none → xc - x = 0 := fun e => by
            unfold rs16 at e
            split at e
            · rw [nk e]; omega
            · rcases xa with _ | a
              · rw [nk rfl]; omega
              · cases e
          obtain ⟨xz, hxz⟩ : ∃ xz, xz = (X.drop x).take C := ⟨_, rfl⟩
          rw [← hxz] at sX2 hlC
          obtain ⟨pv, cv, hv⟩ := own_sl17 hRj.own
          have own1 := hRj.own
          rw [hv] at own1
          have HXZ : Hid (xz = (X.drop x).take C) := hxz
          have HRJ : Hid (Rp17 w b4 pos (.slice (some ⟨b, off, none⟩) n sc) (.slice da m dc) (.slice xa k xc) v Q (d + x + j) wr) := hRj
          obtain ⟨xe, hxe⟩ : ∃ xe, xe = x + C := ⟨_, rfl⟩
          have w1 : IntKind.i64.wrap ((x : Int) + (C : Int)) = (xe : Int) := by rw [IntWalk.i64_in _ (by omega)]; omega
          have u0 : (0 : Int) ≤ (x : Int) := by omega
          have u1 : (x : Int) ≤ (xe : Int) := by omega
          have u2 : (xe : Int) ≤ (xc : Int) := by have := HED.out.hk; omega
          have u3 : x ≤ xe := by omega
          have u4 : xe ≤ xc := by have := HED.out.hk; omega
          have hlC2 : xz.length = xe - x := by omega
          have hbl : w.heap.size ≤ wr.heap.size := hRj.bl.size
          have HNV : Hid (v.ownBlock ≠ some os) := hnv
          have HQS : Hid (wr.heap[os]? = some (.cells #[.int .i64 (j : Int), .int .i64 (C : Int), .int .i64 K] 95 (0, 0))) := qS
          have w2 : IntKind.i64.wrap (q + (j : Int)) = q + (j : Int) := IntWalk.i64_in _ (by omega)
          have w3 : IntKind.i64.wrap (q + (j : Int) + K) = q + (j : Int) + K := IntWalk.i64_in _ (by omega)
          have w4 : IntKind.i64.wrap ((d : Int) + (j : Int)) = (d : Int) + (j : Int) := IntWalk.i64_in _ (by omega)
          obtain ⟨ax, hax⟩ : ∃ ax, ax = rs16 xa xc x := ⟨_, rfl⟩
          have hif : (if xc = x then xa else xa.map (fun y => y.add x)) = ax := hax.symm
          rw [← hax] at sX2 hnx
          clear hax
          have HLC : Hid (xz.length = C) := hlC
          have HXE : Hid (xe = x + C) := hxe
          have hsm : d + x + j + xz.length ≤ 140737488355328 := by omega
          clear hRj hnv qS hxz sX hX hlt hlC hxe
          subst hv
          go_wp2_with (first | (at_builtin; refine wpList_append_seg rfl (.tmp 58) (.tmp 67) 24 rfl w.heap.size 5 i0 (.int .u8 0) 1 Try.underlying24 hi0' hz0 hz1 hz2 rfl own1 sX2 hnx rfl (by rw [hlC2]; rfl) hsm (by omega) hbl ?_; intro v2 w5 own2 gr2 hb2))
          all_goals
            have kg : Kp (fun t => (Value.slice pv (d + x + j) cv).ownBlock = some t) wr w5 := Kp.grown gr2 (fun i e => e)
            have qS5 := kg.heap HQS.out (fun e => HNV.out e)
            have hE5 := kg.heap HRJ.out.hE (fun e => HRJ.out.nv e)
            have HN5 : Hid (v2.ownBlock ≠ some b4) := own_ne17 own2 hE5 (by decide)
            have HE5 : Hid (w5.heap[b4]? = some (.cells #[.int .i64 pos, .slice (some ⟨b, off, none⟩) n sc, .slice da m dc, .slice xa k xc] 45 (0, 0))) := hE5
            have HB5 : Hid (Below w.heap.size w w5) := HRJ.out.bl.trans hb2
            have HO5 : Hid (w5.ownsRow w.heap.size 5 1 v2 (d + x + j + xz.length) ((Q.take (d + x + j)).map (Value.int .u8) ++ xz.map (Value.int .u8))) := own2
            have s50 := three_cell0 qS5
            have s51 := three_cell1 qS5
            have s52 := three_cell2 qS5
            clear kg qS5 hE5 own2 gr2 hb2 s0 s1 s2 e0 e1 e2 e3 own1 sX2 u1 u2 u3 u4 hlC2
            go_quiet (fail)
            have HQ6 : Hid (Below w5.heap.size w5 (w5.drewN nq)) := below_drewN16 (Below.refl _ _) nq
            generalize w5.drewN nq = w6 at *
            clear s50 s51 s52
            go_wp2_with fail
            go_roundw
            case rel =>
              obtain ⟨n1, n2, n3⟩ := HNX.out
              have hx2 := HXE.out
              have hlc := HLC.out
              have h6 := HQ6.out
              have hR5 : Rp17 w b4 pos (.slice (some ⟨b, off, none⟩) n sc) (.slice da m dc) (.slice xa k xc) v2 Q (sa16 S (i + 1) + sc16 S (i + 1)) w5 := by
                refine ⟨HE5.out, ?_, HN5.out, HB5.out⟩
                have h1 := HO5.out
                rw [hlc] at h1
                rw [HQC2.out, ← HXZ.out, List.map_append, show sa16 S (i + 1) + sc16 S (i + 1) = d + x + j + C by omega]
                exact h1
              exact ⟨i + 1, _, rfl, by omega, by simp, by rw [n1], by rw [n2]; simp, by rw [n3, hx2], hR5.kp h6⟩
            case measure => simp [intOf]; omega
    · have hk2 : i = n := by omega
      subst hk2
      have hneg : ¬ (i : Int) < (i : Int) := by omega
      obtain ⟨pv, cv, hv⟩ := own_sl17 hR.own
      subst hv
      have HR : Hid (Rp17 w b4 pos (.slice sa i sc) (.slice da m dc) (.slice xa k xc) (.slice pv (sa16 S i + sc16 S i) cv) Q (sa16 S i + sc16 S i) wr) := hR
      have HQE2 := HQE
      clear hR
      go_wp2_with fail
      go_ret2
      have hR := HR.out
      have e1 := HQE.out
      have e2 := HQL.out
      refine ⟨pv, cv, ?_, ?_, hR.bl⟩
      · rw [e2, ← e1]; rfl
      · have h1 := hR.own
        rw [e1, List.take_of_length_le (by omega)] at h1
        rw [e2]
        exact h1
end Go.Proofs.Ytcgaembnibnglaa
