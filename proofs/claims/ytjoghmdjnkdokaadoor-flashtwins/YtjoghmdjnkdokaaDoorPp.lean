import Derived.Test.YtjoghmdjnkdokaaDoorPm
import Derived.Test.YtjoghmdjnkdokaaDoorPo
namespace Go.Proofs.YtjoghmdjnkdokaaDoor
open Go.RowKit Go.Shelf
set_option linter.unusedVariables false
set_option linter.unusedSimpArgs false

/-! The landed flash's reader: bare. -/
def bm24 (r : Rs24) : Rs24 := if tkv24 5 r.1 = mg21 then tk24 5 r else ((tk24 5 r).1, true)
def ba24 (r : Rs24) : Rs24 := nb24 64 4096 (bm24 r)
def bb24 (r : Rs24) : Rs24 := nb24 1 4096 (ba24 r)
def bc24 (r : Rs24) : Rs24 := nb24 0 1 (bb24 r)
def bd24 (r : Rs24) : Rs24 := nb24 0 1099511627776 (bc24 r)
def bs24 (r : Rs24) : Fs21 := ⟨(nbv24 64 4096 (bm24 r).1).toNat, (nbv24 1 4096 (ba24 r).1).toNat, nbv24 0 1 (bb24 r).1, true, nbv24 0 1099511627776 (bc24 r).1, fun _ _ => none, 0, [], []⟩
theorem nbv24_bd (lo hi : Int) (L : List Int) (h : lo ≤ hi) : lo ≤ nbv24 lo hi L ∧ nbv24 lo hi L ≤ hi := by
  unfold nbv24
  split
  · rename_i h1
    simp [nok24] at h1
    omega
  · omega
theorem bm24_len (r : Rs24) : (bm24 r).1.length ≤ r.1.length := by
  unfold bm24; split
  · exact tk24_len _ _
  · exact tk24_len _ _
theorem mgs24 {X : List Int} (h : ∀ z ∈ X, 0 ≤ z ∧ z ≤ 255) : ((strOfNums X).toList == [70, 76, 83, 72, 1]) = decide (X = mg21) := by
  have h1 := str_injS h (show ∀ z ∈ mg21, 0 ≤ z ∧ z ≤ 255 by decide)
  have h2 : (strOfNums mg21).toList = [70, 76, 83, 72, 1] := by rw [ByteArray.toList_eq, strOfNums_data]; rfl
  rw [h2] at h1
  rw [h1]
  by_cases e : X = mg21 <;> simp [e]
theorem cells_set24 {W : World} {b : Nat} {xs : Array Value} {t : TypeId} (h : W.heap[b]? = some (.cells xs t (0, 0))) (i : Nat) (v : Value) : (W.setCell ⟨b, i, none⟩ v).heap[b]? = some (.cells (xs.setIfInBounds i v) t (0, 0)) := by
  simp [World.setCell, Array.getElem?_modify, h]
/-- A device that is being made, behind a reader. -/
structure Bq24 (w V W : World) (p b m : Nat) (P Q A M : Int) (L : List Int) (x : Bool) : Prop where
  kp : Kp (fun k => k = p) V W
  hb : W.heap[b]? = some (.cells #[.int .i64 P, .int .i64 Q, .int .i64 A, .bool true, .int .i64 M, .map (some m), .int .i64 0, .slice none 0 0, .slice none 0 0] 65 (0, 0))
  hm : Mv21 W m 0 (fun _ _ => none)
  vm : V.heap.size ≤ m
  bm : b = m + 1
  pv : p < V.heap.size
  wv : w.heap.size ≤ V.heap.size
  rm : Rm24 w W p L x
section
variable {w V W W' : World} {p b m : Nat} {P Q A M : Int} {L L' : List Int} {x x' : Bool}
theorem Bq24.num (h : Bq24 w V W p b m P Q A M L x) (k : Kp (fun k => k = p) W W') (r : Rm24 w W' p L' x') : Bq24 w V W' p b m P Q A M L' x' := by
  have h4 := h.vm; have h5 := h.bm; have h6 := h.pv
  have hb := (Array.getElem?_eq_some_iff.1 h.hb).1
  exact ⟨h.kp.trans k (fun _ _ e => e), k.heap h.hb (by show ¬ b = p; omega), h.hm.block (k.block m h.hm.lt (by show ¬ m = p; omega)), h4, h5, h6, h.wv, r⟩
theorem Bq24.set (h : Bq24 w V W p b m P Q A M L x) (i : Nat) (v : Value) (P' Q' A' M' : Int) (e : (#[.int .i64 P, .int .i64 Q, .int .i64 A, .bool true, .int .i64 M, .map (some m), .int .i64 0, .slice none 0 0, .slice none 0 0] : Array Value).setIfInBounds i v = #[.int .i64 P', .int .i64 Q', .int .i64 A', .bool true, .int .i64 M', .map (some m), .int .i64 0, .slice none 0 0, .slice none 0 0]) : Bq24 w V (W.setCell ⟨b, i, none⟩ v) p b m P' Q' A' M' L x := by
  have h4 := h.vm; have h5 := h.bm; have h6 := h.pv; have h7 := h.wv
  have k : Kp (fun k => k = b) W (W.setCell ⟨b, i, none⟩ v) := Kp.set (S := fun k => k = b) rfl _
  refine ⟨h.kp.trans k (fun j hj e => by have : j = b := e; omega), by rw [cells_set24 h.hb, e], h.hm.block (k.block m h.hm.lt (by show ¬ m = b; omega)), h4, h5, h6, h7, h.rm.kp k (fun j e => by show w.heap.size ≤ j; have : j = b := e; omega) (by show ¬ p = b; omega)⟩
theorem Bq24.cel (h : Bq24 w V W p b m P Q A M L x) {i : Nat} {v : Value} (hi : (#[.int .i64 P, .int .i64 Q, .int .i64 A, .bool true, .int .i64 M, .map (some m), .int .i64 0, .slice none 0 0, .slice none 0 0] : Array Value)[i]? = some v) : W.cell? ⟨b, i, none⟩ = some v := by
  simp only [World.cell?, h.hb]; exact hi
theorem Bq24.fr (h : Bq24 w V W p b m P Q A M L x) (i : Nat) : W.frozen? ⟨b, i, none⟩ = false := by simp [World.frozen?, h.hb]
theorem Bq24.mk0 (r : Rm24 w W p L x) (k : Kp (fun k => k = p) V W) (pv : p < V.heap.size) : Bq24 w V ((W.alloc (.map #[] 0)).alloc (.cells #[.int .i64 0, .int .i64 0, .int .i64 0, .bool true, .int .i64 0, .map (some W.heap.size), .int .i64 0, .slice none 0 0, .slice none 0 0] 65)) p (W.heap.size + 1) W.heap.size 0 0 0 0 L x := by
  have hk : Kp (fun _ => False) W ((W.alloc (.map #[] 0)).alloc (.cells #[.int .i64 0, .int .i64 0, .int .i64 0, .bool true, .int .i64 0, .map (some W.heap.size), .int .i64 0, .slice none 0 0, .slice none 0 0] 65)) := (Kp.alloc _ _).trans (Kp.alloc _ _) (fun _ _ e => e)
  refine ⟨k.trans hk (fun _ _ e => e.elim), heap_alloc2_new W _ _, (Mv21.made W).block (heap_alloc_old _ _ (by simp)), k.size, rfl, pv, by have := r.ge; omega, r.kp hk (fun _ e => e.elim) (fun e => e)⟩
theorem Bq24.fin (h : Bq24 w V W p b m P Q A M L x) (h1 : 0 ≤ P) (h2 : 0 ≤ Q) : Fi21 W b m 0 (fun _ _ => none) none 0 none 0 (fun _ => False) ⟨P.toNat, Q.toNat, A, true, M, fun _ _ => none, 0, [], []⟩ := by
  refine ⟨?_, h.hm, fun x y => .inl ⟨rfl, rfl⟩, ⟨SegK.nil (by decide) _ _, .inl rfl, fun _ => rfl, by simp⟩, World.ownsRow_nil _ _ _ _, by simp, fun e => e, fun e => e, fun _ _ e => e, fun _ e => e.elim⟩
  rw [h.hb, Int.toNat_of_nonneg h1, Int.toNat_of_nonneg h2]
  rfl
end
section
variable {w V : World} {p : Nat} {L : List Int} {x : Bool}
theorem pnumg24 (h : Rm24 w V p L x) (hL : L.length ≤ 1073741824) :
    Calls Tryd.prog 70 #[.pointer (some ⟨p, 0, none⟩), .int .i64 64, .int .i64 4096] V fun e V' => e = .returned (.int .i64 (nbv24 64 4096 L)) ∧ Rm24 w V' p (nb24 64 4096 (L, x)).1 (nb24 64 4096 (L, x)).2 ∧ Kp (fun k => k = p) V V' :=
  pnumber24 h 64 4096 (by decide) (by decide) hL
theorem pnums24 (h : Rm24 w V p L x) (hL : L.length ≤ 1073741824) :
    Calls Tryd.prog 70 #[.pointer (some ⟨p, 0, none⟩), .int .i64 1, .int .i64 4096] V fun e V' => e = .returned (.int .i64 (nbv24 1 4096 L)) ∧ Rm24 w V' p (nb24 1 4096 (L, x)).1 (nb24 1 4096 (L, x)).2 ∧ Kp (fun k => k = p) V V' :=
  pnumber24 h 1 4096 (by decide) (by decide) hL
theorem ptk5_24 (h : Rm24 w V p L x) (hL : L.length ≤ 1073741824) :
    Calls Tryd.prog 69 #[.pointer (some ⟨p, 0, none⟩), .int .i64 5] V fun e V' => (∃ a k, e = .returned (.slice a (tkv24 5 L).length k) ∧ Seg w a (tkv24 5 L) ∧ (tkv24 5 L).length ≤ k ∧ (a = none → k = 0)) ∧ Rm24 w V' p (tk24 5 (L, x)).1 (tk24 5 (L, x)).2 ∧ Kp (fun k => k = p) V V' :=
  ptake24 h 5 (by decide) (by omega)
set_option maxRecDepth 100000 in
set_option maxHeartbeats 8000000 in
theorem pbare24 (h : Rm24 w V p L x) (hL : L.length ≤ 1073741824) :
    Calls Tryd.prog 47 #[.pointer (some ⟨p, 0, none⟩)] V fun e V' => ∃ b m, e = .returned (.pointer (some ⟨b, 0, none⟩)) ∧ Fi21 V' b m 0 (fun _ _ => none) none 0 none 0 (fun _ => False) (bs24 (L, x)) ∧ V.heap.size ≤ b ∧ V.heap.size ≤ m ∧ Rm24 w V' p (bd24 (L, x)).1 (bd24 (L, x)).2 ∧ Kp (fun k => k = p) V V' := by
  have HT := ptk5_24 h hL
  have hplt := h.lt
  have HL : Hid (L.length ≤ 1073741824 ∧ (bm24 (L, x)).1.length ≤ 1073741824 ∧ (ba24 (L, x)).1.length ≤ 1073741824 ∧ (bb24 (L, x)).1.length ≤ 1073741824 ∧ (bc24 (L, x)).1.length ≤ 1073741824) := by
    have h1 := Nat.le_trans (bm24_len (L, x)) hL
    have h2 : (ba24 (L, x)).1.length ≤ _ := Nat.le_trans (nb24_len _ _ _) h1
    have h3 : (bb24 (L, x)).1.length ≤ _ := Nat.le_trans (nb24_len _ _ _) h2
    have h4 : (bc24 (L, x)).1.length ≤ _ := Nat.le_trans (nb24_len _ _ _) h3
    exact ⟨hL, h1, h2, h3, h4⟩
  clear h
  go_enter Tryd.func47, Tryd.ntmps47
  go_wp2_with fail
  refine HT.mono ?_
  rintro e V1 ⟨⟨a, k, rfl, hs, hk, hz⟩, r1, k1⟩
  have hc := run_conv22 (P := Tryd.prog) (w := V1) _ k rfl (hs.old r1.bl) 22 5 9 Tryd.underlying22 Tryd.underlying5 Tryd.underlying9
  have hmg := mgs24 hs.mem
  by_cases hB : tkv24 5 L = mg21
  · rw [decide_eq_true hB] at hmg
    have r2 : Rm24 w V1 p (bm24 (L, x)).1 (bm24 (L, x)).2 := by unfold bm24; rw [if_pos (by exact hB)]; exact r1
    clear hs hk hz r1
    obtain ⟨m, hm⟩ : ∃ m, m = V1.heap.size := ⟨_, rfl⟩
    have Q0 := Bq24.mk0 r2 k1 hplt
    rw [← hm] at Q0
    obtain ⟨X0, hX0⟩ : ∃ X0, X0 = ((V1.alloc (.map #[] 0)).alloc (.cells #[.int .i64 0, .int .i64 0, .int .i64 0, .bool true, .int .i64 0, .map (some m), .int .i64 0, .slice none 0 0, .slice none 0 0] 65)) := ⟨_, rfl⟩
    have HX0 : Hid (((V1.alloc (.map #[] 0)).alloc (.cells #[.int .i64 0, .int .i64 0, .int .i64 0, .bool true, .int .i64 0, .map (some m), .int .i64 0, .slice none 0 0, .slice none 0 0] 65)) = X0 ∧ V1.heap.size = m) := ⟨hX0.symm, hm.symm⟩
    rw [← hX0] at Q0
    obtain ⟨b, hb⟩ : ∃ b, b = m + 1 := ⟨_, rfl⟩
    rw [← hb] at Q0
    have HB : Hid (m + 1 = b) := hb.symm
    have HN := pnumg24 Q0.rm HL.out.2.1
    obtain ⟨P, hP⟩ : ∃ P, P = nbv24 64 4096 (bm24 (L, x)).1 := ⟨_, rfl⟩
    obtain ⟨Q, hQ⟩ : ∃ Q, Q = nbv24 1 4096 (ba24 (L, x)).1 := ⟨_, rfl⟩
    obtain ⟨A, hA⟩ : ∃ A, A = nbv24 0 1 (bb24 (L, x)).1 := ⟨_, rfl⟩
    obtain ⟨M, hM⟩ : ∃ M, M = nbv24 0 1099511627776 (bc24 (L, x)).1 := ⟨_, rfl⟩
    rw [← hP] at HN
    have HV : Hid (P = nbv24 64 4096 (bm24 (L, x)).1 ∧ Q = nbv24 1 4096 (ba24 (L, x)).1 ∧ A = nbv24 0 1 (bb24 (L, x)).1 ∧ M = nbv24 0 1099511627776 (bc24 (L, x)).1) := ⟨hP, hQ, hA, hM⟩
    have HQ0 : Hid (Bq24 w V X0 p b m 0 0 0 0 (bm24 (L, x)).1 (bm24 (L, x)).2) := Q0
    have hmm := @run_makeMap Tryd.prog
    clear hm hX0 hb hP hQ hA hM Q0 r2 k1 hplt hB HT
    go_wp2_with fail
    (try rw [HX0.out.2])
    (try rw [HX0.out.1])
    (try rw [HB.out])
    refine HN.mono ?_
    clear hmm HN
    rintro e Y1 ⟨rfl, r1, k1⟩
    have q1 := HQ0.out.num k1 r1
    have c1 := q1.cel (i := 0) rfl
    have f1 := q1.fr 0
    obtain ⟨X1, hX1⟩ : ∃ X1, X1 = Y1.setCell ⟨b, 0, none⟩ (.int .i64 P) := ⟨_, rfl⟩
    have HX1 : Hid (Y1.setCell ⟨b, 0, none⟩ (.int .i64 P) = X1) := hX1.symm
    have Q1 := q1.set 0 (.int .i64 P) P 0 0 0 rfl
    rw [← hX1] at Q1
    have HQ1 : Hid (Bq24 w V X1 p b m P 0 0 0 (ba24 (L, x)).1 (ba24 (L, x)).2) := Q1
    have HN := pnums24 HQ1.out.rm HL.out.2.2.1
    rw [show nbv24 _ _ _ = Q from HV.out.2.1.symm] at HN
    clear hX1 q1 Q1 r1 k1 HQ0
    go_wp2_with fail
    rw [HX1.out]
    refine HN.mono ?_
    clear HN c1 f1
    rintro e Y2 ⟨rfl, r2, k2⟩
    have q2 := HQ1.out.num k2 r2
    have c2 := q2.cel (i := 1) rfl
    have f2 := q2.fr 1
    obtain ⟨X2, hX2⟩ : ∃ X2, X2 = Y2.setCell ⟨b, 1, none⟩ (.int .i64 Q) := ⟨_, rfl⟩
    have HX2 : Hid (Y2.setCell ⟨b, 1, none⟩ (.int .i64 Q) = X2) := hX2.symm
    have Q2 := q2.set 1 (.int .i64 Q) P Q 0 0 rfl
    rw [← hX2] at Q2
    have HQ2 : Hid (Bq24 w V X2 p b m P Q 0 0 (bb24 (L, x)).1 (bb24 (L, x)).2) := Q2
    have HN := pnumb24 HQ2.out.rm HL.out.2.2.2.1
    rw [show nbv24 _ _ _ = A from HV.out.2.2.1.symm] at HN
    clear hX2 q2 Q2 r2 k2 HQ1
    go_wp2_with fail
    rw [HX2.out]
    refine HN.mono ?_
    clear HN c2 f2
    rintro e Y3 ⟨rfl, r3, k3⟩
    have q3 := HQ2.out.num k3 r3
    have c3 := q3.cel (i := 2) rfl
    have f3 := q3.fr 2
    obtain ⟨X3, hX3⟩ : ∃ X3, X3 = Y3.setCell ⟨b, 2, none⟩ (.int .i64 A) := ⟨_, rfl⟩
    have HX3 : Hid (Y3.setCell ⟨b, 2, none⟩ (.int .i64 A) = X3) := hX3.symm
    have Q3 := q3.set 2 (.int .i64 A) P Q A 0 rfl
    rw [← hX3] at Q3
    have HQ3 : Hid (Bq24 w V X3 p b m P Q A 0 (bc24 (L, x)).1 (bc24 (L, x)).2) := Q3
    have HN := pnumw24 HQ3.out.rm HL.out.2.2.2.2
    rw [show nbv24 _ _ _ = M from HV.out.2.2.2.symm] at HN
    clear hX3 q3 Q3 r3 k3 HQ2
    go_wp2_with fail
    rw [HX3.out]
    refine HN.mono ?_
    clear HN c3 f3
    rintro e Y4 ⟨rfl, r4, k4⟩
    have q4 := HQ3.out.num k4 r4
    have c4 := q4.cel (i := 4) rfl
    have f4 := q4.fr 4
    obtain ⟨X4, hX4⟩ : ∃ X4, X4 = Y4.setCell ⟨b, 4, none⟩ (.int .i64 M) := ⟨_, rfl⟩
    have HX4 : Hid (Y4.setCell ⟨b, 4, none⟩ (.int .i64 M) = X4) := hX4.symm
    have Q4 := q4.set 4 (.int .i64 M) P Q A M rfl
    rw [← hX4] at Q4
    have HQ4 : Hid (Bq24 w V X4 p b m P Q A M (bd24 (L, x)).1 (bd24 (L, x)).2) := Q4
    clear hX4 q4 Q4 r4 k4 HQ3
    go_wp2_with fail
    rw [HX4.out]
    go_ret
    obtain ⟨v1, v2, v3, v4⟩ := HV.out
    have g1 := nbv24_bd 64 4096 (bm24 (L, x)).1 (by omega)
    have g2 := nbv24_bd 1 4096 (ba24 (L, x)).1 (by omega)
    refine ⟨b, m, rfl, ?_, by have := HQ4.out.vm; have := HQ4.out.bm; omega, HQ4.out.vm, HQ4.out.rm, HQ4.out.kp⟩
    have := HQ4.out.fin (by omega) (by omega)
    unfold bs24
    rw [← v1, ← v2, ← v3, ← v4]
    exact this
  · rw [decide_eq_false hB] at hmg
    obtain ⟨r0, k0⟩ := r1.wrong
    obtain ⟨n1, n2, n3, n4⟩ : ∃ a' n' k', V1.heap[p]? = some (.cells #[.slice a' n' k', .bool (tk24 5 (L, x)).2] 96 (0, 0)) := by
      obtain ⟨_, _, a', n', k', h3, _⟩ := r1
      exact ⟨a', n', k', h3⟩
    have c0 := two_cell1 n4
    have f0 := two_free n4 1
    obtain ⟨V2, hV2⟩ : ∃ V2, V2 = V1.setCell ⟨p, 1, none⟩ (.bool true) := ⟨_, rfl⟩
    have HV2 : Hid (V1.setCell ⟨p, 1, none⟩ (.bool true) = V2) := hV2.symm
    rw [← hV2] at r0 k0
    have r2 : Rm24 w V2 p (bm24 (L, x)).1 (bm24 (L, x)).2 := by unfold bm24; rw [if_neg (by exact hB)]; exact r0
    have k2 : Kp (fun k => k = p) V V2 := k1.trans k0 (fun _ _ e => e)
    have hV2' : V2.heap.size = V1.heap.size := by rw [hV2]; simp
    clear hs hk hz r1 r0 k0 k1 hV2 n4
    obtain ⟨m, hm⟩ : ∃ m, m = V2.heap.size := ⟨_, rfl⟩
    have Q0 := Bq24.mk0 r2 k2 hplt
    rw [← hm] at Q0
    obtain ⟨X0, hX0⟩ : ∃ X0, X0 = ((V2.alloc (.map #[] 0)).alloc (.cells #[.int .i64 0, .int .i64 0, .int .i64 0, .bool true, .int .i64 0, .map (some m), .int .i64 0, .slice none 0 0, .slice none 0 0] 65)) := ⟨_, rfl⟩
    have HSZ : Hid (V1.heap.size = m) := by show _ = _; rw [hm, hV2']
    have HX0 : Hid (((V2.alloc (.map #[] 0)).alloc (.cells #[.int .i64 0, .int .i64 0, .int .i64 0, .bool true, .int .i64 0, .map (some m), .int .i64 0, .slice none 0 0, .slice none 0 0] 65)) = X0 ∧ V2.heap.size = m) := ⟨hX0.symm, hm.symm⟩
    rw [← hX0] at Q0
    obtain ⟨b, hb⟩ : ∃ b, b = m + 1 := ⟨_, rfl⟩
    rw [← hb] at Q0
    have HB : Hid (m + 1 = b) := hb.symm
    have HN := pnumg24 Q0.rm HL.out.2.1
    obtain ⟨P, hP⟩ : ∃ P, P = nbv24 64 4096 (bm24 (L, x)).1 := ⟨_, rfl⟩
    obtain ⟨Q, hQ⟩ : ∃ Q, Q = nbv24 1 4096 (ba24 (L, x)).1 := ⟨_, rfl⟩
    obtain ⟨A, hA⟩ : ∃ A, A = nbv24 0 1 (bb24 (L, x)).1 := ⟨_, rfl⟩
    obtain ⟨M, hM⟩ : ∃ M, M = nbv24 0 1099511627776 (bc24 (L, x)).1 := ⟨_, rfl⟩
    rw [← hP] at HN
    have HV : Hid (P = nbv24 64 4096 (bm24 (L, x)).1 ∧ Q = nbv24 1 4096 (ba24 (L, x)).1 ∧ A = nbv24 0 1 (bb24 (L, x)).1 ∧ M = nbv24 0 1099511627776 (bc24 (L, x)).1) := ⟨hP, hQ, hA, hM⟩
    have HQ0 : Hid (Bq24 w V X0 p b m 0 0 0 0 (bm24 (L, x)).1 (bm24 (L, x)).2) := Q0
    have hmm := @run_makeMap Tryd.prog
    clear hV2' hm hX0 hb hP hQ hA hM Q0 r2 k2 hplt hB HT
    go_wp2_with fail
    (try rw [HV2.out])
    (try rw [HSZ.out])
    (try rw [HX0.out.2])
    (try rw [HX0.out.1])
    (try rw [HB.out])
    refine HN.mono ?_
    clear hmm HN
    rintro e Y1 ⟨rfl, r1, k1⟩
    have q1 := HQ0.out.num k1 r1
    have c1 := q1.cel (i := 0) rfl
    have f1 := q1.fr 0
    obtain ⟨X1, hX1⟩ : ∃ X1, X1 = Y1.setCell ⟨b, 0, none⟩ (.int .i64 P) := ⟨_, rfl⟩
    have HX1 : Hid (Y1.setCell ⟨b, 0, none⟩ (.int .i64 P) = X1) := hX1.symm
    have Q1 := q1.set 0 (.int .i64 P) P 0 0 0 rfl
    rw [← hX1] at Q1
    have HQ1 : Hid (Bq24 w V X1 p b m P 0 0 0 (ba24 (L, x)).1 (ba24 (L, x)).2) := Q1
    have HN := pnums24 HQ1.out.rm HL.out.2.2.1
    rw [show nbv24 _ _ _ = Q from HV.out.2.1.symm] at HN
    clear hX1 q1 Q1 r1 k1 HQ0
    go_wp2_with fail
    rw [HX1.out]
    refine HN.mono ?_
    clear HN c1 f1
    rintro e Y2 ⟨rfl, r2, k2⟩
    have q2 := HQ1.out.num k2 r2
    have c2 := q2.cel (i := 1) rfl
    have f2 := q2.fr 1
    obtain ⟨X2, hX2⟩ : ∃ X2, X2 = Y2.setCell ⟨b, 1, none⟩ (.int .i64 Q) := ⟨_, rfl⟩
    have HX2 : Hid (Y2.setCell ⟨b, 1, none⟩ (.int .i64 Q) = X2) := hX2.symm
    have Q2 := q2.set 1 (.int .i64 Q) P Q 0 0 rfl
    rw [← hX2] at Q2
    have HQ2 : Hid (Bq24 w V X2 p b m P Q 0 0 (bb24 (L, x)).1 (bb24 (L, x)).2) := Q2
    have HN := pnumb24 HQ2.out.rm HL.out.2.2.2.1
    rw [show nbv24 _ _ _ = A from HV.out.2.2.1.symm] at HN
    clear hX2 q2 Q2 r2 k2 HQ1
    go_wp2_with fail
    rw [HX2.out]
    refine HN.mono ?_
    clear HN c2 f2
    rintro e Y3 ⟨rfl, r3, k3⟩
    have q3 := HQ2.out.num k3 r3
    have c3 := q3.cel (i := 2) rfl
    have f3 := q3.fr 2
    obtain ⟨X3, hX3⟩ : ∃ X3, X3 = Y3.setCell ⟨b, 2, none⟩ (.int .i64 A) := ⟨_, rfl⟩
    have HX3 : Hid (Y3.setCell ⟨b, 2, none⟩ (.int .i64 A) = X3) := hX3.symm
    have Q3 := q3.set 2 (.int .i64 A) P Q A 0 rfl
    rw [← hX3] at Q3
    have HQ3 : Hid (Bq24 w V X3 p b m P Q A 0 (bc24 (L, x)).1 (bc24 (L, x)).2) := Q3
    have HN := pnumw24 HQ3.out.rm HL.out.2.2.2.2
    rw [show nbv24 _ _ _ = M from HV.out.2.2.2.symm] at HN
    clear hX3 q3 Q3 r3 k3 HQ2
    go_wp2_with fail
    rw [HX3.out]
    refine HN.mono ?_
    clear HN c3 f3
    rintro e Y4 ⟨rfl, r4, k4⟩
    have q4 := HQ3.out.num k4 r4
    have c4 := q4.cel (i := 4) rfl
    have f4 := q4.fr 4
    obtain ⟨X4, hX4⟩ : ∃ X4, X4 = Y4.setCell ⟨b, 4, none⟩ (.int .i64 M) := ⟨_, rfl⟩
    have HX4 : Hid (Y4.setCell ⟨b, 4, none⟩ (.int .i64 M) = X4) := hX4.symm
    have Q4 := q4.set 4 (.int .i64 M) P Q A M rfl
    rw [← hX4] at Q4
    have HQ4 : Hid (Bq24 w V X4 p b m P Q A M (bd24 (L, x)).1 (bd24 (L, x)).2) := Q4
    clear hX4 q4 Q4 r4 k4 HQ3
    go_wp2_with fail
    rw [HX4.out]
    go_ret
    obtain ⟨v1, v2, v3, v4⟩ := HV.out
    have g1 := nbv24_bd 64 4096 (bm24 (L, x)).1 (by omega)
    have g2 := nbv24_bd 1 4096 (ba24 (L, x)).1 (by omega)
    refine ⟨b, m, rfl, ?_, by have := HQ4.out.vm; have := HQ4.out.bm; omega, HQ4.out.vm, HQ4.out.rm, HQ4.out.kp⟩
    have := HQ4.out.fin (by omega) (by omega)
    unfold bs24
    rw [← v1, ← v2, ← v3, ← v4]
    exact this
end
end Go.Proofs.YtjoghmdjnkdokaaDoor
