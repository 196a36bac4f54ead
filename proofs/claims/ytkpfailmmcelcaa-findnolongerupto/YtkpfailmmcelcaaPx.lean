import Derived.Test.YtkpfailmmcelcaaPv
import Derived.Test.YtkpfailmmcelcaaPw
import Derived.Test.YtkpfailmmcelcaaPb
import Derived.Laws.EntriesVeiled
import Derived.Shelf.RegionOpen
namespace Go.Proofs.Ytkpfailmmcelcaa
open Go.RowKit
set_option linter.unusedVariables false
open Go.RowKit Go.Shelf

/-! The landed find: less. -/
set_option maxRecDepth 100000 in
set_option maxHeartbeats 2000000 in
theorem pbnd14_any (q b n : Nat) (z : List Int) (A : List Nat) (f t : Nat) (th : Int) (w : World) (h : IX14 w b n z A) (hq : w.cell? ⟨q, 0, none⟩ = some (.pointer (some ⟨b, 0, none⟩))) (hft : f ≤ t) (htn : t ≤ n) :
    Calls Try.prog 46 #[.int .i64 (f : Int), .int .i64 (t : Int), .int .i64 th, .func (.func 43) #[] #[.pointer (some ⟨q, 0, none⟩)]] w fun e w' => (∃ c : Nat, f ≤ c ∧ c ≤ t ∧ e = .returned (.int .i64 (c : Int)) ∧ ∀ d, f ≤ d → d ≤ t → (∀ r, f ≤ r → r < t → (bh14 n A r < th ↔ r < d)) → c = d) ∧ Below w.heap.size w w' := by
  have hn24 := h.n24
  have HK : Hid (∀ r W, f ≤ r → r < t → Below w.heap.size w W → Calls Try.prog 43 #[.int .i64 (r : Int), .int .i64 th, .pointer (some ⟨q, 0, none⟩)] W fun e w' => e = .returned (.bool (decide (bh14 n A r < th))) ∧ Below w.heap.size w w') := fun r W h1 h2 hb =>
    (plc14 q b n z A r th W (h.old hb) ((hb.cell (p := ⟨q, 0, none⟩) (World.block_lt_of_cell? w _ hq)).trans hq) (by omega)).mono fun e w' ⟨he, hB⟩ => ⟨he, hb.trans (hB.mono hb.size)⟩
  clear h hq
  go_enter Try.func46, Try.ntmps46
  go_wp2_with fail
  go_loopw [0, 1] (fun ti tj wr => ∃ i j : Nat, f ≤ i ∧ i ≤ j ∧ j ≤ t ∧ ti = .int .i64 (i : Int) ∧ tj = .int .i64 (j : Int) ∧ Hid (∀ d, f ≤ d → d ≤ t → (∀ r, f ≤ r → r < t → (bh14 n A r < th ↔ r < d)) → i ≤ d ∧ d ≤ j) ∧ Below w.heap.size w wr) (fun ti tj _ => (intOf tj).toNat - (intOf ti).toNat)
  case atStart => exact ⟨f, t, Nat.le_refl _, hft, Nat.le_refl _, rfl, rfl, fun d h1 h2 _ => ⟨h1, h2⟩, Below.refl _ _⟩
  case round =>
    obtain ⟨i, j, h1, h2, h4, rfl, rfl, HD, BR⟩ := hrel
    by_cases hlt : i < j
    · have hlti : (i : Int) < (j : Int) := by omega
      obtain ⟨md, hmd⟩ : ∃ md, md = i + (j - i) / 2 := ⟨_, rfl⟩
      have hmi : (i : Int) + ((j : Int) - (i : Int)) / 2 = (md : Int) := by omega
      have him : i ≤ md ∧ md < j := by omega
      have CC := HK.out md wr (by omega) (by omega) BR
      have i1 : IntKind.i64.wrap ((j : Int) - (i : Int)) = (j : Int) - (i : Int) := IntWalk.i64_in _ (by omega)
      have i3 : ((j : Int) - (i : Int)).tdiv 2 = ((j : Int) - (i : Int)) / 2 := Int.tdiv_eq_ediv_of_nonneg (by omega)
      clear hmd
      go_wp2_with fail
      refine CC.mono ?_
      rintro e w2 ⟨rfl, B2⟩
      clear CC
      by_cases hz : bh14 n A md < th
      · rw [decide_eq_true hz]
        have HN : Hid (∀ d, f ≤ d → d ≤ t → (∀ r, f ≤ r → r < t → (bh14 n A r < th ↔ r < d)) → md + 1 ≤ d ∧ d ≤ j) := fun d k1 k2 k3 => ⟨(k3 md (by omega) (by omega)).1 hz, (HD.out d k1 k2 k3).2⟩
        clear hz
        go_wp2_with fail
        go_roundw
        case rel => exact ⟨md + 1, j, by omega, by omega, by omega, by first | rfl | go_num, rfl, HN, B2⟩
        case measure => simp [intOf]; omega
      · rw [decide_eq_false hz]
        have HN : Hid (∀ d, f ≤ d → d ≤ t → (∀ r, f ≤ r → r < t → (bh14 n A r < th ↔ r < d)) → i ≤ d ∧ d ≤ md) := fun d k1 k2 k3 => ⟨(HD.out d k1 k2 k3).1, by
          rcases Nat.lt_or_ge md d with g | g
          · exact absurd ((k3 md (by omega) (by omega)).2 g) hz
          · exact g⟩
        clear hz
        go_wp2_with fail
        go_roundw
        case rel => exact ⟨i, md, by omega, by omega, by omega, rfl, by first | rfl | go_num, HN, B2⟩
        case measure => simp [intOf]; omega
    · have hlti : ¬ (i : Int) < (j : Int) := by omega
      obtain rfl : i = j := by omega
      go_wp2_with fail
      go_ret
      exact ⟨⟨i, h1, h4, rfl, fun d k1 k2 k3 => by have := HD.out d k1 k2 k3; omega⟩, BR⟩
/-- What less answers of a text. -/
noncomputable def ls14 (z p : List Int) : List Int := (List.range p.length).map fun i => ((lo14 z (p.drop i) : Nat) : Int)
theorem ls14_len (z p : List Int) : (ls14 z p).length = p.length := by simp [ls14]
theorem ls14_get (z p : List Int) {i : Nat} (h : i < p.length) : (ls14 z p).getD i 0 = ((lo14 z (p.drop i) : Nat) : Int) := by simp [ls14, List.getD, h]
/-- Between two rounds of less. -/
structure Li14 (w W : World) (gS gF gH gT gO q n m : Nat) (z p : List Int) (k : Nat) (ok : Prop) (th : Int) (row : List Int) : Prop where
  bl : Below w.heap.size w W
  cs : Rc14 W gS (bks14 z 256)
  cf : W.heap[gF]? = some (.cells #[.func (.func 43) #[] #[.pointer (some ⟨q, 0, none⟩)]] 73 (0, 0))
  ch : W.heap[gH]? = some (.cells #[.slice (some ⟨gO, 0, none⟩) m m] 28 (0, 0))
  ct : W.heap[gT]? = some (.cells #[.int .i64 th] 3 (0, 0))
  co : Rz12 W gO row
  ln : row.length = m
  tb : -1 ≤ th ∧ th ≤ (n : Int)
  kp : ok → th = th14 z (p.drop (m - k)) ∧ ∀ i, m - k ≤ i → i < m → row.getD i 0 = ((lo14 z (p.drop i) : Nat) : Int)
theorem Li14.fr {w W W' : World} {gS gF gH gT gO q n m : Nat} {z p : List Int} {k : Nat} {ok : Prop} {th : Int} {row : List Int} {B : Nat} (h : Li14 w W gS gF gH gT gO q n m z p k ok th row) (hb : Below B W W') (hB : w.heap.size ≤ B) (h1 : gS < B) (h2 : gF < B) (h3 : gH < B) (h4 : gT < B) (h5 : gO < B) : Li14 w W' gS gF gH gT gO q n m z p k ok th row :=
  ⟨h.bl.trans (hb.mono hB), ⟨(hb.block _ h1).trans h.cs.hp⟩, (hb.block _ h2).trans h.cf, (hb.block _ h3).trans h.ch, (hb.block _ h4).trans h.ct, ⟨(hb.block _ h5).trans h.co.hp⟩, h.ln, h.tb, h.kp⟩
open Go.RowKit Go.Shelf
attribute [local go_sem] Oper.semAt_some

/-! The landed find: less, the walk. -/
set_option maxRecDepth 100000 in
set_option maxHeartbeats 1000000 in
theorem pbwd14 (pa : Option Addr) (m pc : Nat) (w : World) : Calls Try.prog 45 #[.slice pa m pc] w fun e w' => e = .returned (.func (.func 52) #[] #[.pointer (some ⟨w.heap.size, 0, none⟩)]) ∧ w' = w.alloc (.cells #[.slice pa m pc] 22) := by
  have hmf : ∀ (fn : Fn) (first cap : Array Value) (w : World), (Instr.makeFunc fn first cap).run Try.prog w = .ok (.func fn first cap) w := fun _ _ _ _ => rfl
  go_enter Try.func45, Try.ntmps45
  go_wp2_with fail
  go_ret
  exact ⟨rfl, rfl⟩
theorem ext14 {A B : List Int} (h : A.length = B.length) (hi : ∀ i, i < A.length → A.getD i 0 = B.getD i 0) : A = B := by
  refine List.ext_getElem h fun i h1 h2 => ?_
  have := hi i h1
  simpa [List.getD, h1, h2] using this
theorem below_put14 {B D : Nat} {w W : World} {o : Obj} (h : Below B w W) (hD : B ≤ D) : Below B w (W.putObj D o) :=
  ⟨h.os, h.tape, h.output, by have := h.size; simpa [World.putObj] using this, fun k hk => (World.putObj_heap_other (by omega)).trans (h.block k hk)⟩
def LessQ14 (w : World) (z p : List Int) (m : Nat) (e : Ending) (w' : World) : Prop := ∃ gO, e = .returned (.slice (some ⟨gO, 0, none⟩) m m) ∧ Rz12 w' gO (ls14 z p) ∧ w.heap.size ≤ gO ∧ Below w.heap.size w w'
theorem bwk14_at {p : List Int} {L : List (Nat × Int)} {x : Nat × Int} {m : Nat} (h : L ++ [x] <+: bwk14 p m) : L.length < m ∧ x = (p.length - 1 - L.length, p.getD (p.length - 1 - L.length) 0) ∧ L <+: bwk14 p m := by
  have h1 := h.length_le
  have h2 : (bwk14 p m).length = m := by simp [bwk14]
  rw [h2, List.length_append, List.length_singleton] at h1
  have h4 : (bwk14 p m)[L.length]? = some x := by
    obtain ⟨t, ht⟩ := h
    rw [← ht]
    simp
  refine ⟨by omega, ?_, (List.prefix_append _ _).trans h⟩
  unfold bwk14 at h4
  rw [List.getElem?_map, List.getElem?_range (by omega)] at h4
  simp at h4
  exact h4.symm
theorem less_step14 {z p : List Int} {A : List Nat} {m : Nat} (hA : Ar12 z.length (S12 z) A) (hm : p.length = m) {L : List (Nat × Int)} {at_ : Nat} {v th : Int} {row : List Int} {c : Nat} (hln : row.length = m) (h : L ++ [(at_, v)] <+: bwk14 p m)
    (hk : L <+: bwk14 p m → th = th14 z (p.drop (m - L.length)) ∧ ∀ i, m - L.length ≤ i → i < m → row.getD i 0 = ((lo14 z (p.drop i) : Nat) : Int))
    (hc : ∀ d, bk14 z v ≤ d → d ≤ bk14 z (v + 1) → (∀ r, bk14 z v ≤ r → r < bk14 z (v + 1) → (bh14 z.length A r < th ↔ r < d)) → c = d) :
    (c : Int) = th14 z (p.drop (m - (L.length + 1))) ∧ ∀ i, m - (L.length + 1) ≤ i → i < m → (row.set at_ (c : Int)).getD i 0 = ((lo14 z (p.drop i) : Nat) : Int) := by
  obtain ⟨h1, h2, h3⟩ := bwk14_at h
  obtain ⟨k1, k2⟩ := hk h3
  injection h2 with e1 e2
  rw [hm] at e1 e2
  have hd : p.drop (m - (L.length + 1)) = v :: p.drop (m - L.length) := by
    have := drop_cons14 (z := p) (j := m - 1 - L.length) (by omega)
    rw [← e2, show m - 1 - L.length + 1 = m - L.length by omega] at this
    rw [show m - (L.length + 1) = m - 1 - L.length by omega]
    exact this
  have hcc : c = lo14 z (p.drop (m - (L.length + 1))) := by
    rw [hd]
    refine hc _ (bound_lo14 z v _).1 (bound_lo14 z v _).2 fun r r1 r2 => ?_
    rw [k1]
    exact ahead14 hA r1 r2
  have hat : at_ = m - (L.length + 1) := by omega
  refine ⟨?_, fun i i1 i2 => ?_⟩
  · unfold th14
    rw [if_neg (by rw [List.length_drop]; omega), hcc]
  · rw [getD_set12 _ _ _ _ (by omega)]
    by_cases c1 : i = at_
    · rw [if_pos c1, hcc, c1, hat]
    · rw [if_neg c1]
      exact k2 i (by omega) i2
set_option maxRecDepth 100000 in
set_option maxHeartbeats 16000000 in
theorem pless14 (b n : Nat) (z : List Int) (A : List Nat) (pa : Option Addr) (p : List Int) (m pc : Nat) (w : World) (h : IX14 w b n z A) (hz : ∀ y ∈ z, 0 ≤ y ∧ y ≤ 255) (hp : Seg w pa p) (hm : Hid (p.length = m)) (hmb : m ≤ 17592186044416) :
    Calls Try.prog 28 #[.pointer (some ⟨b, 0, none⟩), .slice pa m pc] w (LessQ14 w z p m) := by
  have hmf : ∀ (fn : Fn) (first cap : Array Value) (w : World), (Instr.makeFunc fn first cap).run Try.prog w = .ok (.func fn first cap) w := fun _ _ _ _ => rfl
  have B1 : Below w.heap.size w (w.alloc (.cells #[.pointer (some ⟨b, 0, none⟩)] 23)) := (Below.refl _ _).alloc (Nat.le_refl _) _
  have CB := pbks14 b n z A _ (h.old B1) hz
  have fi : (Try.prog.info? 70).map (·.size) = some (vi12 (bks14 z 256)).size := by
    rw [show (vi12 (bks14 z 256)).size = 257 by simp [vi12, bks14_len]]
    kernel_rfl
  have fs : (vi12 z257).size = (vi12 (bks14 z 256)).size := by simp [vi12, bks14_len, z257]
  have fo : (vi12 (bks14 z 256)).all (·.oneCell') = true := by simp [vi12, Value.oneCell']
  have HFI : Hid ((Try.prog.info? 70).map (·.size) = some (vi12 (bks14 z 256)).size) := fi
  have HFS : Hid ((vi12 z257).size = (vi12 (bks14 z 256)).size) := fs
  have HFO : Hid ((vi12 (bks14 z 256)).all (·.oneCell') = true) := fo
  obtain ⟨V, hV⟩ : ∃ V, V = vi12 (bks14 z 256) := ⟨_, rfl⟩
  rw [← hV] at HFI HFS HFO CB
  have HV : Hid (V = vi12 (bks14 z 256)) := hV
  clear hV fi fs fo
  have hmk := run_make_i12 m (by omega)
  refine (callsIn_wide (n := 20)).1 ?_
  refine callsIn_of_wp_marks Try.func28 rfl trivial ?_ rfl
  simp only [Try.ntmps28, List.size_toArray, List.length_cons, List.length_nil, Nat.reduceAdd, Nat.reduceSub, Array.replicate_succ, Array.replicate_zero, List.push_toArray, List.append_toArray, List.nil_append, List.cons_append]
  refine wpIn_wide.2 ?_
  go_wp2_with (first
    | (go_at_call 42; refine CB.mono ?_; rintro e1 w1 ⟨rfl, B2⟩; clear CB)
    | (refine wpList_store_row rfl 70 (.tmp 5) (.tmp 12) rfl w1.heap.size V rfl rfl _ _ (by rw [zc14]; exact heap_alloc_new w1 _) HFI.out HFS.out HFO.out ?_; obtain ⟨X, hX⟩ : ∃ X, X = (w1.alloc (.cells Try.zeroCells70 70)).setRow w1.heap.size V := ⟨_, rfl⟩; rw [← hX]; have HX : Hid (X = (w1.alloc (.cells Try.zeroCells70 70)).setRow w1.heap.size V) := hX; clear hX)
    | (go_at_call 45; fail))
  have hXs : X.heap.size = w1.heap.size + 1 := by rw [HX.out]; simp [World.setRow]
  have hw1s : w.heap.size + 1 ≤ w1.heap.size := by have := B2.size; simpa using this
  have B12 : Below w.heap.size w w1 := B1.trans (B2.mono (by simp))
  have hXS : X.heap[w1.heap.size]? = some (.cells V 70 (0, 0)) := by
    rw [HX.out]
    simp only [World.setRow, Array.getElem?_modify]
    rw [if_pos trivial, heap_alloc_new]
    rfl
  have hXo : ∀ k, k < w1.heap.size → X.heap[k]? = w1.heap[k]? := fun k hk => by
    rw [HX.out]
    simp only [World.setRow, Array.getElem?_modify]
    rw [if_neg (by omega)]
    exact Below.heap_alloc _ _ _ hk
  have BX : Below w.heap.size w X := by
    refine ⟨?_, ?_, ?_, by omega, fun k hk => (hXo k (by omega)).trans (B12.block k hk)⟩
    · rw [HX.out]; exact B12.os
    · rw [HX.out]; exact B12.tape
    · rw [HX.out]; exact B12.output
  obtain ⟨W4, hW4⟩ : ∃ W4, W4 = ((((X.alloc (.cells #[.func (.func 43) #[] #[.pointer (some ⟨w.heap.size, 0, none⟩)]] 73)).alloc (.cells (vi12 (List.replicate m 0)) 3)).alloc (.cells #[.slice (some ⟨X.heap.size + 1, 0, none⟩) m m] 28)).alloc (.cells #[.int .i64 (-1)] 3)) := ⟨_, rfl⟩
  have cF : W4.heap[X.heap.size]? = some (.cells #[.func (.func 43) #[] #[.pointer (some ⟨w.heap.size, 0, none⟩)]] 73 (0, 0)) := by rw [hW4]; exact heap_more15 _ (heap_more15 _ (heap_more15 _ (heap_new15 _ _ rfl)))
  have cO : W4.heap[X.heap.size + 1]? = some (.cells (vi12 (List.replicate m 0)) 3 (0, 0)) := by rw [hW4]; exact heap_more15 _ (heap_more15 _ (heap_new15 _ _ (by simp only [size_alloc15])))
  have cH : W4.heap[X.heap.size + 1 + 1]? = some (.cells #[.slice (some ⟨X.heap.size + 1, 0, none⟩) m m] 28 (0, 0)) := by rw [hW4]; exact heap_more15 _ (heap_new15 _ _ (by simp only [size_alloc15]))
  have cT : W4.heap[X.heap.size + 1 + 1 + 1]? = some (.cells #[.int .i64 (-1)] 3 (0, 0)) := by rw [hW4]; exact heap_new15 _ _ (by simp only [size_alloc15])
  have h4s : W4.heap.size = X.heap.size + 1 + 1 + 1 + 1 := by rw [hW4]; simp only [size_alloc15]
  have B4X : Below X.heap.size X W4 := by rw [hW4]; exact below_alloc15 (below_alloc15 (below_alloc15 (below_alloc15 (Below.refl _ _) _) _) _) _
  have B4 : Below w.heap.size w W4 := BX.trans (B4X.mono BX.size)
  have cS : W4.heap[w1.heap.size]? = some (.cells V 70 (0, 0)) := (B4X.block _ (by omega)).trans hXS
  have cQ : W4.cell? ⟨w.heap.size, 0, none⟩ = some (.pointer (some ⟨b, 0, none⟩)) := by
    have k0 : (w.alloc (.cells #[.pointer (some ⟨b, 0, none⟩)] 23)).heap[w.heap.size]? = some (.cells #[.pointer (some ⟨b, 0, none⟩)] 23 (0, 0)) := heap_alloc_new _ _
    have k1 := (B2.block w.heap.size (by simp)).trans k0
    have k2 := (hXo w.heap.size (by omega)).trans k1
    have k3 := (B4X.block w.heap.size (by omega)).trans k2
    simp [World.cell?, k3]
  rw [← hW4]
  obtain ⟨gS, hgS⟩ : ∃ gS, gS = w1.heap.size := ⟨_, rfl⟩
  obtain ⟨gF, hgF⟩ : ∃ gF, gF = X.heap.size := ⟨_, rfl⟩
  obtain ⟨gO, hgO⟩ : ∃ gO, gO = X.heap.size + 1 := ⟨_, rfl⟩
  obtain ⟨gH, hgH⟩ : ∃ gH, gH = X.heap.size + 1 + 1 := ⟨_, rfl⟩
  obtain ⟨gT, hgT⟩ : ∃ gT, gT = X.heap.size + 1 + 1 + 1 := ⟨_, rfl⟩
  obtain ⟨q, hq⟩ : ∃ q, q = w.heap.size := ⟨_, rfl⟩
  have HGG : Hid (w.heap.size = q ∧ q < gS ∧ gS < gF ∧ gF < gO ∧ gO < gH ∧ gH < gT ∧ W4.heap.size = gT + 1) := ⟨hq.symm, by omega, by omega, by omega, by omega, by omega, by omega⟩
  rw [← hgH, ← hgO] at cH
  rw [← hgF, ← hq] at cF
  rw [← hgO] at cO
  rw [← hgT] at cT
  rw [← hgS] at cS
  rw [← hq] at cQ
  rw [← hgT, ← hgH, ← hgO, ← hgF, ← hgS, ← hq]
  clear hW4 B4X hXS hXo BX hXs hw1s B12 B1 B2 HX h4s hgS hgF hgO hgH hgT hq
  refine (pbwd14 pa m pc W4).mono ?_
  rintro e5 W5 ⟨rfl, hW5⟩
  have B5 : Below W4.heap.size W4 W5 := by rw [hW5]; exact (Below.refl _ _).alloc (Nat.le_refl _) _
  have cB : W5.cell? ⟨W4.heap.size, 0, none⟩ = some (.slice pa m pc) := by rw [hW5]; exact cell_new15 _ _ _ rfl
  have h5s : W5.heap.size = W4.heap.size + 1 := by rw [hW5]; simp
  have cF := (B5.block _ (Array.getElem?_eq_some_iff.1 cF).1).trans cF
  have cO := (B5.block _ (Array.getElem?_eq_some_iff.1 cO).1).trans cO
  have cH := (B5.block _ (Array.getElem?_eq_some_iff.1 cH).1).trans cH
  have cT := (B5.block _ (Array.getElem?_eq_some_iff.1 cT).1).trans cT
  have cS := (B5.block _ (Array.getElem?_eq_some_iff.1 cS).1).trans cS
  have F5 : Below w.heap.size w W5 := B4.trans (B5.mono B4.size)
  clear hW5
  go_wp2_with fail
  refine (wpIn_wide (n := 20)).1 ?_
  have HIX : Hid (∀ W, Below w.heap.size w W → IX14 W b n z A) := fun W hb => h.old hb
  have HAR : Hid (Ar12 z.length (S12 z) A) := h.arz
  have HZN : Hid (z.length = n) := h.len
  have HBL : Hid (∀ v : Int, bk14 z v ≤ n ∧ bk14 z v ≤ bk14 z (v + 1)) := fun v => ⟨by rw [← HZN.out]; exact bk14_le z v, bk14_mono z v⟩
  have cQ5 : W5.cell? ⟨q, 0, none⟩ = some (.pointer (some ⟨b, 0, none⟩)) := (B5.cell (p := ⟨q, 0, none⟩) (World.block_lt_of_cell? W4 _ cQ)).trans cQ
  have hgg := HGG.out
  have L0 : Li14 w W5 gS gF gH gT gO q n m z p 0 True (-1) (List.replicate m 0) := ⟨F5, ⟨by rw [← HV.out]; exact cS⟩, cF, cH, cT, ⟨cO⟩, by simp, by omega, fun _ => ⟨by unfold th14; rw [Nat.sub_zero, List.drop_eq_nil_of_le (by rw [hm.out]; omega)]; rfl, fun i i1 i2 => by omega⟩⟩
  have hpb : ∀ b' off, pa = some ⟨b', off, none⟩ → 0 < p.length → b' < w.heap.size := fun b' off e hl => by
    obtain ⟨b2, o2, e2, c2⟩ := hp.at_ 0 hl
    rw [e] at e2
    cases e2
    exact World.block_lt_of_cell? w _ c2
  refine range14 (n := 20) (by omega) (gf := 52) (lb := #[.pointer (some ⟨W4.heap.size, 0, none⟩)]) rfl (enters_of Try.func52 (by kernel_rfl) rfl)
    (bw_seq14 19 (by omega) W4.heap.size W5.heap.size (fun k => k = gT ∨ k = gO) pa p m pc hm.out (by omega) W5 (fun b' off e hl => by have := hpb b' off e hl; exact ⟨by omega, by omega⟩) (by omega) (by omega) (Nat.le_refl _) cB (hp.old F5))
    KeepE.trans (fun W l o r hl hr => keepE_b (Nat.le_refl _) W l o r hl hr) (fun _ => rfl)
    (fun pre W => ∃ th row, Li14 w W gS gF gH gT gO q n m z p pre.length (pre.map Subtype.val <+: bwk14 p m) th row ∧ W.cell? ⟨q, 0, none⟩ = some (.pointer (some ⟨b, 0, none⟩)) ∧ W5.heap.size ≤ W.heap.size) ⟨?_, ?_⟩ ?_ ⟨-1, _, ⟨L0.bl, L0.cs, L0.cf, L0.ch, L0.ct, L0.co, L0.ln, L0.tb, fun _ => L0.kp trivial⟩, cQ5, Nat.le_refl _⟩ ?round ?done
  · rintro s W W' ⟨th, row, L, c, hs⟩ hb
    have hb5 := hb.mono hs
    exact ⟨th, row, L.fr hb5 (by omega) (by omega) (by omega) (by omega) (by omega) (by omega), (hb.cell (p := ⟨q, 0, none⟩) (World.block_lt_of_cell? W _ c)).trans c, Nat.le_trans hs hb.size⟩
  · rintro s W r cc t i v hr hc ⟨th, row, L, c, hs⟩
    have hb5 : Below W5.heap.size W (W.setCell ⟨r, i, none⟩ v) := below_set14 (Below.refl _ _) hr
    exact ⟨th, row, L.fr hb5 (by omega) (by omega) (by omega) (by omega) (by omega) (by omega), (hb5.cell (p := ⟨q, 0, none⟩) (by show q < _; omega)).trans c, Nat.le_trans hs hb5.size⟩
  · rintro s W l o r hl hr ⟨th, row, L, c, hs⟩
    have hb5 : Below W5.heap.size W (W.putObj l o) := belowK_b (w := W5) (Nat.le_refl _) W l _ o hl hr rfl rfl
    exact ⟨th, row, L.fr hb5 (by omega) (by omega) (by omega) (by omega) (by omega) (by omega), (hb5.cell (p := ⟨q, 0, none⟩) (by show q < _; omega)).trans c, Nat.le_trans hs hb5.size⟩
  case round =>
    rintro l pre ⟨⟨at_, v⟩, hx1, hx2, hx3⟩ W ⟨th, row, L, cq, hs5⟩ hlen
    dsimp only at hx1 hx2 hx3
    have HI0 : Hid (∃ th row, Li14 w W gS gF gH gT gO q n m z p pre.length (pre.map Subtype.val <+: bwk14 p m) th row ∧ W.cell? ⟨q, 0, none⟩ = some (.pointer (some ⟨b, 0, none⟩)) ∧ W5.heap.size ≤ W.heap.size) := ⟨th, row, L, cq, hs5⟩
    clear L cq hs5
    gi_wp2
    refine ⟨KeepsOthers.refl _, KeepE.refl _ _ _, HI0.out, ?_⟩
    rintro W2 hC ⟨th2, row2, L2, cq2, hs2⟩
    obtain ⟨vn, rfl⟩ : ∃ vn : Nat, v = (vn : Int) := ⟨v.toNat, by omega⟩
    have hvn : vn ≤ 255 := by omega
    have cv := L2.cs.cell (i := vn) (by rw [bks14_len]; omega)
    have cv1 := L2.cs.cell (i := vn + 1) (by rw [bks14_len]; omega)
    rw [bks14_get z (by omega) (by omega)] at cv cv1
    obtain ⟨k1, k2⟩ := HBL.out (vn : Int)
    have k3 := (HBL.out ((vn : Int) + 1)).1
    have cT2 : W2.cell? ⟨gT, 0, none⟩ = some (.int .i64 th2) := by simp [World.cell?, L2.ct]
    have fT2 : W2.frozen? ⟨gT, 0, none⟩ = false := by simp [World.frozen?, L2.ct]
    have cF2 : W2.cell? ⟨gF, 0, none⟩ = some (.func (.func 43) #[] #[.pointer (some ⟨q, 0, none⟩)]) := by simp [World.cell?, L2.cf]
    have CBD := pbnd14_any q b n z A (bk14 z (vn : Int)) (bk14 z ((vn : Int) + 1)) th2 W2.drew ((HIX.out W2 L2.bl).old (Below.refl _ _).drew) cq2 k2 k3
    have HL2 : Hid (Li14 w W2 gS gF gH gT gO q n m z p pre.length (pre.map Subtype.val <+: bwk14 p m) th2 row2) := L2
    have HCB : Hid (∀ d c, (∀ d', bk14 z (vn : Int) ≤ d' → d' ≤ bk14 z ((vn : Int) + 1) → (∀ r, bk14 z (vn : Int) ≤ r → r < bk14 z ((vn : Int) + 1) → (bh14 n A r < th2 ↔ r < d')) → c = d') → c = d → True) := fun _ _ _ _ => trivial
    obtain ⟨v1, hv1⟩ : ∃ v1, v1 = vn + 1 := ⟨_, rfl⟩
    have hv1i : (vn : Int) + 1 = (v1 : Int) := by omega
    rw [← hv1] at cv1
    rw [show ((v1 : Nat) : Int) = (vn : Int) + 1 by omega] at cv1
    have HST : Hid (∀ c : Nat, (∀ d, bk14 z (vn : Int) ≤ d → d ≤ bk14 z ((vn : Int) + 1) → (∀ r, bk14 z (vn : Int) ≤ r → r < bk14 z ((vn : Int) + 1) → (bh14 n A r < th2 ↔ r < d)) → c = d) → (pre.map Subtype.val ++ [(at_, (vn : Int))] <+: bwk14 p m) → (c : Int) = th14 z (p.drop (m - (pre.length + 1))) ∧ ∀ i, m - (pre.length + 1) ≤ i → i < m → (row2.set at_ (c : Int)).getD i 0 = ((lo14 z (p.drop i) : Nat) : Int)) := fun c hc hpre => by
      have := less_step14 HAR.out hm.out (L := pre.map Subtype.val) (at_ := at_) (v := (vn : Int)) (th := th2) (row := row2) (c := c) L2.ln hpre (fun hp' => by rw [List.length_map]; exact L2.kp hp') (by rw [HZN.out]; exact hc)
      rw [List.length_map] at this
      exact this
    generalize bk14 z ((vn : Int) + 1) = B1 at *
    generalize bk14 z (vn : Int) = B0 at *
    have w1i : IntKind.i64.wrap ((vn : Int) + 1) = (v1 : Int) := by rw [hv1i]; exact IntWalk.i64_in _ (by omega)
    have w2i : IntKind.i64.wrap (v1 : Int) = (v1 : Int) := IntWalk.i64_in _ (by omega)
    have l1 : (vn : Int) < 257 := by omega
    have l2 : (v1 : Int) < 257 := by omega
    clear hv1 HCB L2
    have hmx : Try.prog.follows .mixedOrders = true := by kernel_rfl
    have hd : 1 ≤ 20 - 1 - 1 := by omega
    have H9 : Hid (∀ w9, Below W2.drew.heap.size W2.drew w9 → Li14 w w9 gS gF gH gT gO q n m z p pre.length (pre.map Subtype.val <+: bwk14 p m) th2 row2 ∧ w9.cell? ⟨gT, 0, none⟩ = some (.int .i64 th2) ∧ w9.frozen? ⟨gT, 0, none⟩ = false ∧ w9.cell? ⟨gH, 0, none⟩ = some (.slice (some ⟨gO, 0, none⟩) m m) ∧ w9.cell? ⟨gO, at_, none⟩ = some (.int .i64 (row2.getD at_ 0)) ∧ w9.frozen? ⟨gO, at_, none⟩ = false ∧ w9.cell? ⟨q, 0, none⟩ = some (.pointer (some ⟨b, 0, none⟩)) ∧ KeepsOthers W2 w9 ∧ Below W2.heap.size W2 w9) := fun w9 hb => by
      have hb1 : Below W2.heap.size W2 w9 := (Below.refl _ _).drew.trans hb
      have L9 := HL2.out.fr hb1 (by omega) (by omega) (by omega) (by omega) (by omega) (by omega)
      exact ⟨L9, by simp [World.cell?, L9.ct], by simp [World.frozen?, L9.ct], by simp [World.cell?, L9.ch], L9.co.cell (by rw [L9.ln]; exact hx1), L9.co.free _, (hb1.cell (p := ⟨q, 0, none⟩) (by show q < _; omega)).trans cq2, ⟨hb1.size, fun k o hk _ => (hb1.block k (Array.getElem?_eq_some_iff.1 hk).1).trans hk⟩, hb1⟩
    have hn1 : gT ≠ gH := by omega
    have hn2 : gT ≠ gO := by omega
    have hn3 : gH ≠ gT := by omega
    have hn4 : gO ≠ gT := by omega
    have hn5 : gO ≠ gH := by omega
    have hn6 : gH ≠ gO := by omega
    have hfb : Fence.wide.fn 46 := trivial
    have w0i : IntKind.i64.wrap (vn : Int) = (vn : Int) := IntWalk.i64_in _ (by omega)
    gi_wp2
    refine still_tail14 10 hmx (by kernel_rfl) (by kernel_rfl) ?_
    simp only [List.take_succ_cons, List.take_zero, List.drop_succ_cons, List.drop_zero]
    repeat still_step
    refine wpStill_nil ?_
    gi_wp2
    refine (CallsIn.inRound l (callsIn_wide.2 CBD)).mono ?_
    rintro e9 w9 ⟨⟨c, c1, c2, rfl, c3⟩, B9⟩
    obtain ⟨L9, j1, j2, j3, j4, j5, j6, j7, j8⟩ := H9.out w9 B9
    have HL9 : Hid (Li14 w w9 gS gF gH gT gO q n m z p pre.length (pre.map Subtype.val <+: bwk14 p m) th2 row2) := L9
    have HC3 : Hid ((pre.map Subtype.val ++ [(at_, (vn : Int))] <+: bwk14 p m) → (c : Int) = th14 z (p.drop (m - (pre.length + 1))) ∧ ∀ i, m - (pre.length + 1) ≤ i → i < m → (row2.set at_ (c : Int)).getD i 0 = ((lo14 z (p.drop i) : Nat) : Int)) := HST.out c c3
    clear L9 c3 CBD
    gi_wp2
    have L9 := HL9.out
    have e1 : ∀ k, k ≠ gT → k ≠ gO → ((w9.setCell ⟨gT, 0, none⟩ (.int .i64 (c : Int))).setCell ⟨gO, at_, none⟩ (.int .i64 (c : Int))).heap[k]? = w9.heap[k]? := fun k a b => (heap_setCell_other _ _ _ _ b).trans (heap_setCell_other _ _ _ _ a)
    have R1 : Rz12 w9 gT [th2] := ⟨L9.ct⟩
    have R2 : Rz12 (w9.setCell ⟨gT, 0, none⟩ (.int .i64 (c : Int))) gO row2 := ⟨(heap_setCell_other _ _ _ _ hn4).trans L9.co.hp⟩
    refine ⟨(j7.trans (KeepsOthers.setCell _ _ _)).trans (KeepsOthers.setCell _ _ _), ((KeepE.of_below (j8.mono (by omega))).trans (KeepE.set (.inr (.inl rfl)) _)).trans (KeepE.set (.inr (.inr rfl)) _), ⟨(c : Int), row2.set at_ (c : Int), ?_⟩, ?_⟩
    · exact ⟨below_set14 (below_set14 L9.bl (by omega)) (by omega), ⟨(e1 _ (by omega) (by omega)).trans L9.cs.hp⟩, (e1 _ (by omega) (by omega)).trans L9.cf, (e1 _ (by omega) (by omega)).trans L9.ch, (heap_setCell_other _ _ _ _ hn2).trans (R1.set 0 (c : Int)).hp, R2.set at_ (c : Int), by rw [List.length_set]; exact L9.ln, by omega, HC3.out⟩
    · have := j8.size
      omega
  case done =>
    rintro D xs W hD hS ⟨th, row, L, cq, hs⟩ hK
    have hxs : xs.length = m := by rw [← List.length_map (f := Subtype.val), hS]; simp [bwk14]
    have hrow : row = ls14 z p := by
      obtain ⟨_, k2⟩ := L.kp (by rw [hS]; exact List.prefix_refl _)
      refine ext14 (by rw [L.ln, ls14_len, hm.out]) fun i hi => ?_
      rw [ls14_get z p (by rw [hm.out, ← L.ln]; exact hi)]
      exact k2 i (by omega) (by rw [← L.ln]; exact hi)
    have cH9 : W.cell? ⟨gH, 0, none⟩ = some (.slice (some ⟨gO, 0, none⟩) m m) := by simp [World.cell?, L.ch]
    have HF : Hid (Rz12 W gO (ls14 z p) ∧ w.heap.size ≤ gO ∧ Below w.heap.size w W) := ⟨by rw [← hrow]; exact L.co, by omega, L.bl⟩
    have hfw : Fence.wide.round = none := rfl
    clear L hrow
    go_wp2_with fail
    refine ⟨by simp, .inl ⟨_, _, rfl, run_takeDeferred hK, ?_⟩⟩
    obtain ⟨f1, f2, f3⟩ := HF.out
    exact ⟨_, results_tmp rfl _ _ _, gO, rfl, ⟨(World.putObj_heap_other (by omega)).trans f1.hp⟩, f2, below_put14 f3 (by omega)⟩
open Go.RowKit Go.Shelf
attribute [local go_sem] Oper.semAt_some

/-! The landed find: nears, an iterator with a state of its own. -/
/-- From B on cells lie as they lay, but for those of E. -/
structure KeepC14 (B : Nat) (E : Nat → Prop) (W W' : World) : Prop where
  bl : Below B W W'
  cel : ∀ (k : Nat) (o : Obj), W.heap[k]? = some o → o.isCells = true → ¬ E k → W'.heap[k]? = some o
theorem KeepC14.refl (B : Nat) (E : Nat → Prop) (W : World) : KeepC14 B E W W := ⟨Below.refl _ _, fun _ _ h _ _ => h⟩
theorem KeepC14.trans {B : Nat} {E : Nat → Prop} {W1 W2 W3 : World} (h : KeepC14 B E W1 W2) (k : KeepC14 B E W2 W3) : KeepC14 B E W1 W3 := ⟨h.bl.trans k.bl, fun i o hi ho hn => k.cel i o (h.cel i o hi ho hn) ho hn⟩
theorem KeepC14.of_below {B : Nat} {E : Nat → Prop} {W W' : World} (hB : B ≤ W.heap.size) (h : Below W.heap.size W W') : KeepC14 B E W W' := ⟨h.mono hB, fun k o hk _ _ => (h.block k (Array.getElem?_eq_some_iff.1 hk).1).trans hk⟩
theorem KeepC14.set {B : Nat} {E : Nat → Prop} {W : World} {r i : Nat} (hB : B ≤ r) (hE : E r) (v : Value) : KeepC14 B E W (W.setCell ⟨r, i, none⟩ v) :=
  ⟨below_set14 (Below.refl _ _) hB, fun k o hk _ hn => (heap_setCell_other _ _ _ _ (fun e => hn (by have e' : k = r := e; rw [e']; exact hE))).trans hk⟩
theorem keepC_b {B : Nat} {E : Nat → Prop} {w : World} (hB : B ≤ w.heap.size) (W : World) (l : Nat) (o : Obj) (r : Loop) (hl : w.heap.size ≤ l) (h : W.heap[l]? = some (.loop r)) : KeepC14 B E W (W.putObj l o) :=
  ⟨below_put14 (Below.refl _ _) (by omega), fun k x hk hx _ => (put_cel14 o h).2 k x hk hx⟩
abbrev NrE14 (m : Nat) : Type := { x : Nat × Nat × Nat × Nat // x.1 < m }
noncomputable def nr14 (z : List Int) (A : List Nat) (p : List Int) (i : Nat) : Nat × Nat × Nat × Nat := (i, lo14 z (p.drop i), bl14 z A (p.drop i) (lo14 z (p.drop i)), ab14 z A (p.drop i) (lo14 z (p.drop i)))
noncomputable def nrk14 (z : List Int) (A : List Nat) (p : List Int) (k : Nat) : List (Nat × Nat × Nat × Nat) := (List.range k).map (nr14 z A p)
theorem nrk14_succ (z : List Int) (A : List Nat) (p : List Int) (k : Nat) : nrk14 z A p (k + 1) = nrk14 z A p k ++ [nr14 z A p k] := by
  unfold nrk14
  rw [List.range_succ, List.map_append]
  rfl
/-- Between two rounds of the iterator. -/
structure NrI14 (w0 wr : World) (gL gR Bx Bp b m : Nat) (pa : Option Addr) (pc : Nat) (z : List Int) (A : List Nat) (p : List Int) (i lr lb la : Nat) : Prop where
  bl : Below w0.heap.size w0 wr
  cl : wr.heap[gL]? = some (.cells #[.int .i64 (lr : Int), .int .i64 (lb : Int), .int .i64 (la : Int)] 44 (0, 0))
  cx : wr.heap[Bx]? = some (.cells #[.pointer (some ⟨b, 0, none⟩)] 23 (0, 0))
  cp : wr.heap[Bp]? = some (.cells #[.slice pa m pc] 22 (0, 0))
  cr : Rz12 wr gR (ls14 z p)
  kl : lb - 1 ≤ bl14 z A (p.drop i) (lo14 z (p.drop i)) ∧ la - 1 ≤ ab14 z A (p.drop i) (lo14 z (p.drop i))
  bd : lb ≤ m ∧ la ≤ m
theorem NrI14.old {w0 wr wr' : World} {gL gR Bx Bp b m pc i lr lb la : Nat} {pa : Option Addr} {z p : List Int} {A : List Nat} (h : NrI14 w0 wr gL gR Bx Bp b m pa pc z A p i lr lb la) (hb : Below wr.heap.size wr wr') : NrI14 w0 wr' gL gR Bx Bp b m pa pc z A p i lr lb la :=
  ⟨h.bl.trans (hb.mono h.bl.size), (hb.block _ (Array.getElem?_eq_some_iff.1 h.cl).1).trans h.cl, (hb.block _ (Array.getElem?_eq_some_iff.1 h.cx).1).trans h.cx, (hb.block _ (Array.getElem?_eq_some_iff.1 h.cp).1).trans h.cp, h.cr.old hb, h.kl, h.bd⟩
theorem NrI14.kc {w0 wr wr' : World} {E : Nat → Prop} {gL gR Bx Bp b m pc i lr lb la : Nat} {pa : Option Addr} {z p : List Int} {A : List Nat} (h : NrI14 w0 wr gL gR Bx Bp b m pa pc z A p i lr lb la) (hk : KeepC14 w0.heap.size E wr wr') (h1 : ¬ E gL) (h2 : ¬ E gR) (h3 : ¬ E Bx) (h4 : ¬ E Bp) : NrI14 w0 wr' gL gR Bx Bp b m pa pc z A p i lr lb la :=
  ⟨h.bl.trans hk.bl, hk.cel _ _ h.cl rfl h1, hk.cel _ _ h.cx rfl h3, hk.cel _ _ h.cp rfl h4, ⟨hk.cel _ _ h.cr.hp rfl h2⟩, h.kl, h.bd⟩
/-- What stands behind one byte less. -/
theorem nr_step14 {z : List Int} {A : List Nat} (hA : Ar12 z.length (S12 z) A) {p : List Int} {i : Nat} (hi : i < p.length) :
    bl14 z A (p.drop i) (lo14 z (p.drop i)) - 1 ≤ bl14 z A (p.drop (i + 1)) (lo14 z (p.drop (i + 1))) ∧ ab14 z A (p.drop i) (lo14 z (p.drop i)) - 1 ≤ ab14 z A (p.drop (i + 1)) (lo14 z (p.drop (i + 1))) := by
  rw [drop_cons14 hi]
  exact ⟨near_lo_step14 hA _ _, near_hi_step14 hA _ _⟩
theorem NrI14.next {w0 wr : World} {gL gR Bx Bp b m pc i lr lb la : Nat} {pa : Option Addr} {z p : List Int} {A : List Nat} (h : NrI14 w0 wr gL gR Bx Bp b m pa pc z A p i lr lb la) (hA : Ar12 z.length (S12 z) A) (hm : p.length = m) (hi : i < m) (hL : w0.heap.size ≤ gL) (hR : gR ≠ gL) (hX : Bx ≠ gL) (hP : Bp ≠ gL) :
    NrI14 w0 (((wr.setCell ⟨gL, 0, none⟩ (.int .i64 ((lo14 z (p.drop i) : Nat) : Int))).setCell ⟨gL, 1, none⟩ (.int .i64 ((bl14 z A (p.drop i) (lo14 z (p.drop i)) : Nat) : Int))).setCell ⟨gL, 2, none⟩ (.int .i64 ((ab14 z A (p.drop i) (lo14 z (p.drop i)) : Nat) : Int))) gL gR Bx Bp b m pa pc z A p (i + 1) (lo14 z (p.drop i)) (bl14 z A (p.drop i) (lo14 z (p.drop i))) (ab14 z A (p.drop i) (lo14 z (p.drop i))) := by
  have e : ∀ k u v x, k ≠ gL → (((wr.setCell ⟨gL, 0, none⟩ u).setCell ⟨gL, 1, none⟩ v).setCell ⟨gL, 2, none⟩ x).heap[k]? = wr.heap[k]? := fun k u v x hk => (heap_setCell_other _ _ _ _ hk).trans ((heap_setCell_other _ _ _ _ hk).trans (heap_setCell_other _ _ _ _ hk))
  have l1 := bl14_le z A (p.drop i) (lo14 z (p.drop i))
  have l2 := ab14_le z A (p.drop i) (lo14 z (p.drop i))
  rw [List.length_drop] at l1 l2
  exact ⟨below_set14 (below_set14 (below_set14 h.bl hL) hL) hL, three_set2 (three_set1 (three_set0 h.cl _) _) _, (e _ _ _ _ hX).trans h.cx, (e _ _ _ _ hP).trans h.cp, ⟨(e _ _ _ _ hR).trans h.cr.hp⟩, nr_step14 hA (by omega), by omega⟩
open Go.RowKit Go.Shelf
attribute [local go_sem] Oper.semAt_some

/-! The landed find: nears, the walk. -/
theorem still_plain14 {P : Program} {id : Nat} {Q : Exit → Act → World → Prop} {a : Act} {w : World} {l : List Oper} (k : Nat) (hm : P.follows .mixedOrders = true) (hB : Region.lexTailB .any l.toArray k = true)
    (h : wpStill P l.toArray w.drew (fun a' => wpList P l.toArray Q (l.drop k) a' w.drew) (l.take k) a) : (Code.region id l.toArray true).wp P Q a w := wp_region_still_tail k hm hB h
set_option maxRecDepth 100000 in
set_option maxHeartbeats 1000000 in
theorem pnrs14 (b : Nat) (pa : Option Addr) (m pc : Nat) (w : World) : Calls Try.prog 16 #[.pointer (some ⟨b, 0, none⟩), .slice pa m pc] w fun e w' => e = .returned (.func (.func 27) #[] #[.pointer (some ⟨w.heap.size, 0, none⟩), .pointer (some ⟨w.heap.size + 1, 0, none⟩)]) ∧ w' = (w.alloc (.cells #[.pointer (some ⟨b, 0, none⟩)] 23)).alloc (.cells #[.slice pa m pc] 22) := by
  have hmf : ∀ (fn : Fn) (first cap : Array Value) (w : World), (Instr.makeFunc fn first cap).run Try.prog w = .ok (.func fn first cap) w := fun _ _ _ _ => rfl
  go_enter Try.func16, Try.ntmps16
  go_wp2_with fail
  go_ret
  exact ⟨rfl, rfl⟩
set_option maxRecDepth 100000 in
set_option maxHeartbeats 8000000 in
theorem nr_in14 (n : Nat) (hn : 2 ≤ n) (l Bx Bp : Nat) (E : Nat → Prop) (b nn : Nat) (z : List Int) (A : List Nat) (pa : Option Addr) (p : List Int) (m pc : Nat) (w0 : World) (h : IX14 w0 b nn z A) (hz : ∀ y ∈ z, 0 ≤ y ∧ y ≤ 255) (hp : Seg w0 pa p) (hm : Hid (p.length = m)) (hmb : m ≤ 17592186044416) (hpc : m ≤ pc) (J : List (NrE14 m) → World → Prop) (W : World)
    (hBW : Below w0.heap.size w0 W) (hJ : Abd14 W.heap.size J) (hEx : ¬ E Bx) (hEp : ¬ E Bp) (hE : ∀ k, E k → k < W.heap.size) (cX : W.heap[Bx]? = some (.cells #[.pointer (some ⟨b, 0, none⟩)] 23 (0, 0))) (cP : W.heap[Bp]? = some (.cells #[.slice pa m pc] 22 (0, 0)))
    (hY : ∀ pre x W1, J pre W1 → pre.length < m → YieldAt Fence.wide (n - 1) Try.prog l #[.int .i64 (x.1.1 : Int), .agg #[.int .i64 (x.1.2.1 : Int), .int .i64 (x.1.2.2.1 : Int), .int .i64 (x.1.2.2.2 : Int)]] W1 fun e W' => e = .returned (.bool true) ∧ J (pre ++ [x]) W' ∧ KeepC14 w0.heap.size E W1 W') (h0 : J [] W) :
    CallsIn Fence.wide n Try.prog 27 #[.func (.yield l) #[] #[], .pointer (some ⟨Bx, 0, none⟩), .pointer (some ⟨Bp, 0, none⟩)] W fun e W' => (∃ v, e = .returned v) ∧ ∃ xs, xs.map Subtype.val = nrk14 z A p m ∧ J xs W' := by
  have hBx : Bx < W.heap.size := (Array.getElem?_eq_some_iff.1 cX).1
  have hBp : Bp < W.heap.size := (Array.getElem?_eq_some_iff.1 cP).1
  have cXc : W.cell? ⟨Bx, 0, none⟩ = some (.pointer (some ⟨b, 0, none⟩)) := by simp [World.cell?, cX]
  have cPc : W.cell? ⟨Bp, 0, none⟩ = some (.slice pa m pc) := by simp [World.cell?, cP]
  have B1 : Below W.heap.size W (W.alloc (.cells #[.int .i64 0, .int .i64 0, .int .i64 0] 44)) := (Below.refl _ _).alloc (Nat.le_refl _) _
  have CL := pless14 b nn z A pa p m pc _ (h.old (hBW.trans (B1.mono hBW.size))) hz (hp.old (hBW.trans (B1.mono hBW.size))) hm (by omega)
  have HAR : Hid (Ar12 z.length (S12 z) A) := h.arz
  have HLO : Hid (∀ i, lo14 z (p.drop i) ≤ nn) := fun i => by rw [← h.len]; exact lo14_le _ _
  have hn24 := h.n24
  have HNR : Hid (∀ pb po, pa = some ⟨pb, po, none⟩ → ∀ wr i lr lb la gL gR, i < m → NrI14 w0 wr gL gR Bx Bp b m pa pc z A p i lr lb la → Calls Try.prog 29 #[.pointer (some ⟨b, 0, none⟩), .int .i64 ((lo14 z (p.drop i) : Nat) : Int), .slice (some ⟨pb, po + i, none⟩) (m - i) (pc - i), .agg #[.int .i64 (lr : Int), .int .i64 (lb : Int), .int .i64 (la : Int)]] wr (NearQ14 wr (lo14 z (p.drop i)) (bl14 z A (p.drop i) (lo14 z (p.drop i))) (ab14 z A (p.drop i) (lo14 z (p.drop i))))) := fun pb po hpa wr i lr lb la gL gR hi N => by
    have hs : Seg wr (some ⟨pb, po + i, none⟩) (p.drop i) := by
      have := hp.old N.bl
      rw [hpa] at this
      exact this.drop i
    have hl : Hid ((p.drop i).length = m - i) := by show _ = _; rw [List.length_drop, hm.out]
    have := HLO.out i
    have := N.bd
    exact pnear14 b _ (m - i) (pc - i) (lo14 z (p.drop i)) lr lb la _ _ wr (by omega) (by omega) (by omega) (cm_lo14 (h.old N.bl) hs hl (by omega) (by omega) (HLO.out i) fun _ => N.kl.1) (cm_hi14 (h.old N.bl) hs hl (by omega) (by omega) (HLO.out i) fun _ => N.kl.2)
  have HPA : Hid (∀ i, i < m → ∃ pb po, pa = some ⟨pb, po, none⟩) := fun i hi => by
    obtain ⟨pb, po, e, _⟩ := hp.at_ i (by rw [hm.out]; exact hi)
    exact ⟨pb, po, e⟩
  have HJ0 : Hid (J [] (W.alloc (.cells #[.int .i64 0, .int .i64 0, .int .i64 0] 44))) := hJ.old _ _ _ h0 B1
  have HN0 : Hid (∀ gR W2, Below (W.alloc (.cells #[.int .i64 0, .int .i64 0, .int .i64 0] 44)).heap.size (W.alloc (.cells #[.int .i64 0, .int .i64 0, .int .i64 0] 44)) W2 → Rz12 W2 gR (ls14 z p) → NrI14 w0 W2 W.heap.size gR Bx Bp b m pa pc z A p 0 0 0 0) := fun gR W2 hb hr => by
    have b2 := B1.trans (hb.mono B1.size)
    exact ⟨hBW.trans (b2.mono hBW.size), (hb.block _ (by simp)).trans (heap_alloc_new _ _), (b2.block _ hBx).trans cX, (b2.block _ hBp).trans cP, hr, ⟨Nat.zero_le _, Nat.zero_le _⟩, Nat.zero_le _, Nat.zero_le _⟩
  have hq0 : w0.heap.size ≤ W.heap.size := hBW.size
  clear h hp cX cP hBW B1
  refine callsIn_of_wp Try.func27 rfl trivial ?_ rfl
  simp only [Try.ntmps27, List.size_toArray, List.length_cons, List.length_nil, Nat.reduceAdd, Nat.reduceSub, Array.replicate_succ, Array.replicate_zero, List.push_toArray, List.append_toArray, List.nil_append, List.cons_append]
  have HCL := CL
  gi_wp2
  refine ⟨trivial, fun _ => by omega, (callsIn_wide.2 HCL).mono ?_⟩
  clear HCL CL
  rintro e2 W2 ⟨gR, rfl, R2, A2, B2⟩
  have HJ2 : Hid (J [] W2) := hJ.old _ _ _ HJ0.out B2
  have HN2 := HN0.out gR W2 B2 R2
  have hgR : W.heap.size < gR := by have := A2; simp at this; omega
  have HNN : Hid (NrI14 w0 W2 W.heap.size gR Bx Bp b m pa pc z A p 0 0 0 0) := HN2
  have HW2 : W.heap.size + 1 ≤ W2.heap.size := by have := B2.size; simpa using this
  clear HN2 R2 A2 B2 HN0 HJ0 h0 cXc cPc
  obtain ⟨gL, hgL⟩ : ∃ gL, gL = W.heap.size := ⟨_, rfl⟩
  rw [← hgL] at hgR HNN HW2 hBx hBp hq0 hE hJ
  rw [← hgL]
  clear hgL
  gi_wp2
  gi_loopw [11] (fun t wr => ∃ (pre : List (NrE14 m)) (i lr lb la : Nat), i ≤ m ∧ t = .int .i64 (i : Int) ∧ Hid (pre.map Subtype.val = nrk14 z A p i) ∧ pre.length = i ∧ Hid (J pre wr) ∧ Hid (NrI14 w0 wr gL gR Bx Bp b m pa pc z A p i lr lb la)) (fun t _ => m - (intOf t).toNat)
  case atStart => exact ⟨[], 0, 0, 0, 0, Nat.zero_le _, rfl, (rfl : _ = _), rfl, HJ2, HNN⟩
  case round =>
    obtain ⟨pre, i, lr, lb, la, hi, rfl, HP, hpl, HJ, HN⟩ := hrel
    by_cases hlt : i < m
    · have hli : (i : Int) < (m : Int) := by omega
      have N := HN.out
      have ci := N.cr.cell (i := i) (by rw [ls14_len, hm.out]; exact hlt)
      rw [ls14_get z p (by rw [hm.out]; exact hlt)] at ci
      have x1 : wr.cell? ⟨Bx, 0, none⟩ = some (.pointer (some ⟨b, 0, none⟩)) := by simp [World.cell?, N.cx]
      have x2 : wr.cell? ⟨Bp, 0, none⟩ = some (.slice pa m pc) := by simp [World.cell?, N.cp]
      have y0 := three_cell0 N.cl
      have y1 := three_cell1 N.cl
      have y2 := three_cell2 N.cl
      obtain ⟨pb, po, hpa⟩ := HPA.out i hlt
      have ND : NrI14 w0 wr.drew gL gR Bx Bp b m pa pc z A p i lr lb la := N.old (Below.refl _ _).drew
      have CN := HNR.out pb po hpa wr.drew i lr lb la gL gR hlt ND
      obtain ⟨x, hx⟩ : ∃ x : NrE14 m, x.1 = (i, lo14 z (p.drop i), bl14 z A (p.drop i) (lo14 z (p.drop i)), ab14 z A (p.drop i) (lo14 z (p.drop i))) := ⟨⟨nr14 z A p i, hlt⟩, rfl⟩
      have HPN : Hid ((pre ++ [x]).map Subtype.val = nrk14 z A p (i + 1)) := by
        show _ = _
        rw [List.map_append, HP.out, nrk14_succ, List.map_cons, hx]
        rfl
      have HX : Hid (x.1 = (i, lo14 z (p.drop i), bl14 z A (p.drop i) (lo14 z (p.drop i)), ab14 z A (p.drop i) (lo14 z (p.drop i)))) := hx
      have H9 : Hid (∀ w9, Below wr.drew.heap.size wr.drew w9 → w9.heap[gL]? = some (.cells #[.int .i64 (lr : Int), .int .i64 (lb : Int), .int .i64 (la : Int)] 44 (0, 0)) ∧ NrI14 w0 (((w9.setCell ⟨gL, 0, none⟩ (.int .i64 ((lo14 z (p.drop i) : Nat) : Int))).setCell ⟨gL, 1, none⟩ (.int .i64 ((bl14 z A (p.drop i) (lo14 z (p.drop i)) : Nat) : Int))).setCell ⟨gL, 2, none⟩ (.int .i64 ((ab14 z A (p.drop i) (lo14 z (p.drop i)) : Nat) : Int))) gL gR Bx Bp b m pa pc z A p (i + 1) (lo14 z (p.drop i)) (bl14 z A (p.drop i) (lo14 z (p.drop i))) (ab14 z A (p.drop i) (lo14 z (p.drop i))) ∧ YieldAt Fence.wide (n - 1) Try.prog l #[.int .i64 (i : Int), .agg #[.int .i64 ((lo14 z (p.drop i) : Nat) : Int), .int .i64 ((bl14 z A (p.drop i) (lo14 z (p.drop i)) : Nat) : Int), .int .i64 ((ab14 z A (p.drop i) (lo14 z (p.drop i)) : Nat) : Int)]] (((w9.setCell ⟨gL, 0, none⟩ (.int .i64 ((lo14 z (p.drop i) : Nat) : Int))).setCell ⟨gL, 1, none⟩ (.int .i64 ((bl14 z A (p.drop i) (lo14 z (p.drop i)) : Nat) : Int))).setCell ⟨gL, 2, none⟩ (.int .i64 ((ab14 z A (p.drop i) (lo14 z (p.drop i)) : Nat) : Int))) fun e W' => e = .returned (.bool true) ∧ J (pre ++ [x]) W' ∧ KeepC14 w0.heap.size E (((w9.setCell ⟨gL, 0, none⟩ (.int .i64 ((lo14 z (p.drop i) : Nat) : Int))).setCell ⟨gL, 1, none⟩ (.int .i64 ((bl14 z A (p.drop i) (lo14 z (p.drop i)) : Nat) : Int))).setCell ⟨gL, 2, none⟩ (.int .i64 ((ab14 z A (p.drop i) (lo14 z (p.drop i)) : Nat) : Int))) W') := fun w9 hb => by
        have N9 := ND.old hb
        have j0 : J pre w9 := hJ.old _ _ _ (hJ.old _ _ _ HJ.out (Below.refl _ _).drew) hb
        have s0 := three_set0 N9.cl (.int .i64 ((lo14 z (p.drop i) : Nat) : Int))
        have s1 := three_set1 s0 (.int .i64 ((bl14 z A (p.drop i) (lo14 z (p.drop i)) : Nat) : Int))
        have j1 := hJ.set _ _ gL _ _ 0 (.int .i64 ((lo14 z (p.drop i) : Nat) : Int)) (Nat.le_refl _) N9.cl j0
        have j2 := hJ.set _ _ gL _ _ 1 (.int .i64 ((bl14 z A (p.drop i) (lo14 z (p.drop i)) : Nat) : Int)) (Nat.le_refl _) s0 j1
        have j3 := hJ.set _ _ gL _ _ 2 (.int .i64 ((ab14 z A (p.drop i) (lo14 z (p.drop i)) : Nat) : Int)) (Nat.le_refl _) s1 j2
        have y := hY pre x _ j3 (by omega)
        rw [hx] at y
        exact ⟨N9.cl, N9.next HAR.out hm.out hlt hq0 (by omega) (by omega) (by omega), y⟩
      have hnE1 : ¬ E gL := fun e => by have := hE _ e; omega
      have hnE2 : ¬ E gR := fun e => by have := hE _ e; omega
      have HNX : Hid (∀ W3 W4 k u v, NrI14 w0 W3 gL gR Bx Bp b m pa pc z A p (i + 1) k u v → KeepC14 w0.heap.size E W3 W4 → NrI14 w0 W4 gL gR Bx Bp b m pa pc z A p (i + 1) k u v) := fun W3 W4 k u v a c => a.kc c hnE1 hnE2 hEx hEp
      have hlk := HLO.out i
      have w1i : IntKind.i64.wrap ((i : Int) + 1) = ((i + 1 : Nat) : Int) := by rw [show ((i : Int) + 1) = ((i + 1 : Nat) : Int) by omega]; exact IntWalk.i64_in _ (by omega)
      have hpm : ¬ pc = i := by omega
      have hip : (i : Int) ≤ (pc : Int) := by omega
      have him : (i : Int) ≤ (m : Int) := by omega
      clear N ND hx HN hJ HNR HLO HPA hY
      generalize bl14 z A (p.drop i) (lo14 z (p.drop i)) = bl at *
      generalize ab14 z A (p.drop i) (lo14 z (p.drop i)) = ab at *
      generalize lo14 z (p.drop i) = k at *
      subst hpa
      gi_wp2
      refine wpIn_wide.2 ?_
      refine still_plain14 6 (by kernel_rfl) (by kernel_rfl) ?_
      simp only [List.take_succ_cons, List.take_zero, List.drop_succ_cons, List.drop_zero]
      repeat still_step
      refine wpStill_nil ?_
      go_wp2_with (first
        | (go_at_call 29; refine CN.mono ?_; rintro e9 w9 ⟨rfl, B9⟩; obtain ⟨G9, N9, fn, tmps, assign, body, hy, hR⟩ := H9.out w9 B9; clear CN; have d0 := three_cell0 G9; have d1 := three_cell1 G9; have d2 := three_cell2 G9; have f0 := three_free14 0 G9; have f1 := three_free14 1 G9; have f2 := three_free14 2 G9; have HN9 : Hid (NrI14 w0 (((w9.setCell ⟨gL, 0, none⟩ (.int .i64 (k : Int))).setCell ⟨gL, 1, none⟩ (.int .i64 (bl : Int))).setCell ⟨gL, 2, none⟩ (.int .i64 (ab : Int))) gL gR Bx Bp b m (some ⟨pb, po, none⟩) pc z A p (i + 1) k bl ab) := N9; clear N9 G9))
      gi_wp2
      refine ⟨fun _ => by omega, ?_⟩
      refine hR.mono ?_
      rintro e3 W3 ⟨rfl, hJ3, hk3⟩
      have HN3 := HNX.out _ W3 _ _ _ HN9.out hk3
      have HM3 : Hid (NrI14 w0 W3 gL gR Bx Bp b m (some ⟨pb, po, none⟩) pc z A p (i + 1) k bl ab) := HN3
      have HJ3 : Hid (J (pre ++ [x]) W3) := hJ3
      clear HN3 hJ3 hk3 HN9 hy hR
      gi_wp2
      go_roundw
      case rel => exact ⟨pre ++ [x], i + 1, k, bl, ab, by omega, by first | rfl | go_num, HPN, by simp; omega, HJ3, HM3⟩
      case measure => simp [intOf]; omega
    · have hk2 : i = m := by omega
      have HP2 : Hid (pre.map Subtype.val = nrk14 z A p m) := by have := HP.out; rwa [hk2] at this
      have hneg : ¬ (i : Int) < (m : Int) := by omega
      clear hk2
      gi_wp2
      go_end0
      exact ⟨⟨_, rfl⟩, pre, HP2.out, HJ.out⟩
open Go.RowKit Go.Shelf
attribute [local go_sem] Oper.semAt_some

/-! The landed find: Statistics. -/
theorem nr_seq14 (n : Nat) (hn : 2 ≤ n) (Bx Bp : Nat) (E : Nat → Prop) (b nn : Nat) (z : List Int) (A : List Nat) (pa : Option Addr) (p : List Int) (m pc : Nat) (w0 : World) (h : IX14 w0 b nn z A) (hz : ∀ y ∈ z, 0 ≤ y ∧ y ≤ 255) (hp : Seg w0 pa p) (hm : Hid (p.length = m)) (hmb : m ≤ 17592186044416) (hpc : m ≤ pc) (w : World)
    (hBW : Below w0.heap.size w0 w) (hEx : ¬ E Bx) (hEp : ¬ E Bp) (hE : ∀ k, E k → k < w.heap.size) (cX : w.heap[Bx]? = some (.cells #[.pointer (some ⟨b, 0, none⟩)] 23 (0, 0))) (cP : w.heap[Bp]? = some (.cells #[.slice pa m pc] 22 (0, 0))) :
    Seq14 n Try.prog 27 #[.pointer (some ⟨Bx, 0, none⟩), .pointer (some ⟨Bp, 0, none⟩)] (fun x : NrE14 m => #[Value.int .i64 (x.1.1 : Int), Value.agg #[.int .i64 (x.1.2.1 : Int), .int .i64 (x.1.2.2.1 : Int), .int .i64 (x.1.2.2.2 : Int)]]) (KeepC14 w0.heap.size E) (fun xs => xs.map Subtype.val = nrk14 z A p m) m w := fun l J W hW hJ hY h0 =>
  nr_in14 n hn l Bx Bp E b nn z A pa p m pc w0 h hz hp hm hmb hpc J W (hBW.trans (hW.mono hBW.size)) hJ hEx hEp (fun k hk => Nat.lt_of_lt_of_le (hE k hk) hW.size) ((hW.block _ (Array.getElem?_eq_some_iff.1 cX).1).trans cX) ((hW.block _ (Array.getElem?_eq_some_iff.1 cP).1).trans cP) hY h0
theorem nrk14_at {z : List Int} {A : List Nat} {p : List Int} {L : List (Nat × Nat × Nat × Nat)} {x : Nat × Nat × Nat × Nat} {m : Nat} (h : L ++ [x] <+: nrk14 z A p m) : L.length < m ∧ x = nr14 z A p L.length ∧ L <+: nrk14 z A p m := by
  have h1 := h.length_le
  have h2 : (nrk14 z A p m).length = m := by simp [nrk14]
  rw [h2, List.length_append, List.length_singleton] at h1
  have h4 : (nrk14 z A p m)[L.length]? = some x := by
    obtain ⟨t, ht⟩ := h
    rw [← ht]
    simp
  refine ⟨by omega, ?_, (List.prefix_append _ _).trans h⟩
  unfold nrk14 at h4
  rw [List.getElem?_map, List.getElem?_range (by omega)] at h4
  simp at h4
  exact h4.symm
/-- Between two rounds of Statistics. -/
structure SI14 (w W : World) (gO gH m : Nat) (z p : List Int) (k : Nat) (ok : Prop) (row : List Int) : Prop where
  bl : Below w.heap.size w W
  ch : W.heap[gH]? = some (.cells #[.slice (some ⟨gO, 0, none⟩) m m] 28 (0, 0))
  co : Rz12 W gO row
  ln : row.length = m
  kp : ok → ∀ i, i < k → row.getD i 0 = ((mx14 z (p.drop i) : Nat) : Int)
theorem SI14.fr {w W W' : World} {gO gH m : Nat} {z p : List Int} {k : Nat} {ok : Prop} {row : List Int} {B : Nat} (h : SI14 w W gO gH m z p k ok row) (hb : Below B W W') (hB : w.heap.size ≤ B) (h1 : gH < B) (h2 : gO < B) : SI14 w W' gO gH m z p k ok row :=
  ⟨h.bl.trans (hb.mono hB), (hb.block _ h1).trans h.ch, ⟨(hb.block _ h2).trans h.co.hp⟩, h.ln, h.kp⟩
theorem si_step14 {z : List Int} {A : List Nat} (hA : Ar12 z.length (S12 z) A) {p : List Int} {m : Nat} {L : List (Nat × Nat × Nat × Nat)} {at_ k u v : Nat} {row : List Int} (hln : row.length = m) (h : L ++ [(at_, k, u, v)] <+: nrk14 z A p m)
    (hk : L <+: nrk14 z A p m → ∀ i, i < L.length → row.getD i 0 = ((mx14 z (p.drop i) : Nat) : Int)) : ∀ i, i < L.length + 1 → (row.set at_ ((max u v : Nat) : Int)).getD i 0 = ((mx14 z (p.drop i) : Nat) : Int) := by
  obtain ⟨h1, h2, h3⟩ := nrk14_at h
  unfold nr14 at h2
  injection h2 with e1 e2
  injection e2 with e2 e3
  injection e3 with e3 e4
  intro i hi
  rw [getD_set12 _ _ _ _ (by omega)]
  by_cases c1 : i = at_
  · rw [if_pos c1, e3, e4, mx_max14 hA, c1, e1]
  · rw [if_neg c1]
    exact hk h3 i (by omega)
theorem keepsO14 {W W' : World} (hb : Below W.heap.size W W') : KeepsOthers W W' := ⟨hb.size, fun k o hk _ => (hb.block k (Array.getElem?_eq_some_iff.1 hk).1).trans hk⟩
/-- What Statistics answers of a text. -/
def stt14 (z p : List Int) : List Int := (List.range p.length).map fun i => ((mx14 z (p.drop i) : Nat) : Int)
theorem stt14_len (z p : List Int) : (stt14 z p).length = p.length := by simp [stt14]
theorem stt14_get (z p : List Int) {i : Nat} (h : i < p.length) : (stt14 z p).getD i 0 = ((mx14 z (p.drop i) : Nat) : Int) := by simp [stt14, List.getD, h]
def StQ14 (W : World) (z p : List Int) (m : Nat) (e : Ending) (w' : World) : Prop := ∃ a, e = .returned (.tuple #[.slice (some ⟨a, 0, none⟩) m m, .int .i64 0]) ∧ Rz12 w' a (stt14 z p) ∧ W.heap.size ≤ a ∧ Below W.heap.size W w'
set_option maxRecDepth 100000 in
set_option maxHeartbeats 8000000 in
theorem pstat14 (b n : Nat) (z : List Int) (A : List Nat) (pa : Option Addr) (p : List Int) (m pc : Nat) (w : World) (h : IX14 w b n z A) (hz : ∀ y ∈ z, 0 ≤ y ∧ y ≤ 255) (hp : Seg w pa p) (hm : Hid (p.length = m)) (hmb : m ≤ 17592186044416) (hpc : m ≤ pc) :
    Calls Try.prog 8 #[.pointer (some ⟨b, 0, none⟩), .slice pa m pc] w (StQ14 w z p m) := by
  have CM := pmd14 b n z A w h
  have hmk := run_make_i12 m (by omega)
  refine (callsIn_wide (n := 20)).1 ?_
  refine callsIn_of_wp_marks Try.func8 rfl trivial ?_ rfl
  simp only [Try.ntmps8, List.size_toArray, List.length_cons, List.length_nil, Nat.reduceAdd, Nat.reduceSub, Array.replicate_succ, Array.replicate_zero, List.push_toArray, List.append_toArray, List.nil_append, List.cons_append]
  refine wpIn_wide.2 ?_
  go_wp2_with (first
    | (go_at_call 15; refine CM.mono ?_; rintro e1 w1 ⟨rfl, B1⟩; clear CM)
    | (go_at_call 16; fail))
  obtain ⟨W4, hW4⟩ : ∃ W4, W4 = (w1.alloc (.cells (vi12 (List.replicate m 0)) 3)).alloc (.cells #[.slice (some ⟨w1.heap.size, 0, none⟩) m m] 28) := ⟨_, rfl⟩
  have cO : W4.heap[w1.heap.size]? = some (.cells (vi12 (List.replicate m 0)) 3 (0, 0)) := by rw [hW4]; exact heap_more15 _ (heap_new15 _ _ rfl)
  have cH : W4.heap[w1.heap.size + 1]? = some (.cells #[.slice (some ⟨w1.heap.size, 0, none⟩) m m] 28 (0, 0)) := by rw [hW4]; exact heap_new15 _ _ (by simp only [size_alloc15])
  have h4s : W4.heap.size = w1.heap.size + 1 + 1 := by rw [hW4]; simp only [size_alloc15]
  have B4 : Below w.heap.size w W4 := B1.trans (by rw [hW4]; exact (below_alloc15 (below_alloc15 (Below.refl _ _) _) _).mono B1.size)
  rw [← hW4]
  have hw1s := B1.size
  obtain ⟨gO, hgO⟩ : ∃ gO, gO = w1.heap.size := ⟨_, rfl⟩
  obtain ⟨gH, hgH⟩ : ∃ gH, gH = w1.heap.size + 1 := ⟨_, rfl⟩
  have HGG : Hid (w.heap.size ≤ gO ∧ gO < gH ∧ W4.heap.size = gH + 1) := ⟨by omega, by omega, by omega⟩
  rw [← hgH, ← hgO] at cH
  rw [← hgO] at cO
  rw [← hgH, ← hgO]
  clear hW4 B1 h4s hgO hgH hw1s
  refine (pnrs14 b pa m pc W4).mono ?_
  rintro e5 W5 ⟨rfl, hW5⟩
  have cX : W5.heap[W4.heap.size]? = some (.cells #[.pointer (some ⟨b, 0, none⟩)] 23 (0, 0)) := by rw [hW5]; exact heap_more15 _ (heap_new15 _ _ rfl)
  have cP : W5.heap[W4.heap.size + 1]? = some (.cells #[.slice pa m pc] 22 (0, 0)) := by rw [hW5]; exact heap_new15 _ _ (by simp only [size_alloc15])
  have h5s : W5.heap.size = W4.heap.size + 1 + 1 := by rw [hW5]; simp only [size_alloc15]
  have B5 : Below W4.heap.size W4 W5 := by rw [hW5]; exact below_alloc15 (below_alloc15 (Below.refl _ _) _) _
  have cO := (B5.block _ (Array.getElem?_eq_some_iff.1 cO).1).trans cO
  have cH := (B5.block _ (Array.getElem?_eq_some_iff.1 cH).1).trans cH
  have F5 : Below w.heap.size w W5 := B4.trans (B5.mono B4.size)
  clear hW5
  go_wp2_with fail
  refine (wpIn_wide (n := 20)).1 ?_
  have HAR : Hid (Ar12 z.length (S12 z) A) := h.arz
  have hgg := HGG.out
  have L0 : SI14 w W5 gO gH m z p 0 True (List.replicate m 0) := ⟨F5, cH, ⟨cO⟩, by simp, fun _ i hi => by omega⟩
  refine range14 (n := 20) (by omega) (gf := 27) (lb := #[.pointer (some ⟨W4.heap.size, 0, none⟩), .pointer (some ⟨W4.heap.size + 1, 0, none⟩)]) rfl (enters_of Try.func27 (by kernel_rfl) rfl)
    (nr_seq14 19 (by omega) W4.heap.size (W4.heap.size + 1) (fun k => k = gO) b n z A pa p m pc w h hz hp hm hmb hpc W5 F5 (by omega) (by omega) (fun k hk => by omega) cX cP)
    KeepC14.trans (fun W l o r hl hr => keepC_b F5.size W l o r hl hr) (fun _ => rfl)
    (fun pre W => ∃ row, SI14 w W gO gH m z p pre.length (pre.map Subtype.val <+: nrk14 z A p m) row ∧ W5.heap.size ≤ W.heap.size) ⟨?_, ?_⟩ ?_ ⟨_, ⟨L0.bl, L0.ch, L0.co, L0.ln, fun _ => L0.kp trivial⟩, Nat.le_refl _⟩ ?round ?done
  · rintro s W W' ⟨row, L, hs⟩ hb
    exact ⟨row, L.fr (hb.mono hs) (by omega) (by omega) (by omega), Nat.le_trans hs hb.size⟩
  · rintro s W r cc t i v hr hc ⟨row, L, hs⟩
    have hb5 : Below W5.heap.size W (W.setCell ⟨r, i, none⟩ v) := below_set14 (Below.refl _ _) hr
    exact ⟨row, L.fr hb5 (by omega) (by omega) (by omega), Nat.le_trans hs hb5.size⟩
  · rintro s W l o r hl hr ⟨row, L, hs⟩
    have hb5 : Below W5.heap.size W (W.putObj l o) := below_put14 (Below.refl _ _) hl
    exact ⟨row, L.fr hb5 (by omega) (by omega) (by omega), Nat.le_trans hs hb5.size⟩
  case round =>
    rintro l pre ⟨⟨at_, k, u, v⟩, hx1⟩ W ⟨row, L, hs5⟩ hlen
    dsimp only at hx1
    have HI0 : Hid (SI14 w W gO gH m z p pre.length (pre.map Subtype.val <+: nrk14 z A p m) row ∧ W5.heap.size ≤ W.heap.size) := ⟨L, hs5⟩
    clear L hs5
    gi_wp2
    obtain ⟨L, hs5⟩ := HI0.out
    have BA : Below W.heap.size W (W.alloc (.cells #[.int .i64 (k : Int), .int .i64 (u : Int), .int .i64 (v : Int)] 44)) := (Below.refl _ _).alloc (Nat.le_refl _) _
    refine ⟨keepsO14 BA, KeepC14.of_below L.bl.size BA, ⟨row, L.fr (BA.mono hs5) (by omega) (by omega) (by omega), Nat.le_trans hs5 BA.size⟩, ?_⟩
    rintro W2 hC ⟨row2, L2, hs2⟩
    have cN : W2.heap[W.heap.size]? = some (.cells #[.int .i64 (k : Int), .int .i64 (u : Int), .int .i64 (v : Int)] 44 (0, 0)) := hC.2 _ _ (heap_alloc_new _ _) rfl
    have hW2s : W.heap.size < W2.heap.size := (Array.getElem?_eq_some_iff.1 cN).1
    obtain ⟨gN, hgN⟩ : ∃ gN, gN = W.heap.size := ⟨_, rfl⟩
    rw [← hgN] at cN hW2s
    rw [← hgN]
    have y0 := three_cell0 cN
    have y1 := three_cell1 cN
    have y2 := three_cell2 cN
    have cH2 : W2.cell? ⟨gH, 0, none⟩ = some (.slice (some ⟨gO, 0, none⟩) m m) := by simp [World.cell?, L2.ch]
    have CMO := pmost14 k u v W2.drew
    have HL2 : Hid (SI14 w W2 gO gH m z p pre.length (pre.map Subtype.val <+: nrk14 z A p m) row2) := L2
    have H9 : Hid (∀ w9, Below W2.drew.heap.size W2.drew w9 → SI14 w w9 gO gH m z p pre.length (pre.map Subtype.val <+: nrk14 z A p m) row2 ∧ w9.cell? ⟨gH, 0, none⟩ = some (.slice (some ⟨gO, 0, none⟩) m m) ∧ w9.cell? ⟨gO, at_, none⟩ = some (.int .i64 (row2.getD at_ 0)) ∧ w9.frozen? ⟨gO, at_, none⟩ = false ∧ Below W2.heap.size W2 w9) := fun w9 hb => by
      have hb1 : Below W2.heap.size W2 w9 := (Below.refl _ _).drew.trans hb
      have L9 := L2.fr hb1 (by omega) (by omega) (by omega)
      exact ⟨L9, by simp [World.cell?, L9.ch], L9.co.cell (by rw [L9.ln]; exact hx1), L9.co.free _, hb1⟩
    have hai : (at_ : Int) < (m : Int) := by omega
    have hmx : Try.prog.follows .mixedOrders = true := by kernel_rfl
    have hd : 1 ≤ 20 - 1 - 1 := by omega
    have hfb : Fence.wide.fn 17 := trivial
    have HMX : Hid (∃ M : Nat, M = max u v) := ⟨_, rfl⟩
    clear L L2 hgN BA hC HI0
    gi_wp2
    gi_region_with_o (gi_at_call 17; refine (CallsIn.inRound l (callsIn_wide.2 CMO)).mono ?_; rintro e9 w9 ⟨rfl, B9⟩; obtain ⟨L9, j1, j2, j3, j4⟩ := H9.out w9 B9; have HL9 : Hid (SI14 w w9 gO gH m z p pre.length (pre.map Subtype.val <+: nrk14 z A p m) row2) := L9; clear L9)
    all_goals gi_wp2
    all_goals
      have L9 := HL9.out
      have hq2 := j4.size
      refine ⟨(keepsO14 j4).trans (KeepsOthers.setCell _ _ _), (KeepC14.of_below HL2.out.bl.size j4).trans (KeepC14.set (B := w.heap.size) (E := fun k => k = gO) (r := gO) (by omega) rfl _), ⟨row2.set at_ ((max u v : Nat) : Int), ?_⟩, ?_⟩
      · exact ⟨below_set14 L9.bl (by omega), (heap_setCell_other _ _ _ _ (by show gH ≠ gO; omega)).trans L9.ch, L9.co.set at_ _, by rw [List.length_set]; exact L9.ln, fun hpre => by
          have := si_step14 HAR.out (L := pre.map Subtype.val) L9.ln hpre (fun h => by rw [List.length_map]; exact L9.kp h)
          rw [List.length_map] at this
          exact this⟩
      · omega
  case done =>
    rintro D xs W hD hS ⟨row, L, hs⟩ hK
    have hxs : xs.length = m := by rw [← List.length_map (f := Subtype.val), hS]; simp [nrk14]
    have hrow : row = stt14 z p := by
      have k2 := L.kp (by rw [hS]; exact List.prefix_refl _)
      refine ext14 (by rw [L.ln, stt14_len, hm.out]) fun i hi => ?_
      rw [stt14_get z p (by rw [hm.out, ← L.ln]; exact hi)]
      exact k2 i (by rw [hxs, ← L.ln]; exact hi)
    have cH9 : W.cell? ⟨gH, 0, none⟩ = some (.slice (some ⟨gO, 0, none⟩) m m) := by simp [World.cell?, L.ch]
    have HF : Hid (Rz12 W gO (stt14 z p) ∧ w.heap.size ≤ gO ∧ Below w.heap.size w W) := ⟨by rw [← hrow]; exact L.co, by omega, L.bl⟩
    clear L hrow
    go_wp2_with fail
    refine ⟨by simp, .inl ⟨_, _, rfl, run_takeDeferred hK, ?_⟩⟩
    obtain ⟨f1, f2, f3⟩ := HF.out
    exact ⟨_, results_tmp2 rfl _ _ _, gO, rfl, ⟨(World.putObj_heap_other (by omega)).trans f1.hp⟩, f2, below_put14 f3 (by omega)⟩
end Go.Proofs.Ytkpfailmmcelcaa
