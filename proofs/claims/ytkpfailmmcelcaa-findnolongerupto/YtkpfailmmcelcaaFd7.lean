
import Derived.Test.YtkpfailmmcelcaaFd6
namespace Go.Proofs.Ytkpfailmmcelcaa
open Go.RowKit
set_option linter.unusedVariables false

/-! The landed find: most, nearOf, longest, least, Longest; the document's Longest. -/
set_option maxRecDepth 100000 in
set_option maxHeartbeats 1000000 in
theorem pmost14 (k l u : Nat) (w : World) : Calls Try.prog 17 #[.agg #[.int .i64 (k : Int), .int .i64 (l : Int), .int .i64 (u : Int)]] w fun e w' => e = .returned (.int .i64 ((max l u : Nat) : Int)) ∧ Below w.heap.size w w' := by
  have BB : Below w.heap.size w (w.alloc (.cells #[.int .i64 (k : Int), .int .i64 (l : Int), .int .i64 (u : Int)] 44)) := (Below.refl _ _).alloc (Nat.le_refl _) _
  by_cases h : l < u
  · have e : max l u = u := by omega
    have hi : (l : Int) < (u : Int) := by omega
    rw [e]
    clear e
    go_enter Try.func17, Try.ntmps17
    go_wp2_with fail
    go_ret
    exact ⟨rfl, BB⟩
  · have e : max l u = l := by omega
    have hi : ¬ (l : Int) < (u : Int) := by omega
    rw [e]
    clear e
    go_enter Try.func17, Try.ntmps17
    go_wp2_with fail
    go_ret
    exact ⟨rfl, BB⟩
theorem three_free14 {w : World} {b : Nat} {x y z : Value} {t : TypeId} (i : Nat) (h : w.heap[b]? = some (.cells #[x, y, z] t (0, 0))) : w.frozen? ⟨b, i, none⟩ = false := by simp [World.frozen?, h]
theorem below_set14 {B r i : Nat} {w0 w : World} {x : Value} (hb : Below B w0 w) (hr : B ≤ r) : Below B w0 (w.setCell ⟨r, i, none⟩ x) :=
  ⟨hb.os, hb.tape, hb.output, by simpa using hb.size, fun k hk => by rw [heap_setCell_other _ ⟨r, i, none⟩ k x (by simp; omega)]; exact hb.block k hk⟩
def NearQ14 (w : World) (k bl ab : Nat) (e : Ending) (w' : World) : Prop := e = .returned (.agg #[.int .i64 (k : Int), .int .i64 (bl : Int), .int .i64 (ab : Int)]) ∧ Below w.heap.size w w'
set_option maxRecDepth 100000 in
set_option maxHeartbeats 4000000 in
theorem pnear14 (b : Nat) (pa : Option Addr) (m pc : Nat) (k x0 lb la bl ab : Nat) (w : World) (hk : k ≤ 16777216) (hlb : lb ≤ 140737488351232) (hla : la ≤ 140737488351232) (C1 : Cm14 w b pa m pc ((k : Int) - 1) ((lb : Int) - 1) bl) (C2 : Cm14 w b pa m pc (k : Int) ((la : Int) - 1) ab) :
    Calls Try.prog 29 #[.pointer (some ⟨b, 0, none⟩), .int .i64 (k : Int), .slice pa m pc, .agg #[.int .i64 (x0 : Int), .int .i64 (lb : Int), .int .i64 (la : Int)]] w (NearQ14 w k bl ab) := by
  obtain ⟨w0, hw0⟩ : ∃ w0, w0 = (w.alloc (.cells #[.int .i64 (x0 : Int), .int .i64 (lb : Int), .int .i64 (la : Int)] 44)).alloc (.cells #[.int .i64 0, .int .i64 0, .int .i64 0] 44) := ⟨_, rfl⟩
  have BW : Below w.heap.size w w0 := by rw [hw0]; exact ((Below.refl _ _).alloc (Nat.le_refl _) _).alloc (by simp) _
  have g0 : w0.heap[w.heap.size]? = some (.cells #[.int .i64 (x0 : Int), .int .i64 (lb : Int), .int .i64 (la : Int)] 44 (0, 0)) := by
    rw [hw0, heap_alloc_old _ _ (by simp)]
    exact heap_alloc_new _ _
  have g1 : w0.heap[w.heap.size + 1]? = some (.cells #[.int .i64 0, .int .i64 0, .int .i64 0] 44 (0, 0)) := by
    have := heap_alloc_new (w.alloc (.cells #[.int .i64 (x0 : Int), .int .i64 (lb : Int), .int .i64 (la : Int)] 44)) (.cells #[.int .i64 0, .int .i64 0, .int .i64 0] 44)
    rw [show (w.alloc (.cells #[.int .i64 (x0 : Int), .int .i64 (lb : Int), .int .i64 (la : Int)] 44)).heap.size = w.heap.size + 1 by simp, ← hw0] at this
    exact this
  have HW0 : Hid (w0 = (w.alloc (.cells #[.int .i64 (x0 : Int), .int .i64 (lb : Int), .int .i64 (la : Int)] 44)).alloc (.cells #[.int .i64 0, .int .i64 0, .int .i64 0] 44)) := hw0
  have hq0 : w.heap.size < w0.heap.size := (Array.getElem?_eq_some_iff.1 g0).1
  have hq1 : w.heap.size + 1 < w0.heap.size := (Array.getElem?_eq_some_iff.1 g1).1
  have HCL : Hid (∀ W, Below w0.heap.size w0 W → W.cell? ⟨w.heap.size, 1, none⟩ = some (.int .i64 (lb : Int)) ∧ W.cell? ⟨w.heap.size, 2, none⟩ = some (.int .i64 (la : Int))) := fun W hb => by
    have h0 := (hb.block _ hq0).trans g0
    exact ⟨three_cell1 h0, three_cell2 h0⟩
  have HG1 : Hid (∀ W, Below w0.heap.size w0 W → W.heap[w.heap.size + 1]? = some (.cells #[.int .i64 0, .int .i64 0, .int .i64 0] 44 (0, 0))) := fun W hb => (hb.block _ hq1).trans g1
  have HCM : Hid (∀ rho kap v, Cm14 w b pa m pc rho kap v → ∀ W, Below w0.heap.size w0 W → Calls Try.prog 47 #[.pointer (some ⟨b, 0, none⟩), .int .i64 rho, .slice pa m pc, .int .i64 kap] W fun e w' => e = .returned (.int .i64 (v : Int)) ∧ Below w0.heap.size w0 w') := fun rho kap v C W hb => (C.out W (BW.trans (hb.mono BW.size))).mono fun e w' ⟨he, hB⟩ => ⟨he, hb.trans (hB.mono hb.size)⟩
  have HFN : Hid (∀ W, Below w0.heap.size w0 W → Below w.heap.size w W) := fun W hb => BW.trans (hb.mono BW.size)
  have i1 : IntKind.i64.wrap ((k : Int) - 1) = (k : Int) - 1 := IntWalk.i64_in _ (by omega)
  have i2 : IntKind.i64.wrap ((lb : Int) - 1) = (lb : Int) - 1 := IntWalk.i64_in _ (by omega)
  have i3 : IntKind.i64.wrap ((la : Int) - 1) = (la : Int) - 1 := IntWalk.i64_in _ (by omega)
  clear g0 g1 hq0 hq1 BW hw0
  go_enter Try.func29, Try.ntmps29
  go_wp2_with fail
  rw [← HW0.out]
  have BD : Below w0.heap.size w0 w0.drew := (Below.refl _ _).drew
  obtain ⟨q, hq⟩ : ∃ q, q = w.heap.size := ⟨_, rfl⟩
  rw [← hq] at HCL HG1
  have HQ : Hid (q = w.heap.size) := hq
  rw [← hq]
  clear hq
  go_region_held3 (fun W => W.cell? ⟨q, 1, none⟩ = some (.int .i64 (lb : Int)) ∧ W.cell? ⟨q, 2, none⟩ = some (.int .i64 (la : Int))) (first | exact HCL.out _ (by assumption) | go_keep) (first
    | (go_at_call 47; refine (HCM.out _ _ _ (by assumption) _ (by assumption)).mono ?_; rintro e1 w1 ⟨rfl, B1⟩; have G1 := HG1.out _ B1; have d0 := three_cell0 G1; have d1 := three_cell1 G1; have d2 := three_cell2 G1; have f0 := three_free14 0 G1; have f1 := three_free14 1 G1; have f2 := three_free14 2 G1))
  all_goals
    go_wp2_with fail
    have G4 := three_set2 (three_set1 (three_set0 G1 (.int .i64 (k : Int))) (.int .i64 (bl : Int))) (.int .i64 (ab : Int))
    have BF := HFN.out w1 B1
    have hqq : w.heap.size ≤ q + 1 := by have := HQ.out; omega
    refine bodyPost_ret (v := .agg #[.int .i64 (k : Int), .int .i64 (bl : Int), .int .i64 (ab : Int)]) (results_cell_row (fn := Try.f29) (p := 8) (ty := 44) rfl _ _ (q + 1) _ _ _ _ rfl G4 Try.underlying44 rfl (by kernel_rfl)) rfl ?_
    exact ⟨rfl, below_set14 (below_set14 (below_set14 BF hqq) hqq) hqq⟩
/-- What a text has in common with its neighbours, if so many suffixes are less. -/
def bl14 (z : List Int) (A : List Nat) (p : List Int) (k : Nat) : Nat := if k = 0 then 0 else lc13 (z.drop (A.getD (k - 1) 0)) p
def ab14 (z : List Int) (A : List Nat) (p : List Int) (k : Nat) : Nat := if k < z.length then lc13 (z.drop (A.getD k 0)) p else 0
theorem cm_lo14 {b n : Nat} {z : List Int} {A : List Nat} {k lb : Nat} {pa : Option Addr} {p : List Int} {m pc : Nat} {w : World} (h : IX14 w b n z A) (hp : Seg w pa p) (hm : Hid (p.length = m)) (hmb : m ≤ 140737488351232) (hpc : m ≤ pc) (hk : k ≤ n) (hl : k ≠ 0 → lb - 1 ≤ bl14 z A p k) :
    Cm14 w b pa m pc ((k : Int) - 1) ((lb : Int) - 1) (bl14 z A p k) := by
  have hn := h.n24
  unfold bl14 at hl ⊢
  by_cases c : k = 0
  · subst c
    rw [if_pos rfl]
    exact pcomn14 _ pa m pc _ h (by omega) (by omega)
  · rw [if_neg c] at hl ⊢
    have := pcom14 (k - 1) ((lb : Int) - 1) (lb - 1) h hp hm hmb hpc (by omega) (by omega) (by omega) (hl c)
    rw [show ((k - 1 : Nat) : Int) = (k : Int) - 1 by omega] at this
    exact this
theorem cm_hi14 {b n : Nat} {z : List Int} {A : List Nat} {k la : Nat} {pa : Option Addr} {p : List Int} {m pc : Nat} {w : World} (h : IX14 w b n z A) (hp : Seg w pa p) (hm : Hid (p.length = m)) (hmb : m ≤ 140737488351232) (hpc : m ≤ pc) (hk : k ≤ n) (hl : k < n → la - 1 ≤ ab14 z A p k) :
    Cm14 w b pa m pc (k : Int) ((la : Int) - 1) (ab14 z A p k) := by
  have hn := h.n24
  unfold ab14 at hl ⊢
  rw [h.len] at hl ⊢
  by_cases c : k < n
  · rw [if_pos c] at hl ⊢
    exact pcom14 k ((la : Int) - 1) (la - 1) h hp hm hmb hpc c (by omega) (by omega) (hl c)
  · rw [if_neg c]
    exact pcomn14 _ pa m pc _ h (by omega) (by omega)
theorem bl14_le (z : List Int) (A : List Nat) (p : List Int) (k : Nat) : bl14 z A p k ≤ p.length := by
  unfold bl14
  split
  · omega
  · exact lc13_le' _ _
theorem ab14_le (z : List Int) (A : List Nat) (p : List Int) (k : Nat) : ab14 z A p k ≤ p.length := by
  unfold ab14
  split
  · exact lc13_le' _ _
  · omega
theorem mx_max14 {z : List Int} {A : List Nat} (hA : Ar12 z.length (S12 z) A) (p : List Int) : max (bl14 z A p (lo14 z p)) (ab14 z A p (lo14 z p)) = mx14 z p := (mx14_near hA p).symm
def LgQ14 (w : World) (z p : List Int) (e : Ending) (w' : World) : Prop := e = .returned (.tuple #[.int .i64 ((lo14 z (p.take (mx14 z p)) : Nat) : Int), .int .i64 ((hi14 z (p.take (mx14 z p)) : Nat) : Int), .int .i64 ((mx14 z p : Nat) : Int)]) ∧ Below w.heap.size w w'
set_option maxRecDepth 100000 in
set_option maxHeartbeats 4000000 in
theorem plgst14 (b n : Nat) (z : List Int) (A : List Nat) (pa : Option Addr) (p : List Int) (m pc : Nat) (w : World) (h : IX14 w b n z A) (hp : Seg w pa p) (hm : Hid (p.length = m)) (hmb : m ≤ 140737488351232) (hpc : m ≤ pc) :
    Calls Try.prog 19 #[.pointer (some ⟨b, 0, none⟩), .slice pa m pc] w (LgQ14 w z p) := by
  have hn24 := h.n24
  obtain ⟨a1, a2, a3⟩ := lo_all14 h.len h.ar p
  have HL : Hid (∀ W, Below w.heap.size w W → Calls Try.prog 24 #[.pointer (some ⟨b, 0, none⟩)] W fun e w' => e = .returned (.int .i64 (n : Int)) ∧ w' = W) := fun W hb => (h.old hb).len_
  have HB : Hid (∀ W, Below w.heap.size w W → Calls Try.prog 23 #[.pointer (some ⟨b, 0, none⟩), .int .i64 0, .int .i64 (n : Int), .slice pa m pc] W fun e w' => e = .returned (.int .i64 ((lo14 z p : Nat) : Int)) ∧ Below w.heap.size w w') := fun W hb => (pbegin14 b n z A 0 n (lo14 z p) pa p m pc W (h.old hb) (hp.old hb) hm (by omega) a1 a2 (Nat.le_refl _) a3).mono fun e w' ⟨he, hB⟩ => ⟨he, hb.trans (hB.mono hb.size)⟩
  have HN : Hid (∀ W, Below w.heap.size w W → Calls Try.prog 29 #[.pointer (some ⟨b, 0, none⟩), .int .i64 ((lo14 z p : Nat) : Int), .slice pa m pc, .agg #[.int .i64 0, .int .i64 0, .int .i64 0]] W fun e w' => e = .returned (.agg #[.int .i64 ((lo14 z p : Nat) : Int), .int .i64 ((bl14 z A p (lo14 z p) : Nat) : Int), .int .i64 ((ab14 z A p (lo14 z p) : Nat) : Int)]) ∧ Below w.heap.size w w') := fun W hb =>
    (pnear14 b pa m pc (lo14 z p) 0 0 0 _ _ W (by omega) (by omega) (by omega) (cm_lo14 (h.old hb) (hp.old hb) hm hmb hpc a2 (fun _ => by omega)) (cm_hi14 (h.old hb) (hp.old hb) hm hmb hpc a2 (fun _ => by omega))).mono fun e w' ⟨he, hB⟩ => ⟨he, hb.trans (hB.mono hb.size)⟩
  have HMX : Hid (max (bl14 z A p (lo14 z p)) (ab14 z A p (lo14 z p)) = mx14 z p) := mx_max14 h.arz p
  have hMm : mx14 z p ≤ m := by rw [← hm.out]; exact mx14_le z p
  have hq1 := lo14_take z p (mx14 z p)
  have hq2 := hi14_take z p (mx14 z p)
  have hqh : hi14 z (p.take (mx14 z p)) ≤ n := by rw [← h.len]; exact hi14_le _ _
  have HQL : Hid ((p.take (mx14 z p)).length = mx14 z p) := by show _ = _; rw [List.length_take, hm.out]; omega
  have HB2 : Hid (∀ W, Below w.heap.size w W → Calls Try.prog 23 #[.pointer (some ⟨b, 0, none⟩), .int .i64 0, .int .i64 ((lo14 z p : Nat) : Int), .slice pa (mx14 z p) pc] W fun e w' => e = .returned (.int .i64 ((lo14 z (p.take (mx14 z p)) : Nat) : Int)) ∧ Below W.heap.size W w') := fun W hb => pbegin14 b n z A 0 (lo14 z p) (lo14 z (p.take (mx14 z p))) pa (p.take (mx14 z p)) (mx14 z p) pc W (h.old hb) ((hp.old hb).take _) HQL (by omega) (Nat.zero_le _) hq1 a2 (fun r _ hr => (lo_all14 h.len h.ar _).2.2 r (Nat.zero_le _) (by omega))
  have HE2 : Hid (∀ W, Below w.heap.size w W → Calls Try.prog 25 #[.pointer (some ⟨b, 0, none⟩), .int .i64 ((lo14 z p : Nat) : Int), .int .i64 (n : Int), .slice pa (mx14 z p) pc] W fun e w' => e = .returned (.int .i64 ((hi14 z (p.take (mx14 z p)) : Nat) : Int)) ∧ Below W.heap.size W w') := fun W hb => pend14 b n z A (lo14 z p) n (hi14 z (p.take (mx14 z p))) pa (p.take (mx14 z p)) (mx14 z p) pc W (h.old hb) ((hp.old hb).take _) HQL (by omega) hq2 hqh (Nat.le_refl _) (hi_all14 h.len h.ar _ (lo14 z p) hq2).2
  unfold LgQ14
  clear h hp a3 HQL hq1 hq2
  generalize hi14 z (p.take (mx14 z p)) = hq at *
  generalize lo14 z (p.take (mx14 z p)) = lq at *
  generalize bl14 z A p (lo14 z p) = bl at *
  generalize ab14 z A p (lo14 z p) = ab at *
  generalize mx14 z p = M at *
  generalize lo14 z p = k at *
  have hMp : (M : Int) ≤ (pc : Int) := by omega
  rcases pa with _ | ad
  all_goals
    go_enter Try.func19, Try.ntmps19
    go_wp2_with (first
      | (go_at_call 24; refine (HL.out w (Below.refl _ _)).mono ?_; rintro e1 w1 ⟨rfl, hw1⟩; subst hw1)
      | (go_at_call 23; refine (HB.out w1 (Below.refl _ _)).mono ?_; rintro e2 w2 ⟨rfl, B2⟩)
      | (go_at_call 29; refine (HN.out w2 B2).mono ?_; rintro e3 w3 ⟨rfl, B3⟩)
      | (go_at_call 17; fail))
    obtain ⟨q, hqe⟩ : ∃ q, q = w3.heap.size := ⟨_, rfl⟩
    have HQE : Hid (q = w3.heap.size) := hqe
    rw [← hqe]
    obtain ⟨w4, hw4⟩ : ∃ w4, w4 = w3.alloc (.cells #[.int .i64 (k : Int), .int .i64 (bl : Int), .int .i64 (ab : Int)] 44) := ⟨_, rfl⟩
    rw [← hw4]
    have g4 : w4.heap[q]? = some (.cells #[.int .i64 (k : Int), .int .i64 (bl : Int), .int .i64 (ab : Int)] 44 (0, 0)) := by rw [hw4, hqe]; exact heap_alloc_new _ _
    have B4 : Below w1.heap.size w1 w4 := by rw [hw4]; exact B3.alloc B3.size _
    clear hqe hw4
    refine (pmost14 k bl ab w4).mono ?_
    rintro e5 w5 ⟨rfl, B45⟩
    have g5 := (B45.block _ (Array.getElem?_eq_some_iff.1 g4).1).trans g4
    have B5 : Below w1.heap.size w1 w5 := B4.trans (B45.mono B4.size)
    rw [HMX.out]
    have HC5 : Hid (∀ W, Below w5.heap.size w5 W → W.cell? ⟨q, 0, none⟩ = some (.int .i64 (k : Int))) := fun W hb => three_cell0 ((hb.block _ (Array.getElem?_eq_some_iff.1 g5).1).trans g5)
    have HB6 : Hid (∀ W, Below w5.heap.size w5 W → Below w1.heap.size w1 W) := fun W hb => B5.trans (hb.mono B5.size)
    clear g4 g5 B45 HB HN
    go_wp2_with fail
    have BD : Below w5.heap.size w5 w5.drew := (Below.refl _ _).drew
    go_region_held3 (fun W => W.cell? ⟨q, 0, none⟩ = some (.int .i64 (k : Int))) (first | exact HC5.out _ (by assumption) | go_keep) (first
      | (go_at_call 23; refine (HB2.out _ (HB6.out _ (by assumption))).mono ?_; rintro e6 w6 ⟨rfl, B6⟩; have B7 : Below w5.heap.size w5 w6 := Below.trans (by assumption) (B6.mono (Below.size (by assumption))))
      | (go_at_call 24; refine (HL.out _ (HB6.out _ (by assumption))).mono ?_; rintro e6 w6 ⟨rfl, hw6⟩; subst hw6)
      | (go_at_call 25; refine (HE2.out _ (HB6.out _ (by assumption))).mono ?_; rintro e6 w6 ⟨rfl, B6⟩; have B7 : Below w5.heap.size w5 w6 := Below.trans (by assumption) (B6.mono (Below.size (by assumption)))))
    all_goals
      go_wp2_with fail
      go_ret3
      exact ⟨rfl, HB6.out _ (by assumption)⟩
end Go.Proofs.Ytkpfailmmcelcaa
