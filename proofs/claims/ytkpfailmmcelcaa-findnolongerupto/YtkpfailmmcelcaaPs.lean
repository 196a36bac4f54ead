import Derived.Test.YtkpfailmmcelcaaPr
import Derived.Test.YtkpfailmmcelcaaPn
import Derived.Test.YtkpfailmmcelcaaPl
import Derived.Lib.SlBytesConst
namespace Go.Proofs.Ytkpfailmmcelcaa
open Go.RowKit
set_option linter.unusedVariables false

/-! The landed find: most, nearOf, longest, least, Longest; the document's Longest. -/
set_option maxRecDepth 100000 in
set_option maxHeartbeats 1000000 in
theorem pmost14 (k l u : Nat) (w : World) : Calls Try.prog 17 #[.agg #[.int .i64 (k : Int), .int .i64 (l : Int), .int .i64 (u : Int)]] w fun e w' => e = .returned (.int .i64 ((max l u : Nat) : Int)) ∧ Below w.heap.size w w' := by
  have BB : Below w.heap.size w (w.alloc (.cells #[.int .i64 (k : Int), .int .i64 (l : Int), .int .i64 (u : Int)] 44)) := (Below.refl _ _).alloc (Nat.le_refl _) _
  by_cases h : l < u
  · have e : max l u = u := by omega
    have hi : (l : Int) < (u : Int) := by omega
    rw [e]
    clear e
    go_enter Try.func17, Try.ntmps17
    go_wp2_with fail
    go_ret
    exact ⟨rfl, BB⟩
  · have e : max l u = l := by omega
    have hi : ¬ (l : Int) < (u : Int) := by omega
    rw [e]
    clear e
    go_enter Try.func17, Try.ntmps17
    go_wp2_with fail
    go_ret
    exact ⟨rfl, BB⟩
theorem three_free14 {w : World} {b : Nat} {x y z : Value} {t : TypeId} (i : Nat) (h : w.heap[b]? = some (.cells #[x, y, z] t (0, 0))) : w.frozen? ⟨b, i, none⟩ = false := by simp [World.frozen?, h]
theorem below_set14 {B r i : Nat} {w0 w : World} {x : Value} (hb : Below B w0 w) (hr : B ≤ r) : Below B w0 (w.setCell ⟨r, i, none⟩ x) :=
  ⟨hb.os, hb.tape, hb.output, by simpa using hb.size, fun k hk => by rw [heap_setCell_other _ ⟨r, i, none⟩ k x (by simp; omega)]; exact hb.block k hk⟩
def NearQ14 (w : World) (k bl ab : Nat) (e : Ending) (w' : World) : Prop := e = .returned (.agg #[.int .i64 (k : Int), .int .i64 (bl : Int), .int .i64 (ab : Int)]) ∧ Below w.heap.size w w'
set_option maxRecDepth 100000 in
set_option maxHeartbeats 4000000 in
theorem pnear14 (b : Nat) (pa : Option Addr) (m pc : Nat) (k x0 lb la bl ab : Nat) (w : World) (hk : k ≤ 16777216) (hlb : lb ≤ 140737488351232) (hla : la ≤ 140737488351232) (C1 : Cm14 w b pa m pc ((k : Int) - 1) ((lb : Int) - 1) bl) (C2 : Cm14 w b pa m pc (k : Int) ((la : Int) - 1) ab) :
    Calls Try.prog 29 #[.pointer (some ⟨b, 0, none⟩), .int .i64 (k : Int), .slice pa m pc, .agg #[.int .i64 (x0 : Int), .int .i64 (lb : Int), .int .i64 (la : Int)]] w (NearQ14 w k bl ab) := by
  obtain ⟨w0, hw0⟩ : ∃ w0, w0 = (w.alloc (.cells #[.int .i64 (x0 : Int), .int .i64 (lb : Int), .int .i64 (la : Int)] 44)).alloc (.cells #[.int .i64 0, .int .i64 0, .int .i64 0] 44) := ⟨_, rfl⟩
  have BW : Below w.heap.size w w0 := by rw [hw0]; exact ((Below.refl _ _).alloc (Nat.le_refl _) _).alloc (by simp) _
  have g0 : w0.heap[w.heap.size]? = some (.cells #[.int .i64 (x0 : Int), .int .i64 (lb : Int), .int .i64 (la : Int)] 44 (0, 0)) := by
    rw [hw0, heap_alloc_old _ _ (by simp)]
    exact heap_alloc_new _ _
  have g1 : w0.heap[w.heap.size + 1]? = some (.cells #[.int .i64 0, .int .i64 0, .int .i64 0] 44 (0, 0)) := by
    have := heap_alloc_new (w.alloc (.cells #[.int .i64 (x0 : Int), .int .i64 (lb : Int), .int .i64 (la : Int)] 44)) (.cells #[.int .i64 0, .int .i64 0, .int .i64 0] 44)
    rw [show (w.alloc (.cells #[.int .i64 (x0 : Int), .int .i64 (lb : Int), .int .i64 (la : Int)] 44)).heap.size = w.heap.size + 1 by simp, ← hw0] at this
    exact this
  have HW0 : Hid (w0 = (w.alloc (.cells #[.int .i64 (x0 : Int), .int .i64 (lb : Int), .int .i64 (la : Int)] 44)).alloc (.cells #[.int .i64 0, .int .i64 0, .int .i64 0] 44)) := hw0
  have hq0 : w.heap.size < w0.heap.size := (Array.getElem?_eq_some_iff.1 g0).1
  have hq1 : w.heap.size + 1 < w0.heap.size := (Array.getElem?_eq_some_iff.1 g1).1
  have HCL : Hid (∀ W, Below w0.heap.size w0 W → W.cell? ⟨w.heap.size, 1, none⟩ = some (.int .i64 (lb : Int)) ∧ W.cell? ⟨w.heap.size, 2, none⟩ = some (.int .i64 (la : Int))) := fun W hb => by
    have h0 := (hb.block _ hq0).trans g0
    exact ⟨three_cell1 h0, three_cell2 h0⟩
  have HG1 : Hid (∀ W, Below w0.heap.size w0 W → W.heap[w.heap.size + 1]? = some (.cells #[.int .i64 0, .int .i64 0, .int .i64 0] 44 (0, 0))) := fun W hb => (hb.block _ hq1).trans g1
  have HCM : Hid (∀ rho kap v, Cm14 w b pa m pc rho kap v → ∀ W, Below w0.heap.size w0 W → Calls Try.prog 47 #[.pointer (some ⟨b, 0, none⟩), .int .i64 rho, .slice pa m pc, .int .i64 kap] W fun e w' => e = .returned (.int .i64 (v : Int)) ∧ Below w0.heap.size w0 w') := fun rho kap v C W hb => (C.out W (BW.trans (hb.mono BW.size))).mono fun e w' ⟨he, hB⟩ => ⟨he, hb.trans (hB.mono hb.size)⟩
  have HFN : Hid (∀ W, Below w0.heap.size w0 W → Below w.heap.size w W) := fun W hb => BW.trans (hb.mono BW.size)
  have i1 : IntKind.i64.wrap ((k : Int) - 1) = (k : Int) - 1 := IntWalk.i64_in _ (by omega)
  have i2 : IntKind.i64.wrap ((lb : Int) - 1) = (lb : Int) - 1 := IntWalk.i64_in _ (by omega)
  have i3 : IntKind.i64.wrap ((la : Int) - 1) = (la : Int) - 1 := IntWalk.i64_in _ (by omega)
  clear g0 g1 hq0 hq1 BW hw0
  go_enter Try.func29, Try.ntmps29
  go_wp2_with fail
  rw [← HW0.out]
  have BD : Below w0.heap.size w0 w0.drew := (Below.refl _ _).drew
  obtain ⟨q, hq⟩ : ∃ q, q = w.heap.size := ⟨_, rfl⟩
  rw [← hq] at HCL HG1
  have HQ : Hid (q = w.heap.size) := hq
  rw [← hq]
  clear hq
  go_region_held3 (fun W => W.cell? ⟨q, 1, none⟩ = some (.int .i64 (lb : Int)) ∧ W.cell? ⟨q, 2, none⟩ = some (.int .i64 (la : Int))) (first | exact HCL.out _ (by assumption) | go_keep) (first
    | (go_at_call 47; refine (HCM.out _ _ _ (by assumption) _ (by assumption)).mono ?_; rintro e1 w1 ⟨rfl, B1⟩; have G1 := HG1.out _ B1; have d0 := three_cell0 G1; have d1 := three_cell1 G1; have d2 := three_cell2 G1; have f0 := three_free14 0 G1; have f1 := three_free14 1 G1; have f2 := three_free14 2 G1))
  all_goals
    go_wp2_with fail
    have G4 := three_set2 (three_set1 (three_set0 G1 (.int .i64 (k : Int))) (.int .i64 (bl : Int))) (.int .i64 (ab : Int))
    have BF := HFN.out w1 B1
    have hqq : w.heap.size ≤ q + 1 := by have := HQ.out; omega
    refine bodyPost_ret (v := .agg #[.int .i64 (k : Int), .int .i64 (bl : Int), .int .i64 (ab : Int)]) (results_cell_row (fn := Try.f29) (p := 8) (ty := 44) rfl _ _ (q + 1) _ _ _ _ rfl G4 Try.underlying44 rfl (by kernel_rfl)) rfl ?_
    exact ⟨rfl, below_set14 (below_set14 (below_set14 BF hqq) hqq) hqq⟩
/-- What a text has in common with its neighbours, if so many suffixes are less. -/
def bl14 (z : List Int) (A : List Nat) (p : List Int) (k : Nat) : Nat := if k = 0 then 0 else lc13 (z.drop (A.getD (k - 1) 0)) p
def ab14 (z : List Int) (A : List Nat) (p : List Int) (k : Nat) : Nat := if k < z.length then lc13 (z.drop (A.getD k 0)) p else 0
theorem cm_lo14 {b n : Nat} {z : List Int} {A : List Nat} {k lb : Nat} {pa : Option Addr} {p : List Int} {m pc : Nat} {w : World} (h : IX14 w b n z A) (hp : Seg w pa p) (hm : Hid (p.length = m)) (hmb : m ≤ 140737488351232) (hpc : m ≤ pc) (hk : k ≤ n) (hl : k ≠ 0 → lb - 1 ≤ bl14 z A p k) :
    Cm14 w b pa m pc ((k : Int) - 1) ((lb : Int) - 1) (bl14 z A p k) := by
  have hn := h.n24
  unfold bl14 at hl ⊢
  by_cases c : k = 0
  · subst c
    rw [if_pos rfl]
    exact pcomn14 _ pa m pc _ h (by omega) (by omega)
  · rw [if_neg c] at hl ⊢
    have := pcom14 (k - 1) ((lb : Int) - 1) (lb - 1) h hp hm hmb hpc (by omega) (by omega) (by omega) (hl c)
    rw [show ((k - 1 : Nat) : Int) = (k : Int) - 1 by omega] at this
    exact this
theorem cm_hi14 {b n : Nat} {z : List Int} {A : List Nat} {k la : Nat} {pa : Option Addr} {p : List Int} {m pc : Nat} {w : World} (h : IX14 w b n z A) (hp : Seg w pa p) (hm : Hid (p.length = m)) (hmb : m ≤ 140737488351232) (hpc : m ≤ pc) (hk : k ≤ n) (hl : k < n → la - 1 ≤ ab14 z A p k) :
    Cm14 w b pa m pc (k : Int) ((la : Int) - 1) (ab14 z A p k) := by
  have hn := h.n24
  unfold ab14 at hl ⊢
  rw [h.len] at hl ⊢
  by_cases c : k < n
  · rw [if_pos c] at hl ⊢
    exact pcom14 k ((la : Int) - 1) (la - 1) h hp hm hmb hpc c (by omega) (by omega) (hl c)
  · rw [if_neg c]
    exact pcomn14 _ pa m pc _ h (by omega) (by omega)
theorem bl14_le (z : List Int) (A : List Nat) (p : List Int) (k : Nat) : bl14 z A p k ≤ p.length := by
  unfold bl14
  split
  · omega
  · exact lc13_le' _ _
theorem ab14_le (z : List Int) (A : List Nat) (p : List Int) (k : Nat) : ab14 z A p k ≤ p.length := by
  unfold ab14
  split
  · exact lc13_le' _ _
  · omega
theorem mx_max14 {z : List Int} {A : List Nat} (hA : Ar12 z.length (S12 z) A) (p : List Int) : max (bl14 z A p (lo14 z p)) (ab14 z A p (lo14 z p)) = mx14 z p := (mx14_near hA p).symm
def LgQ14 (w : World) (z p : List Int) (e : Ending) (w' : World) : Prop := e = .returned (.tuple #[.int .i64 ((lo14 z (p.take (mx14 z p)) : Nat) : Int), .int .i64 ((hi14 z (p.take (mx14 z p)) : Nat) : Int), .int .i64 ((mx14 z p : Nat) : Int)]) ∧ Below w.heap.size w w'
set_option maxRecDepth 100000 in
set_option maxHeartbeats 4000000 in
theorem plgst14 (b n : Nat) (z : List Int) (A : List Nat) (pa : Option Addr) (p : List Int) (m pc : Nat) (w : World) (h : IX14 w b n z A) (hp : Seg w pa p) (hm : Hid (p.length = m)) (hmb : m ≤ 140737488351232) (hpc : m ≤ pc) :
    Calls Try.prog 19 #[.pointer (some ⟨b, 0, none⟩), .slice pa m pc] w (LgQ14 w z p) := by
  have hn24 := h.n24
  obtain ⟨a1, a2, a3⟩ := lo_all14 h.len h.ar p
  have HL : Hid (∀ W, Below w.heap.size w W → Calls Try.prog 24 #[.pointer (some ⟨b, 0, none⟩)] W fun e w' => e = .returned (.int .i64 (n : Int)) ∧ w' = W) := fun W hb => (h.old hb).len_
  have HB : Hid (∀ W, Below w.heap.size w W → Calls Try.prog 23 #[.pointer (some ⟨b, 0, none⟩), .int .i64 0, .int .i64 (n : Int), .slice pa m pc] W fun e w' => e = .returned (.int .i64 ((lo14 z p : Nat) : Int)) ∧ Below w.heap.size w w') := fun W hb => (pbegin14 b n z A 0 n (lo14 z p) pa p m pc W (h.old hb) (hp.old hb) hm (by omega) a1 a2 (Nat.le_refl _) a3).mono fun e w' ⟨he, hB⟩ => ⟨he, hb.trans (hB.mono hb.size)⟩
  have HN : Hid (∀ W, Below w.heap.size w W → Calls Try.prog 29 #[.pointer (some ⟨b, 0, none⟩), .int .i64 ((lo14 z p : Nat) : Int), .slice pa m pc, .agg #[.int .i64 0, .int .i64 0, .int .i64 0]] W fun e w' => e = .returned (.agg #[.int .i64 ((lo14 z p : Nat) : Int), .int .i64 ((bl14 z A p (lo14 z p) : Nat) : Int), .int .i64 ((ab14 z A p (lo14 z p) : Nat) : Int)]) ∧ Below w.heap.size w w') := fun W hb =>
    (pnear14 b pa m pc (lo14 z p) 0 0 0 _ _ W (by omega) (by omega) (by omega) (cm_lo14 (h.old hb) (hp.old hb) hm hmb hpc a2 (fun _ => by omega)) (cm_hi14 (h.old hb) (hp.old hb) hm hmb hpc a2 (fun _ => by omega))).mono fun e w' ⟨he, hB⟩ => ⟨he, hb.trans (hB.mono hb.size)⟩
  have HMX : Hid (max (bl14 z A p (lo14 z p)) (ab14 z A p (lo14 z p)) = mx14 z p) := mx_max14 h.arz p
  have hMm : mx14 z p ≤ m := by rw [← hm.out]; exact mx14_le z p
  have hq1 := lo14_take z p (mx14 z p)
  have hq2 := hi14_take z p (mx14 z p)
  have hqh : hi14 z (p.take (mx14 z p)) ≤ n := by rw [← h.len]; exact hi14_le _ _
  have HQL : Hid ((p.take (mx14 z p)).length = mx14 z p) := by show _ = _; rw [List.length_take, hm.out]; omega
  have HB2 : Hid (∀ W, Below w.heap.size w W → Calls Try.prog 23 #[.pointer (some ⟨b, 0, none⟩), .int .i64 0, .int .i64 ((lo14 z p : Nat) : Int), .slice pa (mx14 z p) pc] W fun e w' => e = .returned (.int .i64 ((lo14 z (p.take (mx14 z p)) : Nat) : Int)) ∧ Below W.heap.size W w') := fun W hb => pbegin14 b n z A 0 (lo14 z p) (lo14 z (p.take (mx14 z p))) pa (p.take (mx14 z p)) (mx14 z p) pc W (h.old hb) ((hp.old hb).take _) HQL (by omega) (Nat.zero_le _) hq1 a2 (fun r _ hr => (lo_all14 h.len h.ar _).2.2 r (Nat.zero_le _) (by omega))
  have HE2 : Hid (∀ W, Below w.heap.size w W → Calls Try.prog 25 #[.pointer (some ⟨b, 0, none⟩), .int .i64 ((lo14 z p : Nat) : Int), .int .i64 (n : Int), .slice pa (mx14 z p) pc] W fun e w' => e = .returned (.int .i64 ((hi14 z (p.take (mx14 z p)) : Nat) : Int)) ∧ Below W.heap.size W w') := fun W hb => pend14 b n z A (lo14 z p) n (hi14 z (p.take (mx14 z p))) pa (p.take (mx14 z p)) (mx14 z p) pc W (h.old hb) ((hp.old hb).take _) HQL (by omega) hq2 hqh (Nat.le_refl _) (hi_all14 h.len h.ar _ (lo14 z p) hq2).2
  unfold LgQ14
  clear h hp a3 HQL hq1 hq2
  generalize hi14 z (p.take (mx14 z p)) = hq at *
  generalize lo14 z (p.take (mx14 z p)) = lq at *
  generalize bl14 z A p (lo14 z p) = bl at *
  generalize ab14 z A p (lo14 z p) = ab at *
  generalize mx14 z p = M at *
  generalize lo14 z p = k at *
  have hMp : (M : Int) ≤ (pc : Int) := by omega
  rcases pa with _ | ad
  all_goals
    go_enter Try.func19, Try.ntmps19
    go_wp2_with (first
      | (go_at_call 24; refine (HL.out w (Below.refl _ _)).mono ?_; rintro e1 w1 ⟨rfl, hw1⟩; subst hw1)
      | (go_at_call 23; refine (HB.out w1 (Below.refl _ _)).mono ?_; rintro e2 w2 ⟨rfl, B2⟩)
      | (go_at_call 29; refine (HN.out w2 B2).mono ?_; rintro e3 w3 ⟨rfl, B3⟩)
      | (go_at_call 17; fail))
    obtain ⟨q, hqe⟩ : ∃ q, q = w3.heap.size := ⟨_, rfl⟩
    have HQE : Hid (q = w3.heap.size) := hqe
    rw [← hqe]
    obtain ⟨w4, hw4⟩ : ∃ w4, w4 = w3.alloc (.cells #[.int .i64 (k : Int), .int .i64 (bl : Int), .int .i64 (ab : Int)] 44) := ⟨_, rfl⟩
    rw [← hw4]
    have g4 : w4.heap[q]? = some (.cells #[.int .i64 (k : Int), .int .i64 (bl : Int), .int .i64 (ab : Int)] 44 (0, 0)) := by rw [hw4, hqe]; exact heap_alloc_new _ _
    have B4 : Below w1.heap.size w1 w4 := by rw [hw4]; exact B3.alloc B3.size _
    clear hqe hw4
    refine (pmost14 k bl ab w4).mono ?_
    rintro e5 w5 ⟨rfl, B45⟩
    have g5 := (B45.block _ (Array.getElem?_eq_some_iff.1 g4).1).trans g4
    have B5 : Below w1.heap.size w1 w5 := B4.trans (B45.mono B4.size)
    rw [HMX.out]
    have HC5 : Hid (∀ W, Below w5.heap.size w5 W → W.cell? ⟨q, 0, none⟩ = some (.int .i64 (k : Int))) := fun W hb => three_cell0 ((hb.block _ (Array.getElem?_eq_some_iff.1 g5).1).trans g5)
    have HB6 : Hid (∀ W, Below w5.heap.size w5 W → Below w1.heap.size w1 W) := fun W hb => B5.trans (hb.mono B5.size)
    clear g4 g5 B45 HB HN
    go_wp2_with fail
    have BD : Below w5.heap.size w5 w5.drew := (Below.refl _ _).drew
    go_region_held3 (fun W => W.cell? ⟨q, 0, none⟩ = some (.int .i64 (k : Int))) (first | exact HC5.out _ (by assumption) | go_keep) (first
      | (go_at_call 23; refine (HB2.out _ (HB6.out _ (by assumption))).mono ?_; rintro e6 w6 ⟨rfl, B6⟩; have B7 : Below w5.heap.size w5 w6 := Below.trans (by assumption) (B6.mono (Below.size (by assumption))))
      | (go_at_call 24; refine (HL.out _ (HB6.out _ (by assumption))).mono ?_; rintro e6 w6 ⟨rfl, hw6⟩; subst hw6)
      | (go_at_call 25; refine (HE2.out _ (HB6.out _ (by assumption))).mono ?_; rintro e6 w6 ⟨rfl, B6⟩; have B7 : Below w5.heap.size w5 w6 := Below.trans (by assumption) (B6.mono (Below.size (by assumption)))))
    all_goals
      go_wp2_with fail
      go_ret3
      exact ⟨rfl, HB6.out _ (by assumption)⟩
end Go.Proofs.Ytkpfailmmcelcaa

namespace Go.Proofs.Ytkpfailmmcelcaa
open Go.RowKit
set_option linter.unusedVariables false

/-! Lcp. -/
def LvQ13 (w : World) (z : List Int) (A : List Nat) (n : Nat) (e : Ending) (w' : World) : Prop := ∃ g, e = .returned (.slice (some ⟨g, 0, none⟩) n n) ∧ Rz12 w' g (lp13 z A) ∧ w.heap.size ≤ g ∧ Below w.heap.size w w'
end Go.Proofs.Ytkpfailmmcelcaa

namespace Go.Proofs.Ytkpfailmmcelcaa
open Go.RowKit
set_option linter.unusedVariables false

/-! The law's helpers: Same, lend, num, awake. -/
theorem take_all12 {xs ys : List Int} (h : xs.length = ys.length) {k : Nat} (hk : k = xs.length ∨ k = ys.length) (he : xs.take k = ys.take k) : xs = ys := by
  have : k = xs.length := by omega
  rw [List.take_of_length_le (by omega), List.take_of_length_le (by omega)] at he
  exact he

def lent12 (zs : List Int) : List Int := zs ++ [71, 72, 73, 74]
theorem lent12_bd {zs : List Int} (h : ∀ z ∈ zs, -9223372036854775808 ≤ z ∧ z ≤ 9223372036854775807) : ∀ z ∈ lent12 zs, -9223372036854775808 ≤ z ∧ z ≤ 9223372036854775807 := by
  intro z hz
  unfold lent12 at hz
  rw [List.mem_append] at hz
  rcases hz with hz | hz
  · exact h z hz
  · simp at hz; omega
theorem seg_four12 (w : World) : SegZ (w.alloc (.cells #[.int .i64 71, .int .i64 72, .int .i64 73, .int .i64 74] 3)) (some ⟨w.heap.size, 0, none⟩) [71, 72, 73, 74] := by
  refine ⟨fun i hi => ⟨w.heap.size, 0, rfl, ?_⟩, getD_bdz (by intro z hz; simp at hz; omega)⟩
  simp only [List.length_cons, List.length_nil] at hi
  match i, hi with
  | 0, _ => simp
  | 1, _ => simp
  | 2, _ => simp
  | 3, _ => simp

def lsb12 (n : Nat) (S : Nat → Int) : Nat → Nat → Nat → Bool
  | 0, _, _ => false
  | f + 1, i, j => decide (j < n) && (!decide (i < n) || (decide (S i < S j) || (decide (S i = S j) && lsb12 n S f (i + 1) (j + 1))))
theorem lsb12_ok {n : Nat} {S : Nat → Int} : ∀ {f i j : Nat}, lsb12 n S f i j = true → Ls12 n S i j
  | 0, _, _, h => by cases h
  | f + 1, i, j, h => by
    unfold lsb12 at h
    simp only [Bool.and_eq_true, decide_eq_true_eq, Bool.or_eq_true, Bool.not_eq_true', decide_eq_false_iff_not] at h
    obtain ⟨hj, h⟩ := h
    rcases h with h | h | ⟨h1, h2⟩
    · exact .fin h hj
    · by_cases hi : i < n
      · exact .lt hi hj h
      · exact .fin hi hj
    · by_cases hi : i < n
      · exact .eq hi hj h1 (lsb12_ok h2)
      · exact .fin hi hj
def prs12 (n : Nat) (S : Nat → Int) : List Nat → Bool
  | [] => true
  | x :: r => r.all (fun y => lsb12 n S (n + 1) x y) && prs12 n S r
theorem prs12_ok {n : Nat} {S : Nat → Int} : ∀ {A : List Nat}, prs12 n S A = true → A.Pairwise (Ls12 n S)
  | [], _ => List.Pairwise.nil
  | x :: r, h => by
    unfold prs12 at h
    rw [Bool.and_eq_true, List.all_eq_true] at h
    exact List.pairwise_cons.2 ⟨fun y hy => lsb12_ok (h.1 y hy), prs12_ok h.2⟩
def chk12 (n : Nat) (s : List Int) (A : List Nat) : Bool := decide (A.length = n) && A.all (fun j => decide (j < n)) && (List.range n).all (fun j => A.contains j) && prs12 n (S12 s) A
theorem chk12_ok {n : Nat} {s : List Int} {A : List Nat} (h : chk12 n s A = true) : Ar12 n (S12 s) A := by
  unfold chk12 at h
  rw [Bool.and_eq_true, Bool.and_eq_true, Bool.and_eq_true, decide_eq_true_eq, List.all_eq_true, List.all_eq_true] at h
  exact ⟨h.1.1.1, fun j hj => by simpa using h.1.1.2 j hj, fun j hj => by simpa using h.1.2 j (List.mem_range.2 hj), prs12_ok h.2⟩
theorem lit12 (w : World) (A : List Int) : Rz12 (w.alloc (.cells (vi12 A) 3)) w.heap.size A := Rz12.new w A
theorem lit12_bd {A : List Int} (h : A.all (fun z => decide (-100 ≤ z) && decide (z ≤ 100)) = true) : ∀ z ∈ A, -9223372036854775808 ≤ z ∧ z ≤ 9223372036854775807 := by
  intro z hz
  rw [List.all_eq_true] at h
  have := h z hz
  simp only [Bool.and_eq_true, decide_eq_true_eq] at this
  omega
/-- Array of a list that was written out. -/
theorem parl12 (k : Int) (s : List Int) (A : List Nat) (n : Nat) (w : World) (hk : 0 ≤ k ∧ k ≤ 100) (hb : s.all (fun z => decide (-100 ≤ z) && decide (z ≤ 100)) = true) (hn : s.length = n) (hr : ref12 k s = 0) (hA : chk12 n s A = true) :
    Calls Try.prog 32 #[.int .i64 k, .slice (some ⟨w.heap.size, 0, none⟩) n n] (w.alloc (.cells (vi12 s) 3)) fun e w' => ∃ g, e = .returned (.tuple #[.slice (some ⟨g, 0, none⟩) n n, .int .i64 0]) ∧ Rz12 w' g (nz12 A) ∧ w.heap.size ≤ g ∧ Below w.heap.size w w' := by
  have hb1 : Below w.heap.size w (w.alloc (.cells (vi12 s) 3)) := (Below.refl _ _).alloc (Nat.le_refl _) _
  refine (parr12 k _ s n n _ ((lit12 w s).seg (lit12_bd hb)) hn (by omega) hr).mono ?_
  rintro e w' ⟨g, A', rfl, RA, hg, hA', B⟩
  rw [hA'.unique (chk12_ok hA)] at RA
  exact ⟨g, rfl, RA, Nat.le_trans hb1.size hg, hb1.trans (B.mono hb1.size)⟩
end Go.Proofs.Ytkpfailmmcelcaa

namespace Go.Proofs.Ytkpfailmmcelcaa
open Go.RowKit
set_option linter.unusedVariables false

/-! The law's helpers: same, lives. -/
theorem seg_lit13 (w : World) (zs : List Int) (t : TypeId) (fr : Nat × Nat) (h : ∀ z ∈ zs, 0 ≤ z ∧ z ≤ 255) : Seg (w.alloc (.cells (zs.map (Value.int .u8)).toArray t fr)) (some ⟨w.heap.size, 0, none⟩) zs := by
  refine ⟨fun i hi => ⟨w.heap.size, 0, rfl, ?_⟩, by decide, getD_bd (by decide) h⟩
  have e : zs.getD i 0 = zs[i] := by simp [List.getD, hi]
  rw [e, Nat.zero_add, World.cell?_alloc_mark]
  simp [hi]
end Go.Proofs.Ytkpfailmmcelcaa

namespace Go.Proofs.Ytkpfailmmcelcaa
open Go.RowKit
set_option linter.unusedVariables false

/-! The law's helpers of layer 14: lend, kept, index, awake. -/
def lentB14 (zs : List Int) : List Int := zs ++ [71, 72, 73]
theorem lentB14_len (zs : List Int) : (lentB14 zs).length = zs.length + 3 := by simp [lentB14]
theorem lentB14_bd {zs : List Int} (h : ∀ z ∈ zs, 0 ≤ z ∧ z ≤ 255) : ∀ z ∈ lentB14 zs, 0 ≤ z ∧ z ≤ 255 := by
  intro z hz
  unfold lentB14 at hz
  rw [List.mem_append] at hz
  rcases hz with hz | hz
  · exact h z hz
  · simp at hz; omega
theorem lentB14_take (zs : List Int) : (lentB14 zs).take zs.length = zs := by simp [lentB14]
def LenQ14 (w : World) (zs : List Int) (n : Nat) (e : Ending) (w' : World) : Prop := ∃ g c, e = .returned (.slice (some ⟨g, 0, none⟩) (n + 3) c) ∧ Seg w' (some ⟨g, 0, none⟩) (lentB14 zs) ∧ n + 3 ≤ c ∧ Below w.heap.size w w'
set_option maxRecDepth 100000 in
set_option maxHeartbeats 1000000 in
theorem lend14 (a : Option Addr) (zs : List Int) (n cap : Nat) (w : World) (hs : Seg w a zs) (hn : Hid (zs.length = n)) (hnil : a = none → cap = 0) (hl : n ≤ 140737488351232) :
    Calls Try.prog 7 #[.slice a n cap] w (LenQ14 w zs n) := by
  obtain ⟨i0, hi, hz0, hz1, hz2⟩ := info_parts info_y13
  have e0 := hn.out
  subst e0
  clear hn
  have HV : Hid (∀ z ∈ zs, 0 ≤ z ∧ z ≤ 255) := hs.mem
  have sg3 : ∀ w1 : World, Seg (w1.alloc (.cells #[.int .u8 71, .int .u8 72, .int .u8 73] 5)) (some ⟨w1.heap.size, 0, none⟩) [71, 72, 73] := fun w1 => seg_lit13 w1 [71, 72, 73] 5 (0, 0) (by decide)
  have HS3 : Hid (∀ w1 : World, Seg (w1.alloc (.cells #[.int .u8 71, .int .u8 72, .int .u8 73] 5)) (some ⟨w1.heap.size, 0, none⟩) [71, 72, 73]) := sg3
  clear sg3
  go_enter Try.func7, Try.ntmps7
  go_wp2_with (first
    | (at_builtin; refine wpList_appS rfl (.const (.slice none 0 0)) (.tmp 3) 22 rfl w.heap.size 5 i0 (.int .u8 0) 1 Try.underlying22 hi hz0 hz1 hz2 rfl (World.ownsRow_nil _ _ _ _) hs hnil rfl rfl (by omega) (by omega) (Nat.le_refl _) ?_; intro a1 c1 w1 hown1 hg1 hf1 hn1; have hb1 := below_own (World.ownsRow_nil w w.heap.size 5 1) hg1 (Nat.le_refl _); clear hf1 hn1 hg1; rw [Nat.zero_add, List.nil_append] at hown1)
    | (at_builtin; refine wpList_appS rfl (.tmp 4) (.tmp 5) 22 rfl w.heap.size 5 i0 (.int .u8 0) 1 Try.underlying22 hi hz0 hz1 hz2 rfl (hown1.alloc _) (HS3.out w1) (by intro h; cases h) rfl rfl (by simp; omega) (by simp; omega) (by have := hb1.size; simp; omega) ?_; intro a2 c2 w2 hown2 hg2 hf2 hn2))
  go_ret
  clear hf2 hn2
  have hb0 := hb1.trans ((Below.refl w.heap.size w1).alloc hb1.size (.cells #[.int .u8 71, .int .u8 72, .int .u8 73] 5))
  have hb2 := hb0.trans (below_own (hown1.alloc _) hg2 (by have := hb0.size; simpa using this))
  have ev : zs.map (Value.int .u8) ++ ([71, 72, 73] : List Int).map (Value.int .u8) = (lentB14 zs).map (Value.int .u8) := by simp [lentB14]
  have el : zs.length + ([71, 72, 73] : List Int).length = zs.length + 3 := by simp
  rw [el, ev] at hown2
  obtain ⟨g, cap', hv, hc2, hg, hgs⟩ := own_shape hown2 (by omega)
  rw [hv] at hown2
  refine ⟨g, cap', ?_, own_seg13 hown2 (lentB14_bd HV.out), hc2, hb2⟩
  rw [← hv]
  rfl
set_option maxRecDepth 100000 in
set_option maxHeartbeats 2000000 in
theorem kept14 (b a : Option Addr) (zs : List Int) (n cb cap : Nat) (w : World) (hx : Seg w b (lentB14 zs)) (hs : Seg w a zs) (hn : Hid (zs.length = n)) (hnil : a = none → cap = 0) (hl : n ≤ 140737488351232) :
    Calls Try.prog 11 #[.slice b (n + 3) cb, .slice a n cap] w fun e w' => e = .returned (.bool true) ∧ Below w.heap.size w w' := by
  have HL : Hid (∀ W, Below w.heap.size w W → Calls Try.prog 7 #[.slice a n cap] W (LenQ14 W zs n)) := fun W hb => lend14 a zs n cap W (hs.old hb) hn hnil hl
  have HLN : Hid ((lentB14 zs).length = n + 3) := by show _ = _; rw [lentB14_len, hn.out]
  have HCV : Hid (∀ W a2 c2, Seg W a2 (lentB14 zs) → (convert 22 9 (.slice a2 (n + 3) c2)).run Try.prog W = .ok (.string (strOfNums (lentB14 zs))) W) := fun W a2 c2 h => by
    have h8 := run_conv_segS (P := Try.prog) c2 h 22 5 9 Try.underlying22 Try.underlying5 Try.underlying9
    rw [HLN.out] at h8
    exact h8
  have BD : Below w.heap.size w w.drew := (Below.refl _ _).drew
  have y1 := HCV.out w.drew b cb (hx.old BD)
  have HX : Hid (∀ W, Below w.heap.size w W → Seg W b (lentB14 zs)) := fun W hb => hx.old hb
  clear hs hx HLN
  generalize strOfNums (lentB14 zs) = st at *
  go_enter Try.func11, Try.ntmps11
  go_wp2_with fail
  go_region_with (first
    | (go_at_call 7; refine (HL.out _ BD).mono ?_; rintro e1 w1 ⟨g, c, rfl, s1, -, B1⟩; have B2 := BD.trans (B1.mono BD.size); have y2 := HCV.out w1 b cb (HX.out w1 B2); have y3 := HCV.out w1 _ c s1; clear s1 B1))
  all_goals
    go_wp2_with fail
    go_ret
    exact ⟨by first | rfl | simp, B2⟩
set_option maxRecDepth 100000 in
set_option maxHeartbeats 1000000 in
theorem pidx14 (a : Option Addr) (z : List Int) (n cap : Nat) (w : World) (hs : Seg w a z) (hnil : a = none → cap = 0) (hn : Hid (z.length = n)) (hb : n ≤ 16777216) :
    Calls Try.prog 5 #[.slice a n cap] w fun e w' => ∃ b A, e = .returned (.tuple #[.pointer (some ⟨b, 0, none⟩), .bool true]) ∧ IX14 w' b n z A ∧ Below w.heap.size w w' := by
  have HN := pnew13 a z n cap w hs hnil hn hb
  have h24 : ¬ (16777216 : Int) < (n : Int) := by omega
  clear hs
  go_enter Try.func5, Try.ntmps5
  go_wp2_with (first
    | (go_at_call 13; refine HN.mono ?_; rintro e1 w1 ⟨b, da, dc, aa, ac, gb, gr, A, rfl, hI, B1, -⟩; clear HN))
  refine bodyPost_ret (results_tmp2 rfl _ _ _) rfl ?_
  exact ⟨b, A, rfl, ⟨da, dc, aa, ac, gb, gr, hI⟩, B1⟩
set_option maxRecDepth 100000 in
set_option maxHeartbeats 1000000 in
theorem pidxn14 (a : Option Addr) (n cap : Nat) (w : World) (hb : 16777216 < n) (hb2 : n ≤ 9223372036854775807) :
    Calls Try.prog 5 #[.slice a n cap] w fun e w' => e = .returned (.tuple #[.pointer none, .bool true]) ∧ w' = w := by
  have HN := pnewn13 a n cap w hb hb2
  have h24 : (16777216 : Int) < (n : Int) := by omega
  go_enter Try.func5, Try.ntmps5
  go_wp2_with (first
    | (go_at_call 13; refine HN.mono ?_; rintro e1 w1 ⟨rfl, hw1⟩; subst hw1; clear HN))
  refine bodyPost_ret (results_tmp2 rfl _ _ _) rfl ?_
  exact ⟨rfl, rfl⟩
open Classical in
theorem cn12_chk14 {P : Nat → Prop} (f : Nat → Bool) (h : ∀ i, P i ↔ f i = true) : ∀ n, cn12 P n = ((List.range n).filter f).length
  | 0 => rfl
  | n + 1 => by
    rw [List.range_succ, List.filter_append, List.length_append, ← cn12_chk14 f h n]
    show cn12 P n + _ = _
    by_cases c : P n
    · rw [if_pos c, List.filter_cons, if_pos ((h n).1 c)]; rfl
    · rw [if_neg c, List.filter_cons, if_neg (fun k => c ((h n).2 k))]; rfl
theorem lo14_chk (z p : List Int) : lo14 z p = ((List.range z.length).filter fun j => decide (cq14 (z.drop j) p < 0)).length :=
  cn12_chk14 _ (fun i => by rw [cq14_is, decide_eq_true_eq]) _
theorem hi14_chk (z p : List Int) : hi14 z p = ((List.range z.length).filter fun j => decide (cq14 (z.drop j) p ≤ 0)).length :=
  cn12_chk14 _ (fun i => by rw [cq14_is, decide_eq_true_eq]) _
set_option maxRecDepth 100000 in
set_option maxHeartbeats 1000000 in
theorem pawk14 (w : World) : Calls Try.prog 6 #[] w fun e w' => e = .returned (.bool true) ∧ Below w.heap.size w w' := by
  have B0 : Below w.heap.size w (w.alloc (.cells #[.int .u8 98, .int .u8 97, .int .u8 110, .int .u8 97, .int .u8 110, .int .u8 97] 5 (6, 7))) := (Below.refl _ _).alloc (Nat.le_refl _) _
  have hcv : (convert 22 22 (.slice (some ⟨w.heap.size, 0, none⟩) 6 6)).run Try.prog (w.alloc (.cells #[.int .u8 98, .int .u8 97, .int .u8 110, .int .u8 97, .int .u8 110, .int .u8 97] 5)) = .ok (.slice (some ⟨w.heap.size, 0, none⟩) 6 6) (w.alloc (.cells #[.int .u8 98, .int .u8 97, .int .u8 110, .int .u8 97, .int .u8 110, .int .u8 97] 5 (6, 7))) := Lib.run_convert_bytes_const (P := Try.prog) w 22 5 #[.int .u8 98, .int .u8 97, .int .u8 110, .int .u8 97, .int .u8 110, .int .u8 97] 6 6 Try.underlying22 Try.underlying5
  have HN := pnew13 (some ⟨w.heap.size, 0, none⟩) [98, 97, 110, 97, 110, 97] 6 6 _ (seg_lit13 w [98, 97, 110, 97, 110, 97] 5 (6, 7) (by decide)) (by intro h; cases h) rfl (by omega)
  have HLO : Hid (lo14 [98, 97, 110, 97, 110, 97] [97, 110] = 1) := by show _ = _; rw [lo14_chk]; rfl
  have HHI : Hid (hi14 [98, 97, 110, 97, 110, 97] [97, 110] = 3) := by show _ = _; rw [hi14_chk]; rfl
  have HC2 : Hid (∀ w1 : World, (convert 22 22 (.slice (some ⟨w1.heap.size, 0, none⟩) 2 2)).run Try.prog (w1.alloc (.cells #[.int .u8 97, .int .u8 110] 5)) = .ok (.slice (some ⟨w1.heap.size, 0, none⟩) 2 2) (w1.alloc (.cells #[.int .u8 97, .int .u8 110] 5 (2, 3)))) := fun w1 => Lib.run_convert_bytes_const (P := Try.prog) w1 22 5 #[.int .u8 97, .int .u8 110] 2 2 Try.underlying22 Try.underlying5
  go_enter Try.func6, Try.ntmps6
  go_wp2_with (first
    | (go_at_call 13; refine HN.mono ?_; rintro e1 w1 ⟨b, da, dc, aa, ac, gb, gr, A, rfl, hI, B1, -⟩; clear HN hcv; have hc2 := HC2.out w1)
    | (go_at_call 14; fail))
  have B1' := B0.trans (B1.mono B0.size)
  have B2 : Below w1.heap.size w1 (w1.alloc (.cells #[.int .u8 97, .int .u8 110] 5 (2, 3))) := (Below.refl _ _).alloc (Nat.le_refl _) _
  have HR := prange14 b 6 [98, 97, 110, 97, 110, 97] A (some ⟨w1.heap.size, 0, none⟩) [97, 110] 2 2 _ ⟨da, dc, aa, ac, gb, gr, hI.old B2⟩ (seg_lit13 w1 [97, 110] 5 (2, 3) (by decide)) rfl (by omega)
  rw [HLO.out, HHI.out] at HR
  refine HR.mono ?_
  rintro e2 w2 ⟨rfl, B3⟩
  clear HR hI
  go_wp2_with fail
  go_ret
  have S1 := B1'.size
  have S2 := B2.size
  exact ⟨by first | rfl | simp, (B1'.trans (B2.mono (by omega))).trans (B3.mono (by omega))⟩
end Go.Proofs.Ytkpfailmmcelcaa
