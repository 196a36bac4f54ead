import Derived.Test.YtfogknlinmchjaaPat
namespace Go.Proofs.Ytfogknlinmchjaa
open Go.RowKit
set_option linter.unusedVariables false

/-! The landed find: most, nearOf, longest, least, Longest; the document's Longest. -/
set_option maxRecDepth 100000 in
set_option maxHeartbeats 1000000 in
theorem pmost14 (k l u : Nat) (w : World) : Calls Try.prog 24 #[.agg #[.int .i64 (k : Int), .int .i64 (l : Int), .int .i64 (u : Int)]] w fun e w' => e = .returned (.int .i64 ((max l u : Nat) : Int)) ∧ Below w.heap.size w w' := by
  have BB : Below w.heap.size w (w.alloc (.cells #[.int .i64 (k : Int), .int .i64 (l : Int), .int .i64 (u : Int)] 55)) := (Below.refl _ _).alloc (Nat.le_refl _) _
  by_cases h : l < u
  · have e : max l u = u := by omega
    have hi : (l : Int) < (u : Int) := by omega
    rw [e]
    clear e
    go_enter Try.func24, Try.ntmps24
    go_wp2_with fail
    go_ret
    exact ⟨rfl, BB⟩
  · have e : max l u = l := by omega
    have hi : ¬ (l : Int) < (u : Int) := by omega
    rw [e]
    clear e
    go_enter Try.func24, Try.ntmps24
    go_wp2_with fail
    go_ret
    exact ⟨rfl, BB⟩
theorem three_free14 {w : World} {b : Nat} {x y z : Value} {t : TypeId} (i : Nat) (h : w.heap[b]? = some (.cells #[x, y, z] t (0, 0))) : w.frozen? ⟨b, i, none⟩ = false := by simp [World.frozen?, h]
theorem below_set14 {B r i : Nat} {w0 w : World} {x : Value} (hb : Below B w0 w) (hr : B ≤ r) : Below B w0 (w.setCell ⟨r, i, none⟩ x) :=
  ⟨hb.os, hb.tape, hb.output, by simpa using hb.size, fun k hk => by rw [heap_setCell_other _ ⟨r, i, none⟩ k x (by simp; omega)]; exact hb.block k hk⟩
def NearQ14 (w : World) (k bl ab : Nat) (e : Ending) (w' : World) : Prop := e = .returned (.agg #[.int .i64 (k : Int), .int .i64 (bl : Int), .int .i64 (ab : Int)]) ∧ Below w.heap.size w w'
set_option maxRecDepth 100000 in
set_option maxHeartbeats 4000000 in
theorem pnear14 (b : Nat) (pa : Option Addr) (m pc : Nat) (k x0 lb la bl ab : Nat) (w : World) (hk : k ≤ 16777216) (hlb : lb ≤ 140737488351232) (hla : la ≤ 140737488351232) (C1 : Cm14 w b pa m pc ((k : Int) - 1) ((lb : Int) - 1) bl) (C2 : Cm14 w b pa m pc (k : Int) ((la : Int) - 1) ab) :
    Calls Try.prog 39 #[.pointer (some ⟨b, 0, none⟩), .int .i64 (k : Int), .slice pa m pc, .agg #[.int .i64 (x0 : Int), .int .i64 (lb : Int), .int .i64 (la : Int)]] w (NearQ14 w k bl ab) := by
  obtain ⟨w0, hw0⟩ : ∃ w0, w0 = (w.alloc (.cells #[.int .i64 (x0 : Int), .int .i64 (lb : Int), .int .i64 (la : Int)] 55)).alloc (.cells #[.int .i64 0, .int .i64 0, .int .i64 0] 55) := ⟨_, rfl⟩
  have BW : Below w.heap.size w w0 := by rw [hw0]; exact ((Below.refl _ _).alloc (Nat.le_refl _) _).alloc (by simp) _
  have g0 : w0.heap[w.heap.size]? = some (.cells #[.int .i64 (x0 : Int), .int .i64 (lb : Int), .int .i64 (la : Int)] 55 (0, 0)) := by
    rw [hw0, heap_alloc_old _ _ (by simp)]
    exact heap_alloc_new _ _
  have g1 : w0.heap[w.heap.size + 1]? = some (.cells #[.int .i64 0, .int .i64 0, .int .i64 0] 55 (0, 0)) := by
    have := heap_alloc_new (w.alloc (.cells #[.int .i64 (x0 : Int), .int .i64 (lb : Int), .int .i64 (la : Int)] 55)) (.cells #[.int .i64 0, .int .i64 0, .int .i64 0] 55)
    rw [show (w.alloc (.cells #[.int .i64 (x0 : Int), .int .i64 (lb : Int), .int .i64 (la : Int)] 55)).heap.size = w.heap.size + 1 by simp, ← hw0] at this
    exact this
  have HW0 : Hid (w0 = (w.alloc (.cells #[.int .i64 (x0 : Int), .int .i64 (lb : Int), .int .i64 (la : Int)] 55)).alloc (.cells #[.int .i64 0, .int .i64 0, .int .i64 0] 55)) := hw0
  have hq0 : w.heap.size < w0.heap.size := (Array.getElem?_eq_some_iff.1 g0).1
  have hq1 : w.heap.size + 1 < w0.heap.size := (Array.getElem?_eq_some_iff.1 g1).1
  have HCL : Hid (∀ W, Below w0.heap.size w0 W → W.cell? ⟨w.heap.size, 1, none⟩ = some (.int .i64 (lb : Int)) ∧ W.cell? ⟨w.heap.size, 2, none⟩ = some (.int .i64 (la : Int))) := fun W hb => by
    have h0 := (hb.block _ hq0).trans g0
    exact ⟨three_cell1 h0, three_cell2 h0⟩
  have HG1 : Hid (∀ W, Below w0.heap.size w0 W → W.heap[w.heap.size + 1]? = some (.cells #[.int .i64 0, .int .i64 0, .int .i64 0] 55 (0, 0))) := fun W hb => (hb.block _ hq1).trans g1
  have HCM : Hid (∀ rho kap v, Cm14 w b pa m pc rho kap v → ∀ W, Below w0.heap.size w0 W → Calls Try.prog 57 #[.pointer (some ⟨b, 0, none⟩), .int .i64 rho, .slice pa m pc, .int .i64 kap] W fun e w' => e = .returned (.int .i64 (v : Int)) ∧ Below w0.heap.size w0 w') := fun rho kap v C W hb => (C.out W (BW.trans (hb.mono BW.size))).mono fun e w' ⟨he, hB⟩ => ⟨he, hb.trans (hB.mono hb.size)⟩
  have HFN : Hid (∀ W, Below w0.heap.size w0 W → Below w.heap.size w W) := fun W hb => BW.trans (hb.mono BW.size)
  have i1 : IntKind.i64.wrap ((k : Int) - 1) = (k : Int) - 1 := IntWalk.i64_in _ (by omega)
  have i2 : IntKind.i64.wrap ((lb : Int) - 1) = (lb : Int) - 1 := IntWalk.i64_in _ (by omega)
  have i3 : IntKind.i64.wrap ((la : Int) - 1) = (la : Int) - 1 := IntWalk.i64_in _ (by omega)
  clear g0 g1 hq0 hq1 BW hw0
  go_enter Try.func39, Try.ntmps39
  go_wp2_with fail
  rw [← HW0.out]
  have BD : Below w0.heap.size w0 w0.drew := (Below.refl _ _).drew
  obtain ⟨q, hq⟩ : ∃ q, q = w.heap.size := ⟨_, rfl⟩
  rw [← hq] at HCL HG1
  have HQ : Hid (q = w.heap.size) := hq
  rw [← hq]
  clear hq
  go_region_held3 (fun W => W.cell? ⟨q, 1, none⟩ = some (.int .i64 (lb : Int)) ∧ W.cell? ⟨q, 2, none⟩ = some (.int .i64 (la : Int))) (first | exact HCL.out _ (by assumption) | go_keep) (first
    | (go_at_call 57; refine (HCM.out _ _ _ (by assumption) _ (by assumption)).mono ?_; rintro e1 w1 ⟨rfl, B1⟩; have G1 := HG1.out _ B1; have d0 := three_cell0 G1; have d1 := three_cell1 G1; have d2 := three_cell2 G1; have f0 := three_free14 0 G1; have f1 := three_free14 1 G1; have f2 := three_free14 2 G1))
  all_goals
    go_wp2_with fail
    have G4 := three_set2 (three_set1 (three_set0 G1 (.int .i64 (k : Int))) (.int .i64 (bl : Int))) (.int .i64 (ab : Int))
    have BF := HFN.out w1 B1
    have hqq : w.heap.size ≤ q + 1 := by have := HQ.out; omega
    refine bodyPost_ret (v := .agg #[.int .i64 (k : Int), .int .i64 (bl : Int), .int .i64 (ab : Int)]) (results_cell_row (fn := Try.f39) (p := 8) (ty := 55) rfl _ _ (q + 1) _ _ _ _ rfl G4 Try.underlying55 rfl (by kernel_rfl)) rfl ?_
    exact ⟨rfl, below_set14 (below_set14 (below_set14 BF hqq) hqq) hqq⟩
/-- What a text has in common with its neighbours, if so many suffixes are less. -/
def bl14 (z : List Int) (A : List Nat) (p : List Int) (k : Nat) : Nat := if k = 0 then 0 else lc13 (z.drop (A.getD (k - 1) 0)) p
def ab14 (z : List Int) (A : List Nat) (p : List Int) (k : Nat) : Nat := if k < z.length then lc13 (z.drop (A.getD k 0)) p else 0
theorem cm_lo14 {b n : Nat} {z : List Int} {A : List Nat} {k lb : Nat} {pa : Option Addr} {p : List Int} {m pc : Nat} {w : World} (h : IX14 w b n z A) (hp : Seg w pa p) (hm : Hid (p.length = m)) (hmb : m ≤ 140737488351232) (hpc : m ≤ pc) (hk : k ≤ n) (hl : k ≠ 0 → lb - 1 ≤ bl14 z A p k) :
    Cm14 w b pa m pc ((k : Int) - 1) ((lb : Int) - 1) (bl14 z A p k) := by
  have hn := h.n24
  unfold bl14 at hl ⊢
  by_cases c : k = 0
  · subst c
    rw [if_pos rfl]
    exact pcomn14 _ pa m pc _ h (by omega) (by omega)
  · rw [if_neg c] at hl ⊢
    have := pcom14 (k - 1) ((lb : Int) - 1) (lb - 1) h hp hm hmb hpc (by omega) (by omega) (by omega) (hl c)
    rw [show ((k - 1 : Nat) : Int) = (k : Int) - 1 by omega] at this
    exact this
theorem cm_hi14 {b n : Nat} {z : List Int} {A : List Nat} {k la : Nat} {pa : Option Addr} {p : List Int} {m pc : Nat} {w : World} (h : IX14 w b n z A) (hp : Seg w pa p) (hm : Hid (p.length = m)) (hmb : m ≤ 140737488351232) (hpc : m ≤ pc) (hk : k ≤ n) (hl : k < n → la - 1 ≤ ab14 z A p k) :
    Cm14 w b pa m pc (k : Int) ((la : Int) - 1) (ab14 z A p k) := by
  have hn := h.n24
  unfold ab14 at hl ⊢
  rw [h.len] at hl ⊢
  by_cases c : k < n
  · rw [if_pos c] at hl ⊢
    exact pcom14 k ((la : Int) - 1) (la - 1) h hp hm hmb hpc c (by omega) (by omega) (hl c)
  · rw [if_neg c]
    exact pcomn14 _ pa m pc _ h (by omega) (by omega)
theorem bl14_le (z : List Int) (A : List Nat) (p : List Int) (k : Nat) : bl14 z A p k ≤ p.length := by
  unfold bl14
  split
  · omega
  · exact lc13_le' _ _
theorem ab14_le (z : List Int) (A : List Nat) (p : List Int) (k : Nat) : ab14 z A p k ≤ p.length := by
  unfold ab14
  split
  · exact lc13_le' _ _
  · omega
theorem mx_max14 {z : List Int} {A : List Nat} (hA : Ar12 z.length (S12 z) A) (p : List Int) : max (bl14 z A p (lo14 z p)) (ab14 z A p (lo14 z p)) = mx14 z p := (mx14_near hA p).symm
def LgQ14 (w : World) (z p : List Int) (e : Ending) (w' : World) : Prop := e = .returned (.tuple #[.int .i64 ((lo14 z (p.take (mx14 z p)) : Nat) : Int), .int .i64 ((hi14 z (p.take (mx14 z p)) : Nat) : Int), .int .i64 ((mx14 z p : Nat) : Int)]) ∧ Below w.heap.size w w'
set_option maxRecDepth 100000 in
set_option maxHeartbeats 4000000 in
theorem plgst14 (b n : Nat) (z : List Int) (A : List Nat) (pa : Option Addr) (p : List Int) (m pc : Nat) (w : World) (h : IX14 w b n z A) (hp : Seg w pa p) (hm : Hid (p.length = m)) (hmb : m ≤ 140737488351232) (hpc : m ≤ pc) :
    Calls Try.prog 31 #[.pointer (some ⟨b, 0, none⟩), .slice pa m pc] w (LgQ14 w z p) := by
  have hn24 := h.n24
  obtain ⟨a1, a2, a3⟩ := lo_all14 h.len h.ar p
  have HL : Hid (∀ W, Below w.heap.size w W → Calls Try.prog 27 #[.pointer (some ⟨b, 0, none⟩)] W fun e w' => e = .returned (.int .i64 (n : Int)) ∧ w' = W) := fun W hb => (h.old hb).len_
  have HB : Hid (∀ W, Below w.heap.size w W → Calls Try.prog 26 #[.pointer (some ⟨b, 0, none⟩), .int .i64 0, .int .i64 (n : Int), .slice pa m pc] W fun e w' => e = .returned (.int .i64 ((lo14 z p : Nat) : Int)) ∧ Below w.heap.size w w') := fun W hb => (pbegin14 b n z A 0 n (lo14 z p) pa p m pc W (h.old hb) (hp.old hb) hm (by omega) a1 a2 (Nat.le_refl _) a3).mono fun e w' ⟨he, hB⟩ => ⟨he, hb.trans (hB.mono hb.size)⟩
  have HN : Hid (∀ W, Below w.heap.size w W → Calls Try.prog 39 #[.pointer (some ⟨b, 0, none⟩), .int .i64 ((lo14 z p : Nat) : Int), .slice pa m pc, .agg #[.int .i64 0, .int .i64 0, .int .i64 0]] W fun e w' => e = .returned (.agg #[.int .i64 ((lo14 z p : Nat) : Int), .int .i64 ((bl14 z A p (lo14 z p) : Nat) : Int), .int .i64 ((ab14 z A p (lo14 z p) : Nat) : Int)]) ∧ Below w.heap.size w w') := fun W hb =>
    (pnear14 b pa m pc (lo14 z p) 0 0 0 _ _ W (by omega) (by omega) (by omega) (cm_lo14 (h.old hb) (hp.old hb) hm hmb hpc a2 (fun _ => by omega)) (cm_hi14 (h.old hb) (hp.old hb) hm hmb hpc a2 (fun _ => by omega))).mono fun e w' ⟨he, hB⟩ => ⟨he, hb.trans (hB.mono hb.size)⟩
  have HMX : Hid (max (bl14 z A p (lo14 z p)) (ab14 z A p (lo14 z p)) = mx14 z p) := mx_max14 h.arz p
  have hMm : mx14 z p ≤ m := by rw [← hm.out]; exact mx14_le z p
  have hq1 := lo14_take z p (mx14 z p)
  have hq2 := hi14_take z p (mx14 z p)
  have hqh : hi14 z (p.take (mx14 z p)) ≤ n := by rw [← h.len]; exact hi14_le _ _
  have HQL : Hid ((p.take (mx14 z p)).length = mx14 z p) := by show _ = _; rw [List.length_take, hm.out]; omega
  have HB2 : Hid (∀ W, Below w.heap.size w W → Calls Try.prog 26 #[.pointer (some ⟨b, 0, none⟩), .int .i64 0, .int .i64 ((lo14 z p : Nat) : Int), .slice pa (mx14 z p) pc] W fun e w' => e = .returned (.int .i64 ((lo14 z (p.take (mx14 z p)) : Nat) : Int)) ∧ Below W.heap.size W w') := fun W hb => pbegin14 b n z A 0 (lo14 z p) (lo14 z (p.take (mx14 z p))) pa (p.take (mx14 z p)) (mx14 z p) pc W (h.old hb) ((hp.old hb).take _) HQL (by omega) (Nat.zero_le _) hq1 a2 (fun r _ hr => (lo_all14 h.len h.ar _).2.2 r (Nat.zero_le _) (by omega))
  have HE2 : Hid (∀ W, Below w.heap.size w W → Calls Try.prog 28 #[.pointer (some ⟨b, 0, none⟩), .int .i64 ((lo14 z p : Nat) : Int), .int .i64 (n : Int), .slice pa (mx14 z p) pc] W fun e w' => e = .returned (.int .i64 ((hi14 z (p.take (mx14 z p)) : Nat) : Int)) ∧ Below W.heap.size W w') := fun W hb => pend14 b n z A (lo14 z p) n (hi14 z (p.take (mx14 z p))) pa (p.take (mx14 z p)) (mx14 z p) pc W (h.old hb) ((hp.old hb).take _) HQL (by omega) hq2 hqh (Nat.le_refl _) (hi_all14 h.len h.ar _ (lo14 z p) hq2).2
  unfold LgQ14
  clear h hp a3 HQL hq1 hq2
  generalize hi14 z (p.take (mx14 z p)) = hq at *
  generalize lo14 z (p.take (mx14 z p)) = lq at *
  generalize bl14 z A p (lo14 z p) = bl at *
  generalize ab14 z A p (lo14 z p) = ab at *
  generalize mx14 z p = M at *
  generalize lo14 z p = k at *
  have hMp : (M : Int) ≤ (pc : Int) := by omega
  rcases pa with _ | ad
  all_goals
    go_enter Try.func31, Try.ntmps31
    go_wp2_with (first
      | (go_at_call 27; refine (HL.out w (Below.refl _ _)).mono ?_; rintro e1 w1 ⟨rfl, hw1⟩; subst hw1)
      | (go_at_call 26; refine (HB.out w1 (Below.refl _ _)).mono ?_; rintro e2 w2 ⟨rfl, B2⟩)
      | (go_at_call 39; refine (HN.out w2 B2).mono ?_; rintro e3 w3 ⟨rfl, B3⟩)
      | (go_at_call 24; fail))
    obtain ⟨q, hqe⟩ : ∃ q, q = w3.heap.size := ⟨_, rfl⟩
    have HQE : Hid (q = w3.heap.size) := hqe
    rw [← hqe]
    obtain ⟨w4, hw4⟩ : ∃ w4, w4 = w3.alloc (.cells #[.int .i64 (k : Int), .int .i64 (bl : Int), .int .i64 (ab : Int)] 55) := ⟨_, rfl⟩
    rw [← hw4]
    have g4 : w4.heap[q]? = some (.cells #[.int .i64 (k : Int), .int .i64 (bl : Int), .int .i64 (ab : Int)] 55 (0, 0)) := by rw [hw4, hqe]; exact heap_alloc_new _ _
    have B4 : Below w1.heap.size w1 w4 := by rw [hw4]; exact B3.alloc B3.size _
    clear hqe hw4
    refine (pmost14 k bl ab w4).mono ?_
    rintro e5 w5 ⟨rfl, B45⟩
    have g5 := (B45.block _ (Array.getElem?_eq_some_iff.1 g4).1).trans g4
    have B5 : Below w1.heap.size w1 w5 := B4.trans (B45.mono B4.size)
    rw [HMX.out]
    have HC5 : Hid (∀ W, Below w5.heap.size w5 W → W.cell? ⟨q, 0, none⟩ = some (.int .i64 (k : Int))) := fun W hb => three_cell0 ((hb.block _ (Array.getElem?_eq_some_iff.1 g5).1).trans g5)
    have HB6 : Hid (∀ W, Below w5.heap.size w5 W → Below w1.heap.size w1 W) := fun W hb => B5.trans (hb.mono B5.size)
    clear g4 g5 B45 HB HN
    go_wp2_with fail
    have BD : Below w5.heap.size w5 w5.drew := (Below.refl _ _).drew
    go_region_held3 (fun W => W.cell? ⟨q, 0, none⟩ = some (.int .i64 (k : Int))) (first | exact HC5.out _ (by assumption) | go_keep) (first
      | (go_at_call 26; refine (HB2.out _ (HB6.out _ (by assumption))).mono ?_; rintro e6 w6 ⟨rfl, B6⟩; have B7 : Below w5.heap.size w5 w6 := Below.trans (by assumption) (B6.mono (Below.size (by assumption))))
      | (go_at_call 27; refine (HL.out _ (HB6.out _ (by assumption))).mono ?_; rintro e6 w6 ⟨rfl, hw6⟩; subst hw6)
      | (go_at_call 28; refine (HE2.out _ (HB6.out _ (by assumption))).mono ?_; rintro e6 w6 ⟨rfl, B6⟩; have B7 : Below w5.heap.size w5 w6 := Below.trans (by assumption) (B6.mono (Below.size (by assumption)))))
    all_goals
      go_wp2_with fail
      go_ret3
      exact ⟨rfl, HB6.out _ (by assumption)⟩
end Go.Proofs.Ytfogknlinmchjaa

namespace Go.Proofs.Ytfogknlinmchjaa
open Go.RowKit
set_option linter.unusedVariables false

/-! The landed find: least, Longest; the document's Longest. -/
/-- The least place of these ranks. -/
structure Le14 (A : List Nat) (lo hi v : Nat) : Prop where
  is : ∃ r, lo ≤ r ∧ r < hi ∧ A.getD r 0 = v
  le : ∀ r, lo ≤ r → r < hi → v ≤ A.getD r 0
theorem Le14.unique {A : List Nat} {lo hi v u : Nat} (h : Le14 A lo hi v) (k : Le14 A lo hi u) : v = u := by
  obtain ⟨r, h1, h2, h3⟩ := h.is
  obtain ⟨q, k1, k2, k3⟩ := k.is
  have := h.le q k1 k2
  have := k.le r h1 h2
  omega
theorem Le14.step {A : List Nat} {lo i v : Nat} (h : Le14 A lo (lo + max i 1) v) : Le14 A lo (lo + max (i + 1) 1) (min v (A.getD (lo + i) 0)) := by
  obtain ⟨r, h1, h2, h3⟩ := h.is
  refine ⟨?_, fun q k1 k2 => ?_⟩
  · by_cases c : v ≤ A.getD (lo + i) 0
    · exact ⟨r, h1, by omega, by omega⟩
    · exact ⟨lo + i, by omega, by omega, by omega⟩
  · by_cases c : q = lo + i
    · subst c; omega
    · have := h.le q k1 (by omega)
      omega
theorem Le14.hit {n : Nat} {S : Nat → Int} {A : List Nat} (hA : Ar12 n S A) {lo hi i : Nat} (hi1 : i < n) (hhn : hi ≤ n) (h : lo ≤ rk13 A i ∧ rk13 A i < hi) (hno : ∀ j, j < i → ¬ (lo ≤ rk13 A j ∧ rk13 A j < hi)) : Le14 A lo hi i := by
  refine ⟨⟨rk13 A i, h.1, h.2, (hA.rk hi1).2⟩, fun r h1 h2 => ?_⟩
  rcases Nat.lt_or_ge (A.getD r 0) i with c | c
  · exfalso
    refine hno _ c ?_
    rw [hA.rk_at (by omega)]
    exact ⟨h1, h2⟩
  · exact c
def LeQ14 (w : World) (A : List Nat) (lo hi : Nat) (e : Ending) (w' : World) : Prop := ∃ v : Nat, Le14 A lo hi v ∧ e = .returned (.int .i64 (v : Int)) ∧ Below w.heap.size w w'
set_option maxRecDepth 100000 in
set_option maxHeartbeats 4000000 in
theorem pleast14 (b n : Nat) (z : List Int) (A : List Nat) (lo hi : Nat) (w : World) (h : IX14 w b n z A) (hlh : lo < hi) (hhn : hi ≤ n) :
    Calls Try.prog 32 #[.pointer (some ⟨b, 0, none⟩), .int .i64 (lo : Int), .int .i64 (hi : Int)] w (LeQ14 w A lo hi) := by
  have hn24 := h.n24
  have HAT : Hid (∀ W r, Below w.heap.size w W → r < n → Calls Try.prog 36 #[.pointer (some ⟨b, 0, none⟩), .int .i64 (r : Int)] W fun e w' => e = .returned (.tuple #[.int .i64 ((A.getD r 0 : Nat) : Int), .int .i64 0]) ∧ Below w.heap.size w w') := fun W r hb hr => ((h.old hb).at_ hr).mono fun e w' ⟨he, hB⟩ => ⟨he, hb.trans (hB.mono hb.size)⟩
  have HRK : Hid (∀ W j, Below w.heap.size w W → j < n → Calls Try.prog 45 #[.pointer (some ⟨b, 0, none⟩), .int .i64 (j : Int)] W fun e w' => e = .returned (.tuple #[.int .i64 ((rk13 A j : Nat) : Int), .int .i64 0]) ∧ Below w.heap.size w w') := fun W j hb hr => ((h.old hb).rank hr).mono fun e w' ⟨he, hB⟩ => ⟨he, hb.trans (hB.mono hb.size)⟩
  have HAR : Hid (Ar12 n (S12 z) A) := h.ar
  have A0 := HAT.out w lo (Below.refl _ _) (by omega)
  have hat0 := h.ar.get (r := lo) (by omega)
  have HL0 : Hid (Le14 A lo (lo + max 0 1) (A.getD lo 0)) := ⟨⟨lo, by omega, by omega, rfl⟩, fun r h1 h2 => (by rw [show r = lo by omega]; exact Nat.le_refl _)⟩
  clear h
  obtain ⟨D, hD⟩ : ∃ D, D = hi - lo := ⟨_, rfl⟩
  have e1 : (hi : Int) - (lo : Int) = (D : Int) := by omega
  have hDp : 0 < D := by omega
  have hDn : lo + D = hi := by omega
  have HDN : Hid (lo + D = hi) := hDn
  have hDb : lo + D ≤ n := by omega
  clear hD hDn
  generalize hA0 : A.getD lo 0 = a0 at *
  clear hA0
  go_enter Try.func32, Try.ntmps32
  go_wp2_with (first
    | (go_at_call 36; refine A0.mono ?_; rintro e0 w0 ⟨rfl, B0⟩; clear A0))
  go_loopw [7, 23] (fun to ti wr => ∃ i v : Nat, i ≤ D ∧ to = .int .i64 v ∧ ti = .int .i64 i ∧ v < n ∧ Hid (Le14 A lo (lo + max i 1) v) ∧ Hid (∀ j, j < i → ¬ (lo ≤ rk13 A j ∧ rk13 A j < hi)) ∧ Below w.heap.size w wr) (fun _ ti _ => D - (intOf ti).toNat)
  case atStart => exact ⟨0, a0, Nat.zero_le _, rfl, rfl, hat0, HL0, (fun j hj => by omega), B0⟩
  case round =>
    obtain ⟨i, v, hi1, rfl, rfl, hvn, HL, HNO, BR⟩ := hrel
    by_cases h1 : i < D
    · have h1i : (i : Int) < (D : Int) := by omega
      have CR := HRK.out wr i BR (by omega)
      have hrk := (HAR.out.rk (j := i) (by omega)).1
      by_cases h2 : lo ≤ rk13 A i ∧ rk13 A i < hi
      · have HF : Hid (Le14 A lo hi i) := Le14.hit HAR.out (by omega) hhn h2 HNO.out
        obtain ⟨k1, k2⟩ := h2
        have k1i : (lo : Int) ≤ ((rk13 A i : Nat) : Int) := by omega
        have k2i : ((rk13 A i : Nat) : Int) < (hi : Int) := by omega
        generalize rk13 A i = rk at *
        go_wp2_with (first
          | (go_at_call 45; refine CR.mono ?_; rintro e2 w2 ⟨rfl, B2⟩; clear CR))
        go_ret
        exact ⟨i, HF.out, rfl, B2⟩
      · have HNN : Hid (∀ j, j < i + 1 → ¬ (lo ≤ rk13 A j ∧ rk13 A j < hi)) := fun j hj => by
          by_cases c : j = i
          · subst c; exact h2
          · exact HNO.out j (by omega)
        have HST : Hid (Le14 A lo (lo + max (i + 1) 1) (min v (A.getD (lo + i) 0))) := HL.out.step
        have hat2 := HAR.out.get (r := lo + i) (by omega)
        have HA2 : Hid (∀ W, Below w.heap.size w W → Calls Try.prog 36 #[.pointer (some ⟨b, 0, none⟩), .int .i64 ((lo + i : Nat) : Int)] W fun e w' => e = .returned (.tuple #[.int .i64 ((A.getD (lo + i) 0 : Nat) : Int), .int .i64 0]) ∧ Below w.heap.size w w') := fun W hb => HAT.out W (lo + i) hb (by omega)
        obtain ⟨s, hs⟩ : ∃ s, s = lo + i := ⟨_, rfl⟩
        rw [← hs] at HA2 HST hat2
        have hsi : (lo : Int) + (i : Int) = (s : Int) := by omega
        have hsn : s < n := by omega
        have hrkb : rk13 A i < n := hrk
        have hcase : rk13 A i < lo ∨ (lo ≤ rk13 A i ∧ hi ≤ rk13 A i) := by omega
        clear hs h2 hrk
        generalize A.getD s 0 = u at *
        generalize rk13 A i = rk at *
        rcases hcase with k1 | ⟨k1, k2⟩
        · have k1i : ¬ (lo : Int) ≤ (rk : Int) := by omega
          by_cases h3 : u < v
          · have h3i : (u : Int) < (v : Int) := by omega
            rw [show min v u = u by omega] at HST
            go_wp2_with (first
              | (go_at_call 45; refine CR.mono ?_; rintro e2 w2 ⟨rfl, B2⟩; clear CR)
              | (go_at_call 36; refine (HA2.out w2 B2).mono ?_; rintro e3 w3 ⟨rfl, B3⟩))
            go_roundw
            case rel => exact ⟨i + 1, u, by omega, by first | rfl | go_num, by go_num, hat2, HST, HNN, B3⟩
            case measure => simp [intOf]; omega
          · have h3i : ¬ (u : Int) < (v : Int) := by omega
            rw [show min v u = v by omega] at HST
            go_wp2_with (first
              | (go_at_call 45; refine CR.mono ?_; rintro e2 w2 ⟨rfl, B2⟩; clear CR)
              | (go_at_call 36; refine (HA2.out w2 B2).mono ?_; rintro e3 w3 ⟨rfl, B3⟩))
            go_roundw
            case rel => exact ⟨i + 1, v, by omega, by first | rfl | go_num, by go_num, hvn, HST, HNN, B3⟩
            case measure => simp [intOf]; omega
        · have k1i : (lo : Int) ≤ (rk : Int) := by omega
          have k2i : ¬ (rk : Int) < (hi : Int) := by omega
          by_cases h3 : u < v
          · have h3i : (u : Int) < (v : Int) := by omega
            rw [show min v u = u by omega] at HST
            go_wp2_with (first
              | (go_at_call 45; refine CR.mono ?_; rintro e2 w2 ⟨rfl, B2⟩; clear CR)
              | (go_at_call 36; refine (HA2.out w2 B2).mono ?_; rintro e3 w3 ⟨rfl, B3⟩))
            go_roundw
            case rel => exact ⟨i + 1, u, by omega, by first | rfl | go_num, by go_num, hat2, HST, HNN, B3⟩
            case measure => simp [intOf]; omega
          · have h3i : ¬ (u : Int) < (v : Int) := by omega
            rw [show min v u = v by omega] at HST
            go_wp2_with (first
              | (go_at_call 45; refine CR.mono ?_; rintro e2 w2 ⟨rfl, B2⟩; clear CR)
              | (go_at_call 36; refine (HA2.out w2 B2).mono ?_; rintro e3 w3 ⟨rfl, B3⟩))
            go_roundw
            case rel => exact ⟨i + 1, v, by omega, by first | rfl | go_num, by go_num, hvn, HST, HNN, B3⟩
            case measure => simp [intOf]; omega
    · have h1i : ¬ (i : Int) < (D : Int) := by omega
      obtain rfl : i = D := by omega
      have HF : Hid (Le14 A lo hi v) := by
        have := HL.out
        rw [show lo + max i 1 = hi by have := HDN.out; omega] at this
        exact this
      go_wp2_with fail
      go_ret
      exact ⟨v, HF.out, rfl, BR⟩
/-- The place of the longest beginning. -/
theorem lp_le14 {z : List Int} {A : List Nat} (hA : Ar12 z.length (S12 z) A) (p : List Int) (hm : 0 < mx14 z p) : lo14 z (p.take (mx14 z p)) < hi14 z (p.take (mx14 z p)) ∧ Le14 A (lo14 z (p.take (mx14 z p))) (hi14 z (p.take (mx14 z p))) (lp14 z p) := by
  obtain ⟨h1, h2, h3⟩ := (at14_is z p z.length).2 hm
  obtain ⟨r1, r2⟩ := hA.rk h1
  have k := (range_mx14 hA p r1).2 (by rw [r2]; exact h2)
  refine ⟨by omega, ⟨⟨rk13 A (at14 z p z.length), k.1, k.2, r2⟩, fun r g1 g2 => ?_⟩⟩
  have hr : r < z.length := by have := hi14_le z (p.take (mx14 z p)); omega
  have g3 := (range_mx14 hA p hr).1 ⟨g1, g2⟩
  rcases Nat.lt_or_ge (A.getD r 0) (lp14 z p) with c | c
  · have := h3 _ c
    unfold mx14 at g3
    omega
  · exact c
theorem lp_zero14 (z p : List Int) (h : mx14 z p = 0) : lp14 z p = 0 := (at14_is z p z.length).1 h
def LoQ14 (w : World) (z p : List Int) (e : Ending) (w' : World) : Prop := e = .returned (.tuple #[.int .i64 ((lp14 z p : Nat) : Int), .int .i64 ((mx14 z p : Nat) : Int), .int .i64 0]) ∧ Below w.heap.size w w'
set_option maxRecDepth 100000 in
set_option maxHeartbeats 2000000 in
theorem pLong14 (b n : Nat) (z : List Int) (A : List Nat) (pa : Option Addr) (p : List Int) (m pc : Nat) (w : World) (h : IX14 w b n z A) (hp : Seg w pa p) (hm : Hid (p.length = m)) (hmb : m ≤ 140737488351232) (hpc : m ≤ pc) :
    Calls Try.prog 17 #[.pointer (some ⟨b, 0, none⟩), .slice pa m pc] w (LoQ14 w z p) := by
  have HM := pmd14 b n z A w h
  have HG : Hid (∀ W, Below w.heap.size w W → Calls Try.prog 31 #[.pointer (some ⟨b, 0, none⟩), .slice pa m pc] W fun e w' => e = .returned (.tuple #[.int .i64 ((lo14 z (p.take (mx14 z p)) : Nat) : Int), .int .i64 ((hi14 z (p.take (mx14 z p)) : Nat) : Int), .int .i64 ((mx14 z p : Nat) : Int)]) ∧ Below w.heap.size w w') := fun W hb => (plgst14 b n z A pa p m pc W (h.old hb) (hp.old hb) hm hmb hpc).mono fun e w' ⟨he, hB⟩ => ⟨he, hb.trans (hB.mono hb.size)⟩
  unfold LoQ14
  by_cases c : mx14 z p = 0
  · rw [lp_zero14 z p c, c]
    rw [c] at HG
    clear h hp c
    go_enter Try.func17, Try.ntmps17
    go_wp2_with (first
      | (go_at_call 22; refine HM.mono ?_; rintro e1 w1 ⟨rfl, B1⟩; clear HM)
      | (go_at_call 31; refine (HG.out w1 B1).mono ?_; rintro e2 w2 ⟨rfl, B2⟩))
    go_ret3
    exact ⟨rfl, B2⟩
  · obtain ⟨k1, k2⟩ := lp_le14 h.arz p (by omega)
    have hhn : hi14 z (p.take (mx14 z p)) ≤ n := by rw [← h.len]; exact hi14_le _ _
    have HLE : Hid (∀ W, Below w.heap.size w W → Calls Try.prog 32 #[.pointer (some ⟨b, 0, none⟩), .int .i64 ((lo14 z (p.take (mx14 z p)) : Nat) : Int), .int .i64 ((hi14 z (p.take (mx14 z p)) : Nat) : Int)] W fun e w' => e = .returned (.int .i64 ((lp14 z p : Nat) : Int)) ∧ Below w.heap.size w w') := fun W hb => (pleast14 b n z A _ _ W (h.old hb) k1 hhn).mono fun e w' ⟨v, hv, he, hB⟩ => ⟨by rw [he, hv.unique k2], hb.trans (hB.mono hb.size)⟩
    have c2 : ¬ ((mx14 z p : Nat) : Int) = 0 := by omega
    have c3 : (((mx14 z p : Nat) : Int) == 0) = false := beq_eq_false_iff_ne.2 c2
    clear h hp k1 k2
    generalize hi14 z (p.take (mx14 z p)) = hq at *
    generalize lo14 z (p.take (mx14 z p)) = lq at *
    generalize lp14 z p = at_ at *
    generalize mx14 z p = M at *
    go_enter Try.func17, Try.ntmps17
    go_wp2_with (first
      | (go_at_call 22; refine HM.mono ?_; rintro e1 w1 ⟨rfl, B1⟩; clear HM)
      | (go_at_call 31; refine (HG.out w1 B1).mono ?_; rintro e2 w2 ⟨rfl, B2⟩)
      | (go_at_call 32; refine (HLE.out w2 B2).mono ?_; rintro e3 w3 ⟨rfl, B3⟩))
    go_ret3
    exact ⟨rfl, B3⟩
set_option maxRecDepth 100000 in
set_option maxHeartbeats 2000000 in
theorem rlong14 (da : Option Addr) (z : List Int) (n dc : Nat) (pa : Option Addr) (p : List Int) (m pc : Nat) (w : World) (hs : Seg w da z) (hp : Seg w pa p) (hn : Hid (z.length = n)) (hm : Hid (p.length = m)) (hb : n ≤ 140737488351232) (hb2 : m ≤ 140737488351232) :
    Calls Try.prog 25 #[.slice da n dc, .slice pa m pc] w fun e w' => e = .returned (.tuple #[.int .i64 ((lp14 z p : Nat) : Int), .int .i64 ((mx14 z p : Nat) : Int)]) ∧ ∃ d, w' = w.drewN d := by
  have HCO : Hid (∀ i d, i ≤ n → Calls Try.prog 40 #[.slice da n dc, .slice pa m pc, .int .i64 (i : Int)] (w.drewN d) fun e w' => e = .returned (.int .i64 ((lc13 (z.drop i) p : Nat) : Int)) ∧ ∃ d, w' = w.drewN d) := fun i d hi => (rcomm14 da z n dc pa p m pc i _ (hs.drewN d) (hp.drewN d) hn hm hb hb2 hi).mono fun e w' ⟨he, d2, hd⟩ => ⟨he, d + d2, by rw [hd, drewN14]⟩
  have HLO : Hid (lp14 z p = at14 z p n ∧ mx14 z p = mp14 z p n) := by show _ ∧ _; unfold lp14 mx14; rw [hn.out]; exact ⟨rfl, rfl⟩
  have HML : Hid (∀ i, mp14 z p i ≤ m ∧ lc13 (z.drop i) p ≤ m) := fun i => ⟨by rw [← hm.out]; exact mp14_le z p i, by rw [← hm.out]; exact lc13_le' _ _⟩
  have HST : Hid (∀ i, mp14 z p (i + 1) = max (mp14 z p i) (lc13 (z.drop i) p) ∧ at14 z p (i + 1) = if mp14 z p i < lc13 (z.drop i) p then i else at14 z p i) := fun i => ⟨rfl, rfl⟩
  rw [HLO.out.1, HLO.out.2]
  clear hs hp
  go_enter Try.func25, Try.ntmps25
  go_wp2_with fail
  go_loopw [6, 7, 8] (fun ta tm ti wr => ∃ i at_ mo : Nat, i ≤ n ∧ ta = .int .i64 at_ ∧ tm = .int .i64 mo ∧ ti = .int .i64 i ∧ Hid (at_ = at14 z p i) ∧ Hid (mo = mp14 z p i) ∧ ∃ d, wr = w.drewN d) (fun _ _ ti _ => n - (intOf ti).toNat)
  case atStart => exact ⟨0, 0, 0, Nat.zero_le _, rfl, rfl, rfl, (rfl : _ = _), (rfl : _ = _), 0, rfl⟩
  case round =>
    obtain ⟨i, at_, mo, hin, rfl, rfl, rfl, HA, HM, d, hd⟩ := hrel
    by_cases h1 : i < n
    · have h1i : (i : Int) < (n : Int) := by omega
      have C1 := HCO.out i d hin
      rw [← hd] at C1
      obtain ⟨s1, s2⟩ := HST.out i
      have hb3 := HML.out i
      have HS1 : Hid (mp14 z p (i + 1) = max (mp14 z p i) (lc13 (z.drop i) p)) := s1
      have HS2 : Hid (at14 z p (i + 1) = if mp14 z p i < lc13 (z.drop i) p then i else at14 z p i) := s2
      rw [← HM.out] at HS1 HS2 hb3
      rw [← HA.out] at HS2
      clear s1 s2 hd
      generalize lc13 (z.drop i) p = v at *
      by_cases hv : mo < v
      · have hvi : (mo : Int) < (v : Int) := by omega
        have N1 : Hid (v = mp14 z p (i + 1)) := by show _ = _; rw [HS1.out]; omega
        have N2 : Hid (i = at14 z p (i + 1)) := by show _ = _; rw [HS2.out, if_pos hv]
        clear HS1 HS2
        go_wp2_with (first
          | (go_at_call 40; refine C1.mono ?_; rintro e1 w1 ⟨rfl, d2, hd2⟩; have HD : Hid (w1 = w.drewN d2) := hd2; clear hd2 C1))
        go_roundw
        case rel => exact ⟨i + 1, i, v, by omega, by first | rfl | go_num, by first | rfl | go_num, by go_num, N2, N1, d2, HD.out⟩
        case measure => simp [intOf]; omega
      · have hvi : ¬ (mo : Int) < (v : Int) := by omega
        have N1 : Hid (mo = mp14 z p (i + 1)) := by show _ = _; rw [HS1.out]; omega
        have N2 : Hid (at_ = at14 z p (i + 1)) := by show _ = _; rw [HS2.out, if_neg hv]
        clear HS1 HS2
        go_wp2_with (first
          | (go_at_call 40; refine C1.mono ?_; rintro e1 w1 ⟨rfl, d2, hd2⟩; have HD : Hid (w1 = w.drewN d2) := hd2; clear hd2 C1))
        go_roundw
        case rel => exact ⟨i + 1, at_, mo, by omega, by first | rfl | go_num, by first | rfl | go_num, by go_num, N2, N1, d2, HD.out⟩
        case measure => simp [intOf]; omega
    · have h1i : ¬ (i : Int) < (n : Int) := by omega
      obtain rfl : i = n := by omega
      have HD : Hid (wr = w.drewN d) := hd
      clear hd
      go_wp2_with fail
      refine bodyPost_ret (results_tmp2 rfl _ _ _) rfl ?_
      exact ⟨by rw [← HA.out, ← HM.out]; rfl, d, HD.out⟩
end Go.Proofs.Ytfogknlinmchjaa
