import Derived.Test.YtbjjddoeilhomaaPh
import Derived.Test.YtbjjddoeilhomaaPs
import Derived.Test.YtbjjddoeilhomaaPt
import Derived.Test.YtbjjddoeilhomaaPu
namespace Go.Proofs.Ytbjjddoeilhomaa
open Go.RowKit
set_option linter.unusedVariables false

/-! The landed scan: a scanner in memory; ended, same, reckon. -/
def snL15 (x : Nat) (za : Option Addr) (nz zc : Nat) (qa : Option Addr) (m qc en ag : Nat) (kn ar le : Value) (d b : Nat) (sh : Int) (at_ n : Nat) (sc : Int) (mk : Nat) (st : Value) : List Value := [.slice za nz zc, .slice qa m qc, .pointer (some ⟨x, 0, none⟩), .slice qa m qc, .int .i64 (en : Int), .int .i64 (ag : Int), kn, ar, le, .int .i64 (d : Int), .int .i64 (b : Int), .int .i64 sh, .int .i64 (at_ : Int), .int .i64 (n : Int), .int .i64 sc, .int .i64 (mk : Int), st]
structure Sn15 (w0 w : World) (g x : Nat) (za : Option Addr) (nz zc : Nat) (qa : Option Addr) (m qc en ag : Nat) (kn ar le : Value) (d b : Nat) (sh : Int) (at_ n : Nat) (sc : Int) (mk : Nat) (st : Value) : Prop where
  bl : Below w0.heap.size w0 w
  g0 : w0.heap.size ≤ g
  hp : w.heap[g]? = some (.cells (snL15 x za nz zc qa m qc en ag kn ar le d b sh at_ n sc mk st).toArray 57 (0, 0))
section
variable {w0 w w' : World} {g x nz zc m qc en ag d b at_ n mk : Nat} {za qa : Option Addr} {kn ar le st : Value} {sh sc : Int} {z q : List Int}
theorem Sn15.old (h : Sn15 w0 w g x za nz zc qa m qc en ag kn ar le d b sh at_ n sc mk st) (hb : Below w.heap.size w w') : Sn15 w0 w' g x za nz zc qa m qc en ag kn ar le d b sh at_ n sc mk st := ⟨h.bl.trans (hb.mono h.bl.size), h.g0, (hb.block g (Array.getElem?_eq_some_iff.1 h.hp).1).trans h.hp⟩
theorem Sn15.drewN (h : Sn15 w0 w g x za nz zc qa m qc en ag kn ar le d b sh at_ n sc mk st) (k : Nat) : Sn15 w0 (w.drewN k) g x za nz zc qa m qc en ag kn ar le d b sh at_ n sc mk st := ⟨by have := h.bl; exact ⟨this.os, this.tape, this.output, this.size, this.block⟩, h.g0, h.hp⟩
theorem Sn15.drew (h : Sn15 w0 w g x za nz zc qa m qc en ag kn ar le d b sh at_ n sc mk st) : Sn15 w0 w.drew g x za nz zc qa m qc en ag kn ar le d b sh at_ n sc mk st := ⟨by have := h.bl; exact ⟨this.os, this.tape, this.output, this.size, this.block⟩, h.g0, h.hp⟩
theorem Sn15.cell (h : Sn15 w0 w g x za nz zc qa m qc en ag kn ar le d b sh at_ n sc mk st) (i : Nat) (v : Value) (hv : (snL15 x za nz zc qa m qc en ag kn ar le d b sh at_ n sc mk st)[i]? = some v) : w.cell? ⟨g, i, none⟩ = some v := by
  rw [cell_of_row w g i _ _ _ h.hp]
  simpa using hv
theorem Sn15.free (h : Sn15 w0 w g x za nz zc qa m qc en ag kn ar le d b sh at_ n sc mk st) (i : Nat) : w.frozen? ⟨g, i, none⟩ = false := by simp [World.frozen?, h.hp]
theorem Sn15.lt (h : Sn15 w0 w g x za nz zc qa m qc en ag kn ar le d b sh at_ n sc mk st) : g < w.heap.size := (Array.getElem?_eq_some_iff.1 h.hp).1
theorem Sn15.setKn (h : Sn15 w0 w g x za nz zc qa m qc en ag kn ar le d b sh at_ n sc mk st) (v : Value) : Sn15 w0 (w.setCell ⟨g, 6, none⟩ v) g x za nz zc qa m qc en ag (v) ar le d b sh at_ n sc mk st := ⟨below_set14 h.bl h.g0, h.g0, (heap_setCell_same w g 6 _ _ _ h.hp).trans rfl⟩
theorem Sn15.setAr (h : Sn15 w0 w g x za nz zc qa m qc en ag kn ar le d b sh at_ n sc mk st) (v : Value) : Sn15 w0 (w.setCell ⟨g, 7, none⟩ v) g x za nz zc qa m qc en ag kn (v) le d b sh at_ n sc mk st := ⟨below_set14 h.bl h.g0, h.g0, (heap_setCell_same w g 7 _ _ _ h.hp).trans rfl⟩
theorem Sn15.setLe (h : Sn15 w0 w g x za nz zc qa m qc en ag kn ar le d b sh at_ n sc mk st) (v : Value) : Sn15 w0 (w.setCell ⟨g, 8, none⟩ v) g x za nz zc qa m qc en ag kn ar (v) d b sh at_ n sc mk st := ⟨below_set14 h.bl h.g0, h.g0, (heap_setCell_same w g 8 _ _ _ h.hp).trans rfl⟩
theorem Sn15.setSt (h : Sn15 w0 w g x za nz zc qa m qc en ag kn ar le d b sh at_ n sc mk st) (v : Value) : Sn15 w0 (w.setCell ⟨g, 16, none⟩ v) g x za nz zc qa m qc en ag kn ar le d b sh at_ n sc mk (v) := ⟨below_set14 h.bl h.g0, h.g0, (heap_setCell_same w g 16 _ _ _ h.hp).trans rfl⟩
theorem Sn15.setEn (h : Sn15 w0 w g x za nz zc qa m qc en ag kn ar le d b sh at_ n sc mk st) (v : Nat) : Sn15 w0 (w.setCell ⟨g, 4, none⟩ (.int .i64 (v : Int))) g x za nz zc qa m qc (v) ag kn ar le d b sh at_ n sc mk st := ⟨below_set14 h.bl h.g0, h.g0, (heap_setCell_same w g 4 _ _ _ h.hp).trans rfl⟩
theorem Sn15.setAg (h : Sn15 w0 w g x za nz zc qa m qc en ag kn ar le d b sh at_ n sc mk st) (v : Nat) : Sn15 w0 (w.setCell ⟨g, 5, none⟩ (.int .i64 (v : Int))) g x za nz zc qa m qc en (v) kn ar le d b sh at_ n sc mk st := ⟨below_set14 h.bl h.g0, h.g0, (heap_setCell_same w g 5 _ _ _ h.hp).trans rfl⟩
theorem Sn15.setD (h : Sn15 w0 w g x za nz zc qa m qc en ag kn ar le d b sh at_ n sc mk st) (v : Nat) : Sn15 w0 (w.setCell ⟨g, 9, none⟩ (.int .i64 (v : Int))) g x za nz zc qa m qc en ag kn ar le (v) b sh at_ n sc mk st := ⟨below_set14 h.bl h.g0, h.g0, (heap_setCell_same w g 9 _ _ _ h.hp).trans rfl⟩
theorem Sn15.setB (h : Sn15 w0 w g x za nz zc qa m qc en ag kn ar le d b sh at_ n sc mk st) (v : Nat) : Sn15 w0 (w.setCell ⟨g, 10, none⟩ (.int .i64 (v : Int))) g x za nz zc qa m qc en ag kn ar le d (v) sh at_ n sc mk st := ⟨below_set14 h.bl h.g0, h.g0, (heap_setCell_same w g 10 _ _ _ h.hp).trans rfl⟩
theorem Sn15.setSh (h : Sn15 w0 w g x za nz zc qa m qc en ag kn ar le d b sh at_ n sc mk st) (v : Int) : Sn15 w0 (w.setCell ⟨g, 11, none⟩ (.int .i64 v)) g x za nz zc qa m qc en ag kn ar le d b (v) at_ n sc mk st := ⟨below_set14 h.bl h.g0, h.g0, (heap_setCell_same w g 11 _ _ _ h.hp).trans rfl⟩
theorem Sn15.setAt (h : Sn15 w0 w g x za nz zc qa m qc en ag kn ar le d b sh at_ n sc mk st) (v : Nat) : Sn15 w0 (w.setCell ⟨g, 12, none⟩ (.int .i64 (v : Int))) g x za nz zc qa m qc en ag kn ar le d b sh (v) n sc mk st := ⟨below_set14 h.bl h.g0, h.g0, (heap_setCell_same w g 12 _ _ _ h.hp).trans rfl⟩
theorem Sn15.setN (h : Sn15 w0 w g x za nz zc qa m qc en ag kn ar le d b sh at_ n sc mk st) (v : Nat) : Sn15 w0 (w.setCell ⟨g, 13, none⟩ (.int .i64 (v : Int))) g x za nz zc qa m qc en ag kn ar le d b sh at_ (v) sc mk st := ⟨below_set14 h.bl h.g0, h.g0, (heap_setCell_same w g 13 _ _ _ h.hp).trans rfl⟩
theorem Sn15.setSc (h : Sn15 w0 w g x za nz zc qa m qc en ag kn ar le d b sh at_ n sc mk st) (v : Int) : Sn15 w0 (w.setCell ⟨g, 14, none⟩ (.int .i64 v)) g x za nz zc qa m qc en ag kn ar le d b sh at_ n (v) mk st := ⟨below_set14 h.bl h.g0, h.g0, (heap_setCell_same w g 14 _ _ _ h.hp).trans rfl⟩
theorem Sn15.setMk (h : Sn15 w0 w g x za nz zc qa m qc en ag kn ar le d b sh at_ n sc mk st) (v : Nat) : Sn15 w0 (w.setCell ⟨g, 15, none⟩ (.int .i64 (v : Int))) g x za nz zc qa m qc en ag kn ar le d b sh at_ n sc (v) st := ⟨below_set14 h.bl h.g0, h.g0, (heap_setCell_same w g 15 _ _ _ h.hp).trans rfl⟩
set_option maxRecDepth 100000 in
set_option maxHeartbeats 1000000 in
theorem pended15 (h : Sn15 w0 w g x za nz zc qa m qc en ag kn ar le d b sh at_ n sc mk st) (hb : at_ ≤ m) (hm : m ≤ 16777216) :
    Calls Try.prog 25 #[.pointer (some ⟨g, 0, none⟩)] w fun e w' => e = .returned (.bool (decide (at_ = m))) ∧ ∃ k, w' = w.drewN k := by
  have c1 := h.cell 1 _ rfl
  have c12 := h.cell 12 _ rfl
  clear h
  by_cases c : at_ = m
  · subst c
    rw [decide_eq_true rfl]
    go_enter Try.func25, Try.ntmps25
    go_wp2_with fail
    go_quiet (fail)
    go_wp2_with fail
    go_ret
    exact ⟨by first | rfl | simp, _, rfl⟩
  · rw [decide_eq_false c]
    have ci : ¬ (at_ : Int) = (m : Int) := by omega
    have cb : ((at_ : Int) == (m : Int)) = false := beq_eq_false_iff_ne.2 ci
    go_enter Try.func25, Try.ntmps25
    go_wp2_with fail
    go_quiet (fail)
    go_wp2_with fail
    go_ret
    exact ⟨by first | rfl | simp [cb] | simp [c], _, rfl⟩
set_option maxRecDepth 100000 in
set_option maxHeartbeats 2000000 in
theorem psame15 (k : Nat) (h : Sn15 w0 w g x za nz zc qa m qc en ag kn ar le d b sh at_ n sc mk st) (hz : Seg w0 za z) (hq : Seg w0 qa q) (hn : Hid (z.length = nz)) (hm : Hid (q.length = m)) (hnb : nz ≤ 16777216) (hmb : m ≤ 16777216) (hk : k < m) (hsh : -16777216 ≤ sh ∧ sh ≤ 16777216) :
    Calls Try.prog 47 #[.pointer (some ⟨g, 0, none⟩), .int .i64 (k : Int)] w fun e w' => e = .returned (.bool (sm15 z q sh k)) ∧ ∃ k, w' = w.drewN k := by
  have c0 := h.cell 0 _ rfl
  have c1 := h.cell 1 _ rfl
  have c11 := h.cell 11 _ rfl
  have hz := hz.old h.bl
  have hq := hq.old h.bl
  have i1 : IntKind.i64.wrap ((k : Int) + sh) = (k : Int) + sh := IntWalk.i64_in _ (by omega)
  clear h
  by_cases g1 : 0 ≤ (k : Int) + sh
  · obtain ⟨s, hs⟩ : ∃ s : Nat, (k : Int) + sh = (s : Int) := ⟨((k : Int) + sh).toNat, by omega⟩
    rw [hs] at i1
    have HE : Hid (sm15 z q sh k = (decide (s < nz) && (z.getD s 0 == q.getD k 0))) := by
      show _ = _
      unfold sm15
      rw [hs, hn.out, Int.toNat_natCast]
      simp
    rw [HE.out]
    clear HE
    by_cases g2 : s < nz
    · have g2i : (s : Int) < (nz : Int) := by omega
      have gd1 : decide ((0 : Int) ≤ (s : Int)) = true := decide_eq_true (by omega)
      have gd2 : decide ((s : Int) < (nz : Int)) = true := decide_eq_true g2i
      have hki : (k : Int) < (m : Int) := by omega
      rw [decide_eq_true g2, Bool.true_and]
      obtain ⟨b1, o1, rfl, k1⟩ := hz.at_ s (by rw [hn.out]; omega)
      obtain ⟨b2, o2, rfl, k2⟩ := hq.at_ k (by rw [hm.out]; omega)
      have v1 := hz.bd s
      have v2 := hq.bd k
      clear hz hq
      generalize z.getD s 0 = u at *
      generalize q.getD k 0 = v at *
      by_cases huv : u = v
      · subst huv
        have e1 : (u == u) = true := by simp
        rw [e1]
        go_enter Try.func47, Try.ntmps47
        go_wp2_with fail
        go_quiet (fail)
        go_wp2_with fail
        go_ret
        exact ⟨by first | rfl | simp, _, rfl⟩
      · have e1 : (u == v) = false := by simpa using huv
        rw [e1]
        go_enter Try.func47, Try.ntmps47
        go_wp2_with fail
        go_quiet (fail)
        go_wp2_with fail
        go_ret
        exact ⟨by first | rfl | simp [e1] | simp [huv], _, rfl⟩
    · have g2i : ¬ (s : Int) < (nz : Int) := by omega
      have gd1 : decide ((0 : Int) ≤ (s : Int)) = true := decide_eq_true (by omega)
      have gd2 : decide ((s : Int) < (nz : Int)) = false := decide_eq_false g2i
      rw [decide_eq_false g2, Bool.false_and]
      clear hz hq
      go_enter Try.func47, Try.ntmps47
      go_wp2_with fail
      go_quiet (fail)
      go_wp2_with fail
      go_ret
      exact ⟨by first | rfl | simp, _, rfl⟩
  · have HE : sm15 z q sh k = false := by unfold sm15; rw [decide_eq_false g1]; rfl
    rw [HE]
    clear hz hq HE
    have HG : Hid (¬ (0 : Int) ≤ (k : Int) + sh) := g1
    clear g1
    go_enter Try.func47, Try.ntmps47
    go_wp2_with fail
    have gd1 : decide ((0 : Int) ≤ (k : Int) + sh) = false := decide_eq_false (by have := HG.out; omega)
    go_quiet (fail)
    go_wp2_with fail
    go_ret
    exact ⟨by first | rfl | simp, _, rfl⟩
end

/-! The landed scan: reckon. -/
def cell15 (w : World) (b i : Nat) : Nat := (intOf ((w.cell? ⟨b, i, none⟩).getD (.int .i64 0))).toNat
theorem cell15_of {w : World} {b i : Nat} {k : IntKind} {n : Int} (h : w.cell? ⟨b, i, none⟩ = some (.int k n)) : cell15 w b i = n.toNat := by unfold cell15; rw [h]; rfl
section
variable {w0 w w' : World} {g x nz zc m qc en ag d b at_ n mk : Nat} {za qa : Option Addr} {kn ar le st : Value} {sh sc : Int} {z q : List Int}
set_option maxRecDepth 100000 in
set_option maxHeartbeats 4000000 in
theorem preck15 (to : Nat) (h : Sn15 w0 w g x za nz zc qa m qc en ag kn ar le d b sh at_ n sc mk st) (hz : Seg w0 za z) (hq : Seg w0 qa q) (hn : Hid (z.length = nz)) (hm : Hid (q.length = m)) (hnb : nz ≤ 16777216) (hmb : m ≤ 16777216) (hto : to ≤ m) (hat : at_ ≤ m) (hmk : mk ≤ m) (hsc : Hid (sc = sco15 z q sh mk at_)) (hsh : -16777216 ≤ sh ∧ sh ≤ 16777216) :
    Calls Try.prog 46 #[.pointer (some ⟨g, 0, none⟩), .int .i64 (to : Int)] w fun e w' => e = .returned (.tuple #[]) ∧ (Sn15 w0 w' g x za nz zc qa m qc en ag kn ar le d b sh at_ n (sco15 z q sh (max mk to) at_) (max mk to) st) ∧ Kp (fun k => k = g) w w' := by
  have HS : Hid (∀ (k mk1 : Nat) (sc1 : Int) (W : World), k < m → Sn15 w0 W g x za nz zc qa m qc en ag kn ar le d b sh at_ n (sc1) (mk1) st → Calls Try.prog 47 #[.pointer (some ⟨g, 0, none⟩), .int .i64 (k : Int)] W fun e w' => e = .returned (.bool (sm15 z q sh k)) ∧ ∃ k, w' = W.drewN k) := fun k mk1 sc1 W hk hS => psame15 k hS hz hq hn hm hnb hmb hk hsh
  have HS0 : Hid (Sn15 w0 w g x za nz zc qa m qc en ag kn ar le d b sh at_ n sc mk st) := h
  have HCT : Hid (∀ k, sco15 z q sh (k + 1) at_ = sco15 z q sh k at_ + (if sm15 z q sh k then 1 else 0)) := fun k => by
    unfold sco15
    rw [ct15_succ]
    split <;> omega
  have HAB : Hid (∀ k, k ≤ m → -(m : Int) ≤ sco15 z q sh k at_ ∧ sco15 z q sh k at_ ≤ (m : Int)) := fun k hk => sco15_abs z q sh hat hk
  clear h hz hq
  go_enter Try.func46, Try.ntmps46
  go_wp2_with fail
  go_loopw [] (fun wr => ∃ (mk1 : Nat) (sc1 : Int), (Sn15 w0 wr g x za nz zc qa m qc en ag kn ar le d b sh at_ n (sc1) (mk1) st) ∧ mk ≤ mk1 ∧ mk1 ≤ max mk to ∧ Hid (sc1 = sco15 z q sh mk1 at_) ∧ Hid (Kp (fun k => k = g) w wr)) (fun wr => to - cell15 wr g 15)
  case atStart => exact ⟨mk, sc, HS0.out, Nat.le_refl _, Nat.le_max_left _ _, hsc, Kp.refl _ _⟩
  case round =>
    obtain ⟨mk1, sc1, SR, h1, h2, HSC, HK⟩ := hrel
    have c15 := SR.cell 15 _ rfl
    by_cases hlt : mk1 < to
    · have hlti : (mk1 : Int) < (to : Int) := by omega
      have CS := HS.out mk1 mk1 sc1 wr (by omega) SR
      have HSR : Hid (Sn15 w0 wr g x za nz zc qa m qc en ag kn ar le d b sh at_ n (sc1) (mk1) st) := SR
      have HMS : Hid (cell15 wr g 15 = mk1) := by show _ = _; rw [cell15_of c15]; simp
      have hct := HCT.out mk1
      rw [← HSC.out] at hct
      have hab := HAB.out mk1 (by omega)
      rw [← HSC.out] at hab
      have HHCT : Hid (sco15 z q sh (mk1 + 1) at_ = sc1 + (if sm15 z q sh mk1 then 1 else 0)) := hct
      clear SR hct
      cases hb : sm15 z q sh mk1
      · rw [hb] at CS HHCT
        have N1 : Hid (sc1 = sco15 z q sh (mk1 + 1) at_) := by show _ = _; rw [HHCT.out]; simp
        clear hb HHCT
        go_wp2_with (first
          | (go_at_call 47; refine CS.mono ?_; rintro e1 w1 ⟨rfl, kk, hw1⟩; have S1 := HSR.out.drewN kk; have K1 := HK.out.drewN kk; rw [← hw1] at S1 K1; clear hw1 CS; have d15 := S1.cell 15 _ rfl; have f15 := S1.free 15; have S2 : Hid (Sn15 w0 (w1.setCell ⟨g, 15, none⟩ (.int .i64 ((mk1 : Int) + 1))) g x za nz zc qa m qc en ag kn ar le d b sh at_ n (sc1) (mk1 + 1) st) := S1.setMk (mk1 + 1); have HK1 : Hid (Kp (fun k => k = g) w w1) := K1; clear S1 K1))
        go_roundw
        case rel => exact ⟨mk1 + 1, sc1, S2.out, by omega, by omega, N1, HK1.out.trans (Kp.set (S := fun k => k = g) rfl _) (fun _ _ e => e)⟩
        case measure => rw [HMS.out, cell15_of (S2.out.cell 15 _ rfl)]; simp; omega
      · rw [hb] at CS HHCT
        have N1 : Hid (sc1 + 1 = sco15 z q sh (mk1 + 1) at_) := by show _ = _; rw [HHCT.out]; simp
        have f1 : IntKind.i64.wrap (sc1 + 1) = sc1 + 1 := IntWalk.i64_in _ (by omega)
        clear hb HHCT
        go_wp2_with (first
          | (go_at_call 47; refine CS.mono ?_; rintro e1 w1 ⟨rfl, kk, hw1⟩; have S1 := HSR.out.drewN kk; have K1 := HK.out.drewN kk; rw [← hw1] at S1 K1; clear hw1 CS; have d14 := S1.cell 14 _ rfl; have f14 := S1.free 14; have S1b := S1.setSc (sc1 + 1); have d15 := S1b.cell 15 _ rfl; have f15 := S1b.free 15; have S2 : Hid (Sn15 w0 ((w1.setCell ⟨g, 14, none⟩ (.int .i64 (sc1 + 1))).setCell ⟨g, 15, none⟩ (.int .i64 ((mk1 : Int) + 1))) g x za nz zc qa m qc en ag kn ar le d b sh at_ n (sc1 + 1) (mk1 + 1) st) := S1b.setMk (mk1 + 1); have HK1 : Hid (Kp (fun k => k = g) w w1) := K1; clear S1 K1 S1b))
        go_roundw
        case rel => exact ⟨mk1 + 1, sc1 + 1, S2.out, by omega, by omega, N1, (HK1.out.trans (Kp.set (S := fun k => k = g) rfl _) (fun _ _ e => e)).trans (Kp.set (S := fun k => k = g) rfl _) (fun _ _ e => e)⟩
        case measure => rw [HMS.out, cell15_of (S2.out.cell 15 _ rfl)]; simp; omega
    · have hlti : ¬ (mk1 : Int) < (to : Int) := by omega
      have e0 : mk1 = max mk to := by omega
      have HF : Hid (Sn15 w0 wr g x za nz zc qa m qc en ag kn ar le d b sh at_ n (sco15 z q sh (max mk to) at_) (max mk to) st) := by show Sn15 w0 wr g x za nz zc qa m qc en ag kn ar le d b sh at_ n (sco15 z q sh (max mk to) at_) (max mk to) st; rw [← e0, ← HSC.out]; exact SR
      clear SR e0
      go_wp2_with fail
      refine bodyPost_end (results_none rfl _ _ _) rfl ?_
      exact ⟨rfl, HF.out, HK.out⟩
end

/-! The landed scan: length. -/
/-- What Statistics answers of a text. -/
def st15 (z p : List Int) : List Int := (List.range p.length).map fun i => ((mx14 z (p.drop i) : Nat) : Int)
theorem st15_len (z p : List Int) : (st15 z p).length = p.length := by simp [st15]
theorem st15_get (z p : List Int) {i : Nat} (h : i < p.length) : (st15 z p).getD i 0 = ((mx14 z (p.drop i) : Nat) : Int) := by simp [st15, List.getD, h]
def StQ15 (W : World) (z p : List Int) (m : Nat) (e : Ending) (w' : World) : Prop := ∃ a, e = .returned (.tuple #[.slice (some ⟨a, 0, none⟩) m m, .int .i64 0]) ∧ Rz12 w' a (st15 z p) ∧ W.heap.size ≤ a ∧ Below W.heap.size W w'
/-- The contract of Statistics. -/
def StC15 (x nz : Nat) (z : List Int) (A : List Nat) : Prop := ∀ (W : World) (pa : Option Addr) (p : List Int) (m pc : Nat), IX14 W x nz z A → Seg W pa p → Hid (p.length = m) → m ≤ 16777216 → m ≤ pc → Calls Try.prog 53 #[.pointer (some ⟨x, 0, none⟩), .slice pa m pc] W (StQ15 W z p m)
def Kn15 (w : World) (g : Nat) (z q : List Int) (m N : Nat) (kn : Value) (lo : Nat) : Prop := ∃ a s, kn = .slice (some ⟨a, 0, none⟩) (m - s) (m - s) ∧ Rz12 w a (st15 z (q.drop s)) ∧ s ≤ lo ∧ s < m ∧ a ≠ g ∧ N ≤ a
def Kw15 (S : Prop) (w : World) (g : Nat) (z q : List Int) (m N : Nat) (kn : Value) (en ag lo hi : Nat) : Prop := (S ∧ en ≤ m ∧ ag ≤ 17 * m ∧ ((kn = .slice none 0 0 ∧ ag ≤ 16 * m) ∨ Kn15 w g z q m N kn lo)) ∨ (kn = .slice none 0 0 ∧ ag = 0 ∧ en ≤ hi ∧ en ≤ m)
theorem Kn15.kp {w w' : World} {g m N lo : Nat} {z q : List Int} {kn : Value} {S : Nat → Prop} (h : Kn15 w g z q m N kn lo) (hk : Kp S w w') (hS : ∀ a s l c, kn = .slice (some ⟨a, s, none⟩) l c → ¬ S a) : Kn15 w' g z q m N kn lo := by
  obtain ⟨a, s, h1, h2, h3, h4, h5, h6⟩ := h
  exact ⟨a, s, h1, h2.kp hk (hS a 0 _ _ h1), h3, h4, h5, h6⟩
theorem Kw15.kp {P : Prop} {w w' : World} {g m N en ag lo hi : Nat} {z q : List Int} {kn : Value} {S : Nat → Prop} (h : Kw15 P w g z q m N kn en ag lo hi) (hk : Kp S w w') (hS : ∀ a s l c, kn = .slice (some ⟨a, s, none⟩) l c → ¬ S a) : Kw15 P w' g z q m N kn en ag lo hi := by
  rcases h with ⟨h1, h2, h3, h4⟩ | h
  · refine Or.inl ⟨h1, h2, h3, ?_⟩
    rcases h4 with h4 | h4
    · exact Or.inl h4
    · exact Or.inr (h4.kp hk hS)
  · exact Or.inr h
theorem Kw15.ne {P : Prop} {w : World} {g m N en ag lo hi : Nat} {z q : List Int} {kn : Value} (h : Kw15 P w g z q m N kn en ag lo hi) : ∀ a s l c, kn = .slice (some ⟨a, s, none⟩) l c → a ≠ g := by
  intro a s l c e
  rcases h with ⟨_, _, _, ⟨h4, _⟩ | ⟨a', s', h1, _, _, _, h5, _⟩⟩ | ⟨h4, _⟩
  · rw [h4] at e; cases e
  · rw [h1] at e; cases e; exact h5
  · rw [h4] at e; cases e
theorem Kw15.kpg {P : Prop} {w w' : World} {g m N en ag lo hi : Nat} {z q : List Int} {kn : Value} (h : Kw15 P w g z q m N kn en ag lo hi) (hk : Kp (fun k => k = g) w w') : Kw15 P w' g z q m N kn en ag lo hi := h.kp hk (fun a s l c e => h.ne a s l c e)
theorem Kw15.mono {P : Prop} {w : World} {g m N en ag lo hi lo' hi' : Nat} {z q : List Int} {kn : Value} (h : Kw15 P w g z q m N kn en ag lo hi) (h1 : lo ≤ lo') (h2 : P ∨ hi ≤ hi') : Kw15 P w g z q m N kn en ag lo' hi' := by
  rcases h with ⟨k1, k2, k3, k4⟩ | ⟨k1, k2, k3, k4⟩
  · refine Or.inl ⟨k1, k2, k3, ?_⟩
    rcases k4 with k4 | ⟨a, s, j1, j2, j3, j4⟩
    · exact Or.inl k4
    · exact Or.inr ⟨a, s, j1, j2, by omega, j4⟩
  · rcases h2 with h2 | h2
    · exact Or.inl ⟨h2, k4, by omega, Or.inl ⟨k1, by omega⟩⟩
    · exact Or.inr ⟨k1, k2, by omega, k4⟩
theorem neqn15 (w : World) : (binOp .neq 46 (.slice none 0 0) (.slice none 0 0)).run Try.prog w = .ok (.bool false) w := by kernel_rfl
theorem neqs15 (w : World) (a : Addr) (l c : Nat) : (binOp .neq 46 (.slice (some a) l c) (.slice none 0 0)).run Try.prog w = .ok (.bool true) w := by kernel_rfl
def LnQ15 (S : Prop) (w0 : World) (g x : Nat) (za : Option Addr) (nz zc : Nat) (qa : Option Addr) (m qc en ag : Nat) (kn ar le : Value) (d b : Nat) (sh : Int) (at_ n : Nat) (sc : Int) (mk : Nat) (st : Value) (z q : List Int) (w : World) (e : Ending) (w' : World) : Prop := e = .returned (.int .i64 ((mx14 z (q.drop at_) : Nat) : Int)) ∧ ∃ (en2 ag2 : Nat) (kn2 : Value), (Sn15 w0 w' g x za nz zc qa m qc (en2) (ag2) (kn2) ar le d b sh at_ n sc mk st) ∧ Kw15 S w' g z q m w0.heap.size kn2 en2 ag2 at_ (at_ + mx14 z (q.drop at_)) ∧ Kp (fun k => k = g) w w'
section
variable {w0 w w' : World} {g x nz zc m qc en ag d b at_ n mk : Nat} {za qa : Option Addr} {kn ar le st : Value} {sh sc : Int} {z q : List Int}
set_option maxRecDepth 100000 in
set_option maxHeartbeats 8000000 in
theorem plen15 {S : Prop} {A : List Nat} (h : Sn15 w0 w g x za nz zc qa m qc en ag kn ar le d b sh at_ n sc mk st) (hI : IX14 w0 x nz z A) (hq : Seg w0 qa q) (hm : Hid (q.length = m)) (hmb : m ≤ 16777216) (hqc : m ≤ qc) (hat : at_ < m) (hK : Kw15 S w g z q m w0.heap.size kn en ag at_ at_) (hS : S → StC15 x nz z A) :
    Calls Try.prog 45 #[.pointer (some ⟨g, 2, none⟩), .int .i64 (at_ : Int)] w (LnQ15 S w0 g x za nz zc qa m qc en ag kn ar le d b sh at_ n sc mk st z q w) := by
  have hq1 := hq.old h.bl
  obtain ⟨qb, qo, rfl, -⟩ := hq1.at_ at_ (by rw [hm.out]; omega)
  have hmx := mx14_le z (q.drop at_)
  rw [List.length_drop, hm.out] at hmx
  have HSL : Hid (∀ W, Below w0.heap.size w0 W → Seg W (some ⟨qb, qo + at_, none⟩) (q.drop at_)) := fun W hb => (hq.old hb).drop at_
  have hati : (at_ : Int) < (m : Int) := by omega
  have hatc : (at_ : Int) ≤ (qc : Int) := by omega
  have hatm : (at_ : Int) ≤ (m : Int) := by omega
  have l1 : at_ ≤ m := by omega
  have HDL : Hid ((q.drop at_).length = m - at_) := by show _ = _; rw [List.length_drop, hm.out]
  have HLG : Hid (∀ W pc, Below w0.heap.size w0 W → Calls Try.prog 54 #[.pointer (some ⟨x, 0, none⟩), .slice (some ⟨qb, qo + at_, none⟩) (m - at_) pc] W fun e w' => e = .returned (.int .i64 ((mx14 z (q.drop at_) : Nat) : Int)) ∧ Below W.heap.size W w') := fun W pc hb => plng15 x nz z A _ (q.drop at_) (m - at_) pc W (hI.old hb) (HSL.out W hb) HDL (by omega)
  have c3 := h.cell 3 _ rfl
  have c2 := h.cell 2 _ rfl
  have c4 := h.cell 4 _ rfl
  have c5 := h.cell 5 _ rfl
  have c6 := h.cell 6 _ rfl
  have f5 := h.free 5
  unfold LnQ15
  -- the row is there
  by_cases hkn : Kn15 w g z q m w0.heap.size kn at_
  · obtain ⟨a, s, rfl, hR, hs1, hs2, hs3, hs4⟩ := hkn
    have hq2 := neqs15 w ⟨a, 0, none⟩ (m - s) (m - s)
    obtain ⟨l, hl⟩ : ∃ l, l = m - s := ⟨_, rfl⟩
    obtain ⟨r, hr⟩ : ∃ r, r = m - at_ := ⟨_, rfl⟩
    obtain ⟨i, hi⟩ : ∃ i, i = at_ - s := ⟨_, rfl⟩
    have hii : (l : Int) - (r : Int) = (i : Int) := by omega
    have hiw : IntKind.i64.wrap ((l : Int) - (r : Int)) = (i : Int) := by rw [hii]; exact IntWalk.i64_in _ (by omega)
    have hil : (i : Int) < (l : Int) := by omega
    have hil2 : i < l := by omega
    have ci := hR.cell (i := i) (by rw [st15_len, List.length_drop, hm.out]; omega)
    rw [st15_get z _ (by rw [List.length_drop, hm.out]; omega), List.drop_drop, show s + i = at_ by omega] at ci
    have HF : Hid (∀ k, (Sn15 w0 (w.drewN k) g x za nz zc (some ⟨qb, qo, none⟩) m qc en ag (.slice (some ⟨a, 0, none⟩) (m - s) (m - s)) ar le d b sh at_ n sc mk st) ∧ Kw15 S (w.drewN k) g z q m w0.heap.size (.slice (some ⟨a, 0, none⟩) (m - s) (m - s)) en ag at_ (at_ + mx14 z (q.drop at_)) ∧ Kp (fun k => k = g) w (w.drewN k)) := fun k => ⟨h.drewN k, (hK.mono (Nat.le_refl _) (Or.inr (by omega))).kpg ((Kp.refl _ w).drewN k), (Kp.refl _ w).drewN k⟩
    rw [← hl] at c6 hq2 HF
    rw [← hr] at HLG HDL
    have hrb : r ≤ 16777216 := by omega
    have hlb : l ≤ 16777216 := by omega
    have hrw : m - at_ = r := hr.symm
    clear h hI hq hq1 hR hK HSL HLG HDL hS hl hi hr hs1 hs2 hs3 hs4 f5 c4 c5
    generalize mx14 z (q.drop at_) = M at *
    go_enter Try.func45, Try.ntmps45
    go_wp2_with fail
    go_quiet (fail)
    go_wp2_with fail
    go_ret
    exact ⟨rfl, _, _, _, HF.out _⟩
  · have hkn0 : kn = .slice none 0 0 ∧ ag ≤ 16 * m := by
      rcases hK with ⟨_, _, _, k | k⟩ | ⟨k1, k2, _⟩
      · exact k
      · exact absurd k hkn
      · exact ⟨k1, by omega⟩
    have henb : en ≤ m := by
      rcases hK with ⟨_, k, _⟩ | ⟨_, _, _, k⟩
      · exact k
      · exact k
    obtain ⟨rfl, hag⟩ := hkn0
    clear hkn
    have hq2 := neqn15 w
    obtain ⟨r, hr⟩ : ∃ r, r = m - at_ := ⟨_, rfl⟩
    obtain ⟨E, hE⟩ : ∃ E : Int, (en : Int) - (at_ : Int) = E := ⟨_, rfl⟩
    obtain ⟨ag2, hag2⟩ : ∃ ag2 : Nat, ag2 = ag + (en - at_) := ⟨_, rfl⟩
    have hEw : IntKind.i64.wrap ((en : Int) - (at_ : Int)) = E := by rw [hE]; exact IntWalk.i64_in _ (by omega)
    have S1 := h.setAg ag2
    have HS1 : Hid (Sn15 w0 (w.setCell ⟨g, 5, none⟩ (.int .i64 (ag2 : Int))) g x za nz zc (some ⟨qb, qo, none⟩) m qc en (ag2) (.slice none 0 0) ar le d b sh at_ n sc mk st) := S1
    have d5 := S1.cell 5 _ rfl
    have d3 := S1.cell 3 _ rfl
    have d2 := S1.cell 2 _ rfl
    have K1 : Kp (fun k => k = g) w (w.setCell ⟨g, 5, none⟩ (.int .i64 (ag2 : Int))) := Kp.set (S := fun k => k = g) rfl _
    have HK1 : Hid (Kp (fun k => k = g) w (w.setCell ⟨g, 5, none⟩ (.int .i64 (ag2 : Int)))) := K1
    clear K1
    obtain ⟨w1, hw1⟩ : ∃ w1, w1 = w.setCell ⟨g, 5, none⟩ (.int .i64 (ag2 : Int)) := ⟨_, rfl⟩
    have HW1 : Hid (w1 = w.setCell ⟨g, 5, none⟩ (.int .i64 (ag2 : Int))) := hw1
    rw [← hw1] at HS1 HK1 d5 d3 d2
    clear S1 hw1
    have m16 : (16 : Int) * (m : Int) = ((16 * m : Nat) : Int) := by omega
    obtain ⟨M6, hM6⟩ : ∃ M6, M6 = 16 * m := ⟨_, rfl⟩
    rw [← hM6] at m16
    have m16w : IntKind.i64.wrap ((16 : Int) * (m : Int)) = (M6 : Int) := by rw [m16]; exact IntWalk.i64_in _ (by omega)
    have hrw : m - at_ = r := hr.symm
    have hM6b : M6 ≤ 268435456 := by omega
    have hag2b : ag2 ≤ 285212672 := by omega
    -- which way the sum goes
    by_cases hst : M6 < ag2
    · -- all lengths together
      have hSS : S := by
        rcases hK with ⟨k, _⟩ | ⟨_, k2, k3⟩
        · exact k
        · omega
      have HST : Hid (∀ W pc, Below w0.heap.size w0 W → m - at_ ≤ pc → Calls Try.prog 53 #[.pointer (some ⟨x, 0, none⟩), .slice (some ⟨qb, qo + at_, none⟩) (m - at_) pc] W (StQ15 W z (q.drop at_) (m - at_))) := fun W pc hb hpc => hS hSS W _ (q.drop at_) (m - at_) pc (hI.old hb) (HSL.out W hb) HDL (by omega) hpc
      have hE0 : 0 < E := by omega
      have hage : (ag : Int) + E = (ag2 : Int) := by omega
      have hagew : IntKind.i64.wrap ((ag : Int) + E) = (ag2 : Int) := by rw [hage]; exact IntWalk.i64_in _ (by omega)
      have hsti : (M6 : Int) < (ag2 : Int) := by omega
      have HFN : Hid (∀ (kk : Nat) (W : World) (a : Nat), Below (w1.drewN kk).heap.size (w1.drewN kk) W → Rz12 W a (st15 z (q.drop at_)) → (w1.drewN kk).heap.size ≤ a → (Sn15 w0 (W.setCell ⟨g, 6, none⟩ (.slice (some ⟨a, 0, none⟩) r r)) g x za nz zc (some ⟨qb, qo, none⟩) m qc en (ag2) (.slice (some ⟨a, 0, none⟩) r r) ar le d b sh at_ n sc mk st) ∧ Kw15 S (W.setCell ⟨g, 6, none⟩ (.slice (some ⟨a, 0, none⟩) r r)) g z q m w0.heap.size (.slice (some ⟨a, 0, none⟩) r r) en ag2 at_ (at_ + mx14 z (q.drop at_)) ∧ Kp (fun k => k = g) w (W.setCell ⟨g, 6, none⟩ (.slice (some ⟨a, 0, none⟩) r r)) ∧ (W.setCell ⟨g, 6, none⟩ (.slice (some ⟨a, 0, none⟩) r r)).cell? ⟨a, 0, none⟩ = some (.int .i64 ((mx14 z (q.drop at_) : Nat) : Int))) := fun kk W a hb hR ha => by
        have Sk := HS1.out.drewN kk
        have Sw := Sk.old hb
        have hg := Sk.lt
        have k6 : Kp (fun k => k = g) W (W.setCell ⟨g, 6, none⟩ (.slice (some ⟨a, 0, none⟩) r r)) := Kp.set (S := fun k => k = g) rfl _
        have R2 := hR.kp k6 (by show ¬ a = g; omega)
        refine ⟨Sw.setKn _, Or.inl ⟨hSS, henb, by omega, Or.inr ⟨a, at_, by rw [hr], R2, Nat.le_refl _, hat, by omega, ?_⟩⟩, ((HK1.out.drewN kk).trans (S' := fun _ => False) (Kp.of_below hb) (fun _ _ e => e.elim)).trans k6 (fun _ _ e => e), ?_⟩
        · have := Sk.bl.size; omega
        · have := R2.cell (i := 0) (by rw [st15_len, List.length_drop, hm.out]; omega)
          rw [st15_get z _ (by rw [List.length_drop, hm.out]; omega), List.drop_zero] at this
          exact this
      have HBL : Hid (∀ kk, Below w0.heap.size w0 (w1.drewN kk)) := fun kk => (HS1.out.drewN kk).bl
      have HCD : Hid (∀ kk, (w1.drewN kk).cell? ⟨g, 2, none⟩ = some (.pointer (some ⟨x, 0, none⟩))) := fun kk => (HS1.out.drewN kk).cell 2 _ rfl
      have HFR : Hid (∀ (kk : Nat) (W : World), Below (w1.drewN kk).heap.size (w1.drewN kk) W → W.frozen? ⟨g, 6, none⟩ = false ∧ W.cell? ⟨g, 6, none⟩ = some (.slice none 0 0)) := fun kk W hb => ⟨((HS1.out.drewN kk).old hb).free 6, ((HS1.out.drewN kk).old hb).cell 6 _ rfl⟩
      have HC6 : Hid (∀ (W : World) (a : Nat), (Sn15 w0 (W.setCell ⟨g, 6, none⟩ (.slice (some ⟨a, 0, none⟩) r r)) g x za nz zc (some ⟨qb, qo, none⟩) m qc en (ag2) (.slice (some ⟨a, 0, none⟩) r r) ar le d b sh at_ n sc mk st) → (W.setCell ⟨g, 6, none⟩ (.slice (some ⟨a, 0, none⟩) r r)).cell? ⟨g, 6, none⟩ = some (.slice (some ⟨a, 0, none⟩) r r)) := fun W a hh => hh.cell 6 _ rfl
      rw [← hr] at HST
      have hr0 : (0 : Int) < (r : Int) := by omega
      have hr00 : 0 < r := by omega
      have hrb : r ≤ 16777216 := by omega
      have hrc : r ≤ qc - at_ := by omega
      clear h hI hq hq1 hK HSL HLG HDL hS hr hag2 hM6 m16 hE hage hst hSS
      generalize mx14 z (q.drop at_) = M at *
      go_enter Try.func45, Try.ntmps45
      go_wp2_with fail
      go_region
      rw [← HW1.out]
      go_wp2_with fail
      go_quiet (fail)
      have e2 := HCD.out
      go_wp2_with (first
        | (go_at_call 53; refine (HST.out _ _ (HBL.out _) hrc).mono ?_; rintro e5 w5 ⟨a5, rfl, R5, A5, B5⟩; obtain ⟨j1, j2, j3, j4⟩ := HFN.out _ w5 a5 B5 R5 A5; obtain ⟨y1, y2⟩ := HFR.out _ w5 B5; have y3 := HC6.out w5 a5 j1; have HJ1 : Hid (Sn15 w0 (w5.setCell ⟨g, 6, none⟩ (.slice (some ⟨a5, 0, none⟩) r r)) g x za nz zc (some ⟨qb, qo, none⟩) m qc en (ag2) (.slice (some ⟨a5, 0, none⟩) r r) ar le d b sh at_ n sc mk st) := j1; have HJ2 : Hid (Kw15 S (w5.setCell ⟨g, 6, none⟩ (.slice (some ⟨a5, 0, none⟩) r r)) g z q m w0.heap.size (.slice (some ⟨a5, 0, none⟩) r r) en ag2 at_ (at_ + M)) := j2; have HJ3 : Hid (Kp (fun k => k = g) w (w5.setCell ⟨g, 6, none⟩ (.slice (some ⟨a5, 0, none⟩) r r))) := j3; clear j1 j2 j3 R5 A5 B5))
      go_ret
      exact ⟨rfl, en, ag2, _, HJ1.out, HJ2.out, HJ3.out⟩
    · have hsti : ¬ (M6 : Int) < (ag2 : Int) := by omega
      have HFN : Hid (∀ (kk : Nat) (W : World), Below (w1.drewN kk).heap.size (w1.drewN kk) W → (Sn15 w0 (W.setCell ⟨g, 4, none⟩ (.int .i64 ((at_ : Int) + ((mx14 z (q.drop at_) : Nat) : Int)))) g x za nz zc (some ⟨qb, qo, none⟩) m qc (at_ + mx14 z (q.drop at_)) (ag2) (.slice none 0 0) ar le d b sh at_ n sc mk st) ∧ Kw15 S (W.setCell ⟨g, 4, none⟩ (.int .i64 ((at_ : Int) + ((mx14 z (q.drop at_) : Nat) : Int)))) g z q m w0.heap.size (.slice none 0 0) (at_ + mx14 z (q.drop at_)) ag2 at_ (at_ + mx14 z (q.drop at_)) ∧ Kp (fun k => k = g) w (W.setCell ⟨g, 4, none⟩ (.int .i64 ((at_ : Int) + ((mx14 z (q.drop at_) : Nat) : Int)))) ∧ W.frozen? ⟨g, 4, none⟩ = false ∧ W.cell? ⟨g, 4, none⟩ = some (.int .i64 (en : Int))) := fun kk W hb => by
        have Sk := HS1.out.drewN kk
        have Sw := Sk.old hb
        have k4 : Kp (fun k => k = g) W (W.setCell ⟨g, 4, none⟩ (.int .i64 ((at_ : Int) + ((mx14 z (q.drop at_) : Nat) : Int)))) := Kp.set (S := fun k => k = g) rfl _
        refine ⟨Sw.setEn _, ?_, ((HK1.out.drewN kk).trans (S' := fun _ => False) (Kp.of_below hb) (fun _ _ e => e.elim)).trans k4 (fun _ _ e => e), Sw.free 4, Sw.cell 4 _ rfl⟩
        rcases hK with ⟨k, _⟩ | ⟨_, k2, k3⟩
        · exact Or.inl ⟨k, by omega, by omega, Or.inl ⟨rfl, by omega⟩⟩
        · exact Or.inr ⟨rfl, by omega, Nat.le_refl _, by omega⟩
      have HBL : Hid (∀ kk, Below w0.heap.size w0 (w1.drewN kk)) := fun kk => (HS1.out.drewN kk).bl
      have HCD : Hid (∀ kk, (w1.drewN kk).cell? ⟨g, 2, none⟩ = some (.pointer (some ⟨x, 0, none⟩))) := fun kk => (HS1.out.drewN kk).cell 2 _ rfl
      rw [← hr] at HLG
      have hrb : r ≤ 16777216 := by omega
      have hMb : mx14 z (q.drop at_) ≤ m := by omega
      by_cases hE0 : 0 < E
      · have hage : (ag : Int) + E = (ag2 : Int) := by omega
        have hagew : IntKind.i64.wrap ((ag : Int) + E) = (ag2 : Int) := by rw [hage]; exact IntWalk.i64_in _ (by omega)
        clear h hI hq hq1 hK HSL HDL hS hr hag2 hM6 m16 hE hage hst
        generalize mx14 z (q.drop at_) = M at *
        go_enter Try.func45, Try.ntmps45
        go_wp2_with fail
        go_region
        rw [← HW1.out]
        go_wp2_with fail
        go_quiet (fail)
        have e2 := HCD.out
        go_wp2_with (first
          | (go_at_call 54; refine (HLG.out _ _ (HBL.out _)).mono ?_; rintro e5 w5 ⟨rfl, B5⟩; obtain ⟨j1, j2, j3, y1, y2⟩ := HFN.out _ w5 B5; have HJ1 : Hid (Sn15 w0 (w5.setCell ⟨g, 4, none⟩ (.int .i64 ((at_ : Int) + (M : Int)))) g x za nz zc (some ⟨qb, qo, none⟩) m qc (at_ + M) (ag2) (.slice none 0 0) ar le d b sh at_ n sc mk st) := j1; have HJ2 : Hid (Kw15 S (w5.setCell ⟨g, 4, none⟩ (.int .i64 ((at_ : Int) + (M : Int)))) g z q m w0.heap.size (.slice none 0 0) (at_ + M) ag2 at_ (at_ + M)) := j2; have HJ3 : Hid (Kp (fun k => k = g) w (w5.setCell ⟨g, 4, none⟩ (.int .i64 ((at_ : Int) + (M : Int))))) := j3; clear j1 j2 j3 B5))
        go_ret
        exact ⟨rfl, at_ + M, ag2, _, HJ1.out, HJ2.out, HJ3.out⟩
      · have hage : ag2 = ag := by omega
        subst hage
        clear h hI hq hq1 hK HSL HDL hS hr hag2 hM6 m16 hE hst
        generalize mx14 z (q.drop at_) = M at *
        go_enter Try.func45, Try.ntmps45
        go_wp2_with fail
        go_region
        rw [← HW1.out]
        go_wp2_with fail
        go_quiet (fail)
        have e2 := HCD.out
        go_wp2_with (first
          | (go_at_call 54; refine (HLG.out _ _ (HBL.out _)).mono ?_; rintro e5 w5 ⟨rfl, B5⟩; obtain ⟨j1, j2, j3, y1, y2⟩ := HFN.out _ w5 B5; have HJ1 : Hid (Sn15 w0 (w5.setCell ⟨g, 4, none⟩ (.int .i64 ((at_ : Int) + (M : Int)))) g x za nz zc (some ⟨qb, qo, none⟩) m qc (at_ + M) (ag2) (.slice none 0 0) ar le d b sh at_ n sc mk st) := j1; have HJ2 : Hid (Kw15 S (w5.setCell ⟨g, 4, none⟩ (.int .i64 ((at_ : Int) + (M : Int)))) g z q m w0.heap.size (.slice none 0 0) (at_ + M) ag2 at_ (at_ + M)) := j2; have HJ3 : Hid (Kp (fun k => k = g) w (w5.setCell ⟨g, 4, none⟩ (.int .i64 ((at_ : Int) + (M : Int))))) := j3; clear j1 j2 j3 B5))
        go_ret
        exact ⟨rfl, at_ + M, ag2, _, HJ1.out, HJ2.out, HJ3.out⟩
end
end Go.Proofs.Ytbjjddoeilhomaa
