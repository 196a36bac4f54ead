import Derived.Test.YtmfpdchfofffeaaGreatDoorMkA
import Derived.Test.YtmfpdchfofffeaaGreatDoorFq6
import Derived.Defers
import Derived.Recover
namespace Go.Proofs.YtmfpdchfofffeaaGreatDoor
open Go.RowKit Go.Shelf
set_option linter.unusedVariables false
set_option linter.unusedSimpArgs false
theorem pcatch20 (a0 : Value) (w : World) :
    CallsD Tryz.prog 39 #[a0] .returning w fun e u' w' => e = .returned (.tuple #[]) ∧ u' = .returning ∧ w' = w := by
  refine callsD_of_wpS Tryz.func39 rfl fun c₀ cs hu => ?_
  apply wpS_seq
  apply wpS_region
  simp [wpOpsS, go_sem, recoverD, hu, Tryz.ntmps39, Exit.thenS]
  refine wpS_of_wp ?_
  go_wp2
  cases c₀
  simp_all [bodyPostS, results, Tryz.results39]
def fv20 (fs : List Nat) : Array Value := (fs.map fun f => Value.func (.func f) #[] #[]).toArray
theorem fv20_get {fs : List Nat} {i : Nat} (h : i < fs.length) : (fv20 fs)[i]? = some (.func (.func (fs.getD i 0)) #[] #[]) := by
  simp [fv20, h]
theorem results_c20 {P : Program} {fn : Func} {p : Tmp} {ty : TypeId} (h : fn.results = #[.cell p ty]) (tmps : Array Value) (w : World) (g : Nat) (v : Value)
    (hp : tmps.getD p undef = .pointer (some ⟨g, 0, none⟩)) (hl : (loadVar ty ⟨g, 0, none⟩).run P w = .ok v w) :
    (results fn tmps).run P w = .ok v w := by
  have e : (results fn tmps).run P w = ((asAddr (tmps.getD p undef)).run P w).andThen fun a w₁ => (loadVar ty a).run P w₁ := by
    simp only [results, h]
    simp [Sem.run_bind, Result.andThen]
  rw [e, hp]
  simp [asAddr, Result.andThen, hl]
set_option maxRecDepth 100000 in
set_option maxHeartbeats 4000000 in
theorem prun20 (b pa n pc : Nat) (fs : List Nat) (I : Nat → World → Prop) (w : World) (pt : TypeId) (hn : Hid (fs.length = n)) (hnb : n ≤ 100) (hpc : n ≤ pc) (hb : b < w.heap.size) (hpb : pa ≠ b)
    (hq : w.heap[pa]? = some (.cells (fv20 fs) pt (0, 0))) (hcf : Hid (∀ f ∈ fs, ∀ x W, (callFunc f x).run Tryz.prog W = .ok (.enter f x) W))
    (h0 : Hid (∀ V, Below w.heap.size w V → w.heap.size < V.heap.size → I 0 V))
    (hs : Hid (∀ i, i < n → ∀ V, I i V → Calls Tryz.prog (fs.getD i 0) #[.pointer (some ⟨b, 0, none⟩)] V fun e V' => e = .returned (.tuple #[]) ∧ I (i + 1) V' ∧ Kp (fun k => k = b) V V')) :
    Calls Tryz.prog 19 #[.pointer (some ⟨b, 0, none⟩), .slice (some ⟨pa, 0, none⟩) n pc] w fun e w' => e = .returned (.int .i64 0) ∧ ∃ V, I n V ∧ Kp (fun k => k = w.heap.size) V w' ∧ Kp (fun k => k = b) w w' ∧ w.heap.size < V.heap.size := by
  have hmf : ∀ (fn : Fn) (first cap : Array Value) (w : World), (Instr.makeFunc fn first cap).run Tryz.prog w = .ok (.func fn first cap) w := fun _ _ _ _ => rfl
  obtain ⟨w1, hw1⟩ : ∃ w1, w1 = w.alloc (.cells #[.int .i64 0] 22) := ⟨_, rfl⟩
  have c1 := cb16 w #[.int .i64 0] 22
  rw [← hw1] at c1
  obtain ⟨g, hg⟩ : ∃ g, g = w.heap.size := ⟨_, rfl⟩
  have HW : Hid (w.alloc (.cells #[.int .i64 0] 22) = w1 ∧ w.heap.size = g) := ⟨hw1.symm, hg.symm⟩
  have HC : Hid (Cb16 w #[.int .i64 0] 22 w1) := c1
  have HQ : Hid (∀ V, Kp (fun k => k = b) w1 V → V.heap[g]? = some (.cells #[.int .i64 0] 22 (0, 0)) ∧ ∀ i, i < n → V.cell? ⟨pa, i, none⟩ = some (.func (.func (fs.getD i 0)) #[] #[])) := fun V hV => by
    refine ⟨hV.heap (by rw [hg]; exact c1.cl) (fun x => by have x : g = b := x; omega), fun i hi => ?_⟩
    have q := hV.heap ((c1.bl.block _ (Array.getElem?_eq_some_iff.1 hq).1).trans hq) (fun x => hpb x)
    exact cell18 q (fv20_get (by rw [hn.out]; exact hi))
  have HB : Hid (b < g ∧ n ≤ 100 ∧ n ≤ pc) := ⟨by omega, hnb, hpc⟩
  clear hw1 c1 hg hb hpb hq hnb hpc
  go_enter_defers Tryz.func19, Tryz.ntmps19
  go_wp2_with fail
  rw [HW.out.1, HW.out.2]
  go_loopw [10] (fun t10 V => ∃ i : Nat, i ≤ n ∧ t10 = .int .i64 (i : Int) ∧ I i V ∧ Kp (fun k => k = b) w1 V) (fun t10 _ => n - (intOf t10).toNat)
  case atStart => exact ⟨0, Nat.zero_le _, rfl, h0.out _ HC.out.bl (by have := HC.out.sz; omega), Kp.refl _ _⟩
  case round =>
    obtain ⟨i, hi, rfl, hI, hK⟩ := hrel
    have HI : Hid (I i wr ∧ Kp (fun k => k = b) w1 wr) := ⟨hI, hK⟩
    clear hI hK
    by_cases hin : i < n
    · have hlt : (i : Int) < (n : Int) := by omega
      have hix : IntKind.i64.wrap ((i : Int) + 1) = (i : Int) + 1 := IntWalk.i64_in _ (by have := HB.out; omega)
      have c := (HQ.out wr HI.out.2).2 i hin
      have hcf1 : ∀ x W, (callFunc (fs.getD i 0) x).run Tryz.prog W = .ok (.enter (fs.getD i 0) x) W := hcf.out _ (by
        have := hn.out
        rw [List.getD_eq_getElem?_getD, List.getElem?_eq_getElem (by omega)]
        exact List.getElem_mem _)
      have CJ := hs.out i hin wr HI.out.1
      generalize fs.getD i 0 = f at *
      go_wp2_with fail
      refine CJ.mono ?_
      rintro e5 w5 ⟨rfl, i5, k5⟩
      have H5 : Hid (I (i + 1) w5 ∧ Kp (fun k => k = b) w1 w5) := ⟨i5, HI.out.2.trans k5 (fun _ _ x => x)⟩
      clear c CJ i5 k5
      go_wp2_with fail
      go_roundw
      case rel => exact ⟨i + 1, by omega, by first | rfl | simp, H5.out.1, H5.out.2⟩
      case measure => simp [intOf]; omega
    · have hge : ¬ (i : Int) < (n : Int) := by omega
      obtain rfl : i = n := by omega
      have q := (HQ.out wr HI.out.2).1
      have d0 : wr.cell? ⟨g, 0, none⟩ = some (.int .i64 0) := cell18 q rfl
      have f0 : wr.frozen? ⟨g, 0, none⟩ = false := by simp [World.frozen?, q]
      have HP : Hid ((∃ V, I i V ∧ Kp (fun k => k = w.heap.size) V (wr.setCell ⟨g, 0, none⟩ (.int .i64 0)) ∧ Kp (fun k => k = b) w (wr.setCell ⟨g, 0, none⟩ (.int .i64 0)) ∧ w.heap.size < V.heap.size) ∧ (wr.setCell ⟨g, 0, none⟩ (.int .i64 0)).heap[g]? = some (.cells #[.int .i64 0] 22 (0, 0))) := by
        have hgw := HW.out.2
        refine ⟨⟨wr, HI.out.1, Kp.set (S := fun k => k = w.heap.size) hgw.symm _, ?_, by have := HI.out.2.size; have := HC.out.sz; omega⟩, ?_⟩
        · have k1 : Kp (fun k => k = b ∨ w.heap.size ≤ k) w wr := (Kp.of_below (S := fun k => k = b ∨ w.heap.size ≤ k) HC.out.bl).trans HI.out.2 (fun _ _ x => .inl x)
          have k2 : Kp (fun k => k = b ∨ w.heap.size ≤ k) w (wr.setCell ⟨g, 0, none⟩ (.int .i64 0)) := k1.trans (Kp.set (S := fun k => k = g) rfl _) (fun _ _ x => .inr (by have x : _ = g := x; omega))
          exact ⟨k2.os, k2.tape, k2.output, k2.size, fun k hk hn => k2.block k hk (fun x => by rcases x with x | x; exact hn x; omega)⟩
        · simp [World.setCell, Array.getElem?_modify, q]
      clear q
      go_wp2_with fail
      obtain ⟨w9, hw9⟩ : ∃ w9, w9 = wr.setCell ⟨g, 0, none⟩ (.int .i64 0) := ⟨_, rfl⟩
      rw [← hw9]
      have hp := HP.out
      rw [← hw9] at hp
      have g2 : w9.cell? ⟨g, 0, none⟩ = some (.int .i64 0) := cell18 hp.2 rfl
      refine leaves_cons (f := 39) (args := #[.pointer (some ⟨g, 0, none⟩)]) (by simp) (by simp [go_sem]) ?_
      refine (pcatch20 _ _).mono ?_
      rintro e u' w'' ⟨rfl, rfl, rfl⟩
      refine ⟨.int .i64 0, ?_, ?_⟩
      · exact results_c20 rfl _ _ g _ rfl (by simp [loadVar, go_sem, g2, Tryz.underlying22])
      · exact ⟨rfl, hp.1⟩
end Go.Proofs.YtmfpdchfofffeaaGreatDoor
