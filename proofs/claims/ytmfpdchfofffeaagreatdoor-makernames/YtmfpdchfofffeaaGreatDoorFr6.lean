import Derived.Test.YtmfpdchfofffeaaGreatDoorFr5
namespace Go.Proofs.YtmfpdchfofffeaaGreatDoor
open Go.RowKit Go.Shelf
set_option linter.unusedVariables false
structure Bx18 (w : World) (h : Hd18) (wA : World) (b4 : Nat) : Prop where
  wa : w.alloc (.cells #[.int .i64 h.o, .int .i64 h.n, .int .u32 h.so, .int .u32 h.sn, .int .i64 h.wi, .int .i64 h.lo] 51) = wA
  b : w.heap.size = b4
  q : wA.heap[b4]? = some (.cells h.cs 51 (0, 0))
  bl : Below w.heap.size w wA
  sz : wA.heap.size = w.heap.size + 1
theorem bx18 (w : World) (h : Hd18) : ∃ wA b4, Bx18 w h wA b4 := by
  have cA := cb16 w h.cs 51
  exact ⟨_, _, rfl, rfl, cA.cl, cA.bl, cA.sz⟩
structure Cl18 (V : World) (b4 : Nat) (h : Hd18) : Prop where
  c0 : V.cell? ⟨b4, 0, none⟩ = some (.int .i64 h.o)
  c1 : V.cell? ⟨b4, 1, none⟩ = some (.int .i64 h.n)
  c2 : V.cell? ⟨b4, 2, none⟩ = some (.int .u32 h.so)
  c3 : V.cell? ⟨b4, 3, none⟩ = some (.int .u32 h.sn)
  c4 : V.cell? ⟨b4, 4, none⟩ = some (.int .i64 h.wi)
  c5 : V.cell? ⟨b4, 5, none⟩ = some (.int .i64 h.lo)
theorem cl18 {V : World} {b4 : Nat} {h : Hd18} (q : V.heap[b4]? = some (.cells h.cs 51 (0, 0))) : Cl18 V b4 h := ⟨cell18 q rfl, cell18 q rfl, cell18 q rfl, cell18 q rfl, cell18 q rfl, cell18 q rfl⟩
theorem Bx18.cl {w wA : World} {h : Hd18} {b4 : Nat} (x : Bx18 w h wA b4) {V : World} (hV : Below wA.heap.size wA V) : Cl18 V b4 h := cl18 ((hV.block _ (Array.getElem?_eq_some_iff.1 x.q).1).trans x.q)
open Classical in
noncomputable def win18 (h : Hd18) : Int := if h.Ok then (h.n + h.wi - 1) / h.wi else 0
set_option maxRecDepth 100000 in
theorem pwin18 (h : Hd18) (w : World) : Calls Tryz.prog 68 #[.agg #[.int .i64 h.o, .int .i64 h.n, .int .u32 h.so, .int .u32 h.sn, .int .i64 h.wi, .int .i64 h.lo]] w fun e w' => e = .returned (.int .i64 (win18 h)) ∧ Below w.heap.size w w' := by
  obtain ⟨wA, b4, X⟩ := bx18 w h
  have HX : Hid (Bx18 w h wA b4) := X
  have CK := pchk18 h wA
  obtain ⟨a0, a1, a2, a3, a4, a5⟩ := X.cl (Below.refl _ _)
  rw [← X.wa] at a0 a1 a2 a3 a4 a5
  rw [← X.b] at a0 a1 a2 a3 a4 a5
  unfold win18
  by_cases hk : h.Ok
  · rw [if_pos hk]
    rw [if_pos hk] at CK
    obtain ⟨x0, x1, x2, x3⟩ := hk
    have HCL : Hid (∀ V, Below wA.heap.size wA V → Cl18 V b4 h) := fun V hV => X.cl hV
    clear X
    have hw1 : IntKind.i64.wrap (h.n + h.wi) = h.n + h.wi := IntWalk.i64_in _ (by omega)
    have hw2 : IntKind.i64.wrap (h.n + h.wi - 1) = h.n + h.wi - 1 := IntWalk.i64_in _ (by omega)
    have hne : ¬ h.wi = 0 := by omega
    have hne2 : (h.wi == 0) = false := by simp [hne]
    have hd0 : 0 ≤ h.n + h.wi - 1 := by omega
    have hdv : Int.tdiv (h.n + h.wi - 1) h.wi = (h.n + h.wi - 1) / h.wi := by rw [Int.tdiv_eq_ediv_of_nonneg hd0]
    have hq : IntKind.i64.wrap ((h.n + h.wi - 1) / h.wi) = (h.n + h.wi - 1) / h.wi := IntWalk.i64_in _ (by
      have := Int.ediv_nonneg hd0 (show 0 ≤ h.wi by omega)
      have := Int.ediv_le_self (a := h.n + h.wi - 1) h.wi hd0
      omega)
    clear x0 x1 x2 x3
    go_enter Tryz.func68, Tryz.ntmps68
    go_wp2_with fail
    rw [HX.out.wa, HX.out.b]
    refine CK.mono ?_
    rintro e1 w1 ⟨rfl, b1⟩
    clear a0 a1 a2 a3 a4 a5
    obtain ⟨a0, a1, a2, a3, a4, a5⟩ := HCL.out w1 b1
    go_wp2_with fail
    go_ret
    exact ⟨rfl, HX.out.bl.trans (b1.mono HX.out.bl.size)⟩
  · rw [if_neg hk]
    rw [if_neg hk] at CK
    clear X hk
    go_enter Tryz.func68, Tryz.ntmps68
    go_wp2_with fail
    rw [HX.out.wa, HX.out.b]
    refine CK.mono ?_
    rintro e1 w1 ⟨rfl, b1⟩
    go_wp2_with fail
    go_ret
    exact ⟨rfl, HX.out.bl.trans (b1.mono HX.out.bl.size)⟩
end Go.Proofs.YtmfpdchfofffeaaGreatDoor
