import Derived.Test.YtmfpdchfofffeaaGreatDoorPe
import Derived.RangeFuncNested
import Derived.RangeFuncBound
import Derived.RangeFuncCalls
import Derived.RangeFuncLeaves
import Derived.Shelf.Abstract
import Derived.WalkKit
import Derived.OwnWalkIn
import Derived.TacticsInMore
import Derived.LoopNIn
import Derived.LoopIn
import Derived.Test.YtmfpdchfofffeaaGreatDoorProg
import Derived.Test.YtmfpdchfofffeaaGreatDoorPa
namespace Go.Proofs.YtmfpdchfofffeaaGreatDoor
open Go.RowKit
set_option linter.unusedVariables false
structure Rk13 (w : World) (gb gr n : Nat) (A : List Nat) : Prop where
  box : w.heap[gb]? = some (.cells #[.slice (some ⟨gr, 0, none⟩) (n + 1) (n + 1)] 95 (0, 0))
  rks : Rz12 w gr (rr13 n A)
structure Ix13 (w : World) (b : Nat) (da : Option Addr) (dc : Nat) (aa : Option Addr) (ac gb gr n : Nat) (z : List Int) (A : List Nat) : Prop where
  hp : w.heap[b]? = some (.cells #[.slice da n dc, .slice aa n ac, .func (.func 123) #[] #[.pointer (some ⟨gb, 0, none⟩)]] 139 (0, 0))
  dat : Seg w da z
  nil : da = none → dc = 0
  dle : n ≤ dc
  arr : SegZ w aa (nz12 A)
  anil : aa = none → ac = 0
  ale : n ≤ ac
  rk : Rk13 w gb gr n A
  len : z.length = n
  n24 : n ≤ 16777216
  ar : Ar12 n (S12 z) A
theorem Rk13.old {w w' : World} {gb gr n : Nat} {A : List Nat} (h : Rk13 w gb gr n A) (hb : Below w.heap.size w w') : Rk13 w' gb gr n A :=
  ⟨(hb.block gb (Array.getElem?_eq_some_iff.1 h.box).1).trans h.box, h.rks.old hb⟩
theorem Ix13.lt {w : World} {b : Nat} {da : Option Addr} {dc : Nat} {aa : Option Addr} {ac gb gr n : Nat} {z : List Int} {A : List Nat} (h : Ix13 w b da dc aa ac gb gr n z A) : b < w.heap.size := (Array.getElem?_eq_some_iff.1 h.hp).1
theorem Ix13.old {w w' : World} {b : Nat} {da : Option Addr} {dc : Nat} {aa : Option Addr} {ac gb gr n : Nat} {z : List Int} {A : List Nat} (h : Ix13 w b da dc aa ac gb gr n z A) (hb : Below w.heap.size w w') : Ix13 w' b da dc aa ac gb gr n z A :=
  ⟨(hb.block b h.lt).trans h.hp, h.dat.old hb, h.nil, h.dle, h.arr.old hb, h.anil, h.ale, h.rk.old hb, h.len, h.n24, h.ar⟩
theorem Ix13.drewN {w : World} {b : Nat} {da : Option Addr} {dc : Nat} {aa : Option Addr} {ac gb gr n : Nat} {z : List Int} {A : List Nat} (h : Ix13 w b da dc aa ac gb gr n z A) (k : Nat) : Ix13 (w.drewN k) b da dc aa ac gb gr n z A :=
  ⟨h.hp, h.dat.drewN k, h.nil, h.dle, h.arr.drewN k, h.anil, h.ale, ⟨h.rk.box, h.rk.rks.drewN k⟩, h.len, h.n24, h.ar⟩
theorem Ix13.drew {w : World} {b : Nat} {da : Option Addr} {dc : Nat} {aa : Option Addr} {ac gb gr n : Nat} {z : List Int} {A : List Nat} (h : Ix13 w b da dc aa ac gb gr n z A) : Ix13 w.drew b da dc aa ac gb gr n z A :=
  ⟨h.hp, h.dat.drew, h.nil, h.dle, h.arr.drew, h.anil, h.ale, ⟨h.rk.box, h.rk.rks.drew⟩, h.len, h.n24, h.ar⟩
theorem Ix13.c0 {w : World} {b : Nat} {da : Option Addr} {dc : Nat} {aa : Option Addr} {ac gb gr n : Nat} {z : List Int} {A : List Nat} (h : Ix13 w b da dc aa ac gb gr n z A) : w.cell? ⟨b, 0, none⟩ = some (.slice da n dc) := three_cell0 h.hp
theorem Ix13.c1 {w : World} {b : Nat} {da : Option Addr} {dc : Nat} {aa : Option Addr} {ac gb gr n : Nat} {z : List Int} {A : List Nat} (h : Ix13 w b da dc aa ac gb gr n z A) : w.cell? ⟨b, 1, none⟩ = some (.slice aa n ac) := three_cell1 h.hp
theorem Ix13.c2 {w : World} {b : Nat} {da : Option Addr} {dc : Nat} {aa : Option Addr} {ac gb gr n : Nat} {z : List Int} {A : List Nat} (h : Ix13 w b da dc aa ac gb gr n z A) : w.cell? ⟨b, 2, none⟩ = some (.func (.func 123) #[] #[.pointer (some ⟨gb, 0, none⟩)]) := three_cell2 h.hp
theorem nz12_get13 {A : List Nat} {i : Nat} (h : i < A.length) : (nz12 A).getD i 0 = ((A.getD i 0 : Nat) : Int) := by simp [nz12, List.getD, h]
theorem nz12_len13 (A : List Nat) : (nz12 A).length = A.length := by simp [nz12]
theorem nz12_bd13 {A : List Nat} {n : Nat} (h : ∀ j ∈ A, j < n) (hn : n ≤ 16777216) : ∀ z ∈ nz12 A, -9223372036854775808 ≤ z ∧ z ≤ 9223372036854775807 := by
  intro z hz
  unfold nz12 at hz
  rw [List.mem_map] at hz
  obtain ⟨j, hj, rfl⟩ := hz
  have := h j hj
  omega
def RkQ13 (w : World) (n : Nat) (A : List Nat) (e : Ending) (w' : World) : Prop := ∃ gb gr, e = .returned (.func (.func 123) #[] #[.pointer (some ⟨gb, 0, none⟩)]) ∧ Rk13 w' gb gr n A ∧ w.heap.size ≤ gb ∧ w.heap.size ≤ gr ∧ Below w.heap.size w w'
set_option maxRecDepth 100000 in
set_option maxHeartbeats 2000000 in
theorem prnk13 (aa : Option Addr) (ac n : Nat) (A : List Nat) (S : Nat → Int) (w : World) (hs : SegZ w aa (nz12 A)) (hA : Ar12 n S A) (hn : n ≤ 16777216) :
    Calls Tryz.prog 84 #[.slice aa n ac] w (RkQ13 w n A) := by
  have hmf : ∀ (fn : Fn) (first cap : Array Value) (w : World), (Instr.makeFunc fn first cap).run Tryz.prog w = .ok (.func fn first cap) w := fun _ _ _ _ => rfl
  have hlA : Hid (A.length = n) := hA.len
  have HAR : Hid (Ar12 n S A) := hA
  have HM := run_make_i12 (n + 1) (by omega) w
  rw [show ((n + 1 : Nat) : Int) = (n : Int) + 1 by omega] at HM
  have i1 : IntKind.i64.wrap ((n : Int) + 1) = (n : Int) + 1 := IntWalk.i64_in _ (by omega)
  have hr0 := Rz12.new w (List.replicate (n + 1) 0)
  have hal : Below w.heap.size w (w.alloc (.cells (vi12 (List.replicate (n + 1) 0)) 3)) := (Below.refl _ _).alloc (Nat.le_refl _) _
  have hz1 : (w.alloc (.cells (vi12 (List.replicate (n + 1) 0)) 3)).heap.size = w.heap.size + 1 := by simp
  rw [← rp13_zero n A] at hr0 hal hz1 HM
  have HSG : Hid (∀ W, Below w.heap.size w W → SegZ W aa (nz12 A)) := fun W b => hs.old b
  have HBX : Hid (∀ W : World, Below w.heap.size w W → W.heap.size = w.heap.size + 1 → Rz12 W w.heap.size (rp13 n A 0) → Rz12 (W.alloc (.cells #[.slice (some ⟨w.heap.size, 0, none⟩) (n + 1) (n + 1)] 95)) w.heap.size (rp13 n A 0) ∧ (W.alloc (.cells #[.slice (some ⟨w.heap.size, 0, none⟩) (n + 1) (n + 1)] 95)).heap[w.heap.size + 1]? = some (.cells #[.slice (some ⟨w.heap.size, 0, none⟩) (n + 1) (n + 1)] 95 (0, 0)) ∧ Below w.heap.size w (W.alloc (.cells #[.slice (some ⟨w.heap.size, 0, none⟩) (n + 1) (n + 1)] 95))) := by
    intro W hb hz hR
    have b2 : Below W.heap.size W (W.alloc (.cells #[.slice (some ⟨w.heap.size, 0, none⟩) (n + 1) (n + 1)] 95)) := (Below.refl _ _).alloc (Nat.le_refl _) _
    refine ⟨hR.old b2, ?_, hb.trans (b2.mono (by omega))⟩
    have := heap_alloc_new W (.cells #[.slice (some ⟨w.heap.size, 0, none⟩) (n + 1) (n + 1)] 95)
    rw [hz] at this
    exact this
  have HB0 := HBX.out _ hal hz1 hr0
  clear HBX hal hr0 hs hA
  generalize hg : w.heap.size = g at *
  generalize hW0 : w.alloc (.cells (vi12 (rp13 n A 0)) 3) = W0 at *
  have HW : Hid (W0 = w.alloc (.cells (vi12 (rp13 n A 0)) 3)) := hW0.symm
  have HG : Hid (w.heap.size = g) := hg
  clear hg hW0
  obtain ⟨N, hN⟩ : ∃ N, N = n + 1 := ⟨_, rfl⟩
  have HN : Hid (N = n + 1) := hN
  rw [← hN] at HM HB0
  have hNi : (N : Int) = (n : Int) + 1 := by omega
  clear hN
  go_enter Tryz.func84, Tryz.ntmps84
  go_wp2_with fail
  go_loopw [12] (fun ti wr => ∃ k : Nat, k ≤ n ∧ ti = .int .i64 k ∧ Rz12 wr g (rp13 n A k) ∧ wr.heap[g + 1]? = some (.cells #[.slice (some ⟨g, 0, none⟩) N N] 95 (0, 0)) ∧ Below g w wr) (fun ti _ => n - (intOf ti).toNat)
  case atStart => exact ⟨0, Nat.zero_le _, rfl, HB0.1, HB0.2.1, HB0.2.2⟩
  case round =>
    obtain ⟨k, hk, rfl, hR, hX, hb2⟩ := hrel
    have cx : wr.cell? ⟨g + 1, 0, none⟩ = some (.slice (some ⟨g, 0, none⟩) N N) := by simp [World.cell?, hX]
    by_cases h1 : k < n
    · have h1i : (k : Int) < (n : Int) := by omega
      obtain ⟨bb, off, rfl, c1⟩ := (HSG.out wr hb2).at_ k (by rw [nz12_len13, hlA.out]; exact h1)
      rw [nz12_get13 (by rw [hlA.out]; exact h1)] at c1
      have hv := HAR.out.get h1
      have k1 := hR.cell (i := A.getD k 0) (by rw [rp13_len]; omega)
      have k2 := hR.free (A.getD k 0)
      have HS1 : Hid (Rz12 (wr.setCell ⟨g, A.getD k 0, none⟩ (.int .i64 (k : Int))) g (rp13 n A (k + 1))) := by
        have := hR.set (A.getD k 0) (k : Int)
        rw [rp13_set HAR.out h1] at this
        exact this
      have KP : Kp (fun j => j = g) wr (wr.setCell ⟨g, A.getD k 0, none⟩ (.int .i64 (k : Int))) := Kp.set (S := fun j => j = g) rfl _
      have HS2 : Hid ((wr.setCell ⟨g, A.getD k 0, none⟩ (.int .i64 (k : Int))).heap[g + 1]? = some (.cells #[.slice (some ⟨g, 0, none⟩) N N] 95 (0, 0))) := KP.heap hX (by omega)
      have HS4 : Hid (Below g w (wr.setCell ⟨g, A.getD k 0, none⟩ (.int .i64 (k : Int)))) := hb2.trans (KP.below (fun j h => by omega) (by have := hR.lt; omega))
      have hvN : ((A.getD k 0 : Nat) : Int) < (N : Int) := by omega
      clear hR KP
      generalize (rp13 n A k).getD (A.getD k 0) 0 = y at *
      generalize A.getD k 0 = v at *
      go_wp2_with fail
      go_roundw
      case rel => exact ⟨k + 1, by omega, by go_num, HS1.out, HS2.out, HS4.out⟩
      case measure => simp [intOf]; omega
    · have h1i : ¬ (k : Int) < (n : Int) := by omega
      obtain rfl : k = n := by omega
      have k1 := hR.cell (i := k) (by rw [rp13_len]; omega)
      have k2 := hR.free k
      have hkN : (k : Int) < (N : Int) := by omega
      have HS1 : Hid (Rz12 (wr.setCell ⟨g, k, none⟩ (.int .i64 (-1))) g (rr13 k A)) := hR.set k (-1)
      have KP : Kp (fun j => j = g) wr (wr.setCell ⟨g, k, none⟩ (.int .i64 (-1))) := Kp.set (S := fun j => j = g) rfl _
      have HS2 : Hid ((wr.setCell ⟨g, k, none⟩ (.int .i64 (-1))).heap[g + 1]? = some (.cells #[.slice (some ⟨g, 0, none⟩) N N] 95 (0, 0))) := KP.heap hX (by omega)
      have HS4 : Hid (Below g w (wr.setCell ⟨g, k, none⟩ (.int .i64 (-1)))) := hb2.trans (KP.below (fun j h => by omega) (by have := hR.lt; omega))
      clear hR KP
      generalize (rp13 k A k).getD k 0 = y at *
      go_wp2_with fail
      go_ret
      have h2 := HS2.out
      rw [HN.out] at h2
      refine ⟨g + 1, g, rfl, ⟨h2, HS1.out⟩, by rw [HG.out]; omega, by rw [HG.out]; omega, by rw [HG.out]; exact HS4.out⟩
def NixQ13 (w : World) (aa : Option Addr) (ac : Nat) (z : List Int) (A : List Nat) (n : Nat) (e : Ending) (w' : World) : Prop := ∃ b da dc gb gr, e = .returned (.pointer (some ⟨b, 0, none⟩)) ∧ Ix13 w' b da dc aa ac gb gr n z A ∧ Below w.heap.size w w' ∧ w.heap.size ≤ b ∧ w.heap.size ≤ gb ∧ w.heap.size ≤ gr ∧ (∀ x off, da = some ⟨x, off, none⟩ → w.heap.size ≤ x)
set_option maxRecDepth 100000 in
set_option maxHeartbeats 2000000 in
theorem pnix13 (xa : Option Addr) (xc : Nat) (aa : Option Addr) (ac n : Nat) (z : List Int) (A : List Nat) (w : World) (hx : Seg w xa z) (hxn : xa = none → xc = 0) (hs : SegZ w aa (nz12 A)) (han : aa = none → ac = 0) (hale : n ≤ ac) (hz : Hid (z.length = n)) (hA : Ar12 n (S12 z) A) (hn : n ≤ 16777216) :
    Calls Tryz.prog 51 #[.slice xa n xc, .slice aa n ac] w (NixQ13 w aa ac z A n) := by
  have HC := pclb13 xa z n xc w hx hz hxn (by omega)
  have HR : Hid (∀ w1, Below w.heap.size w w1 → Calls Tryz.prog 84 #[.slice aa n ac] w1 (RkQ13 w1 n A)) := fun w1 b1 => prnk13 aa ac n A (S12 z) w1 (hs.old b1) hA hn
  have HF : Hid (∀ W, Below w.heap.size w W → SegZ W aa (nz12 A)) := fun W b => hs.old b
  have HA : Hid (Ar12 n (S12 z) A) := hA
  have HV := seg_bd13 hx
  have HV2 : Hid (∀ y ∈ z, 0 ≤ y ∧ y ≤ 255) := HV
  clear hs hA HV hx
  go_enter Tryz.func51, Tryz.ntmps51
  go_wp2_with (first
    | (go_at_call 74; refine HC.mono ?_; rintro e1 w1 ⟨da, dc, rfl, hnil, hown, B1⟩)
    | (go_at_call 84; refine (HR.out w1 B1).mono ?_; rintro e2 w2 ⟨gb, gr, rfl, hrk, hgb, hgr, B2⟩))
  go_ret
  have S1 := B1.size
  have S2 := B2.size
  have B12 : Below w.heap.size w w2 := B1.trans (B2.mono S1)
  have B3 : Below w2.heap.size w2 (w2.alloc (.cells #[.slice da n dc, .slice aa n ac, .func (.func 123) #[] #[.pointer (some ⟨gb, 0, none⟩)]] 139)) := (Below.refl _ _).alloc (Nat.le_refl _) _
  have hseg := own_seg13 hown HV2.out
  refine ⟨w2.heap.size, da, dc, gb, gr, rfl, ⟨heap_alloc_new w2 _, (hseg.old B2).old B3, fun h => (hnil h).1, own_le13 hown, (HF.out w2 B12).old B3, han, hale, hrk.old B3, hz.out, hn, HA.out⟩, B12.trans (B3.mono (by omega)), by omega, by omega, by omega, ?_⟩
  intro x off hda
  subst hda
  rcases hown.2 with ⟨h1, _⟩ | ⟨g, cp, cur, hv, hg, _⟩
  · cases h1
  · simp only [Value.slice.injEq, Option.some.injEq] at hv
    obtain ⟨h1, _⟩ := hv
    cases h1
    exact hg
def NewQ13 (w : World) (z : List Int) (n : Nat) (e : Ending) (w' : World) : Prop := ∃ b da dc aa ac gb gr A, e = .returned (.tuple #[.pointer (some ⟨b, 0, none⟩), .int .i64 0]) ∧ Ix13 w' b da dc aa ac gb gr n z A ∧ Below w.heap.size w w' ∧ w.heap.size ≤ b ∧ w.heap.size ≤ gb ∧ w.heap.size ≤ gr ∧ (∀ x off, da = some ⟨x, off, none⟩ → w.heap.size ≤ x) ∧ (∀ x off, aa = some ⟨x, off, none⟩ → w.heap.size ≤ x)
set_option maxRecDepth 100000 in
set_option maxHeartbeats 2000000 in
theorem pnew13 (a : Option Addr) (z : List Int) (n cap : Nat) (w : World) (hs : Seg w a z) (hnil : a = none → cap = 0) (hn : Hid (z.length = n)) (hb : n ≤ 16777216) :
    Calls Tryz.prog 32 #[.slice a n cap] w (NewQ13 w z n) := by
  have HS := psort13 a z n cap w hs hn hb
  have HX : Hid (∀ w1 g A, Below w.heap.size w w1 → Rz12 w1 g (nz12 A) → Ar12 n (S12 z) A → Calls Tryz.prog 51 #[.slice a n cap, .slice (some ⟨g, 0, none⟩) n n] w1 (NixQ13 w1 (some ⟨g, 0, none⟩) n z A n)) :=
    fun w1 g A b1 R hA => pnix13 a cap (some ⟨g, 0, none⟩) n n z A w1 (hs.old b1) hnil (R.seg (nz12_bd13 hA.lt hb)) (by intro h; cases h) (Nat.le_refl _) hn hA hb
  clear hs
  go_enter Tryz.func32, Tryz.ntmps32
  go_wp2_with (first
    | (go_at_call 50; refine HS.mono ?_; rintro e1 w1 ⟨g, A, rfl, RA, hg, hA, B1⟩)
    | (go_at_call 51; refine (HX.out w1 g A B1 RA hA).mono ?_; rintro e2 w2 ⟨b, da, dc, gb, gr, rfl, hI, B2, q1, q2, q3, q4⟩))
  refine bodyPost_ret (results_tmp2 rfl _ _ _) rfl ?_
  have S1 := B1.size
  exact ⟨b, da, dc, _, _, gb, gr, A, rfl, hI, B1.trans (B2.mono S1), by omega, by omega, by omega, fun x off h => Nat.le_trans S1 (q4 x off h), fun x off h => by cases h; exact hg⟩
end Go.Proofs.YtmfpdchfofffeaaGreatDoor

namespace Go.Proofs.YtmfpdchfofffeaaGreatDoor
open Go.RowKit
set_option linter.unusedVariables false
theorem run_neq_func13 {P : Program} (w : World) {t : TypeId} {a b : Array TypeId} {c : Bool} (f : Fn) (x y : Array Value) (h : P.underlying t = some (.func a b c)) :
    (binOp .neq t (.func f x y) .nilFunc).run P w = .ok (.bool true) w := by
  have k : ∀ d : Nat, (Op.equalIn (d + 1) t (.func f x y) .nilFunc).run P w = .ok false w := fun d => by simp [Op.equalIn, run_underlying h]
  simp only [binOp]
  simp [Op.equal, Op.maxDepth, k 9999]
set_option maxRecDepth 100000 in
theorem pmade13 (b : Nat) (da : Option Addr) (dc : Nat) (aa : Option Addr) (ac gb gr n : Nat) (z : List Int) (A : List Nat) (w : World) (h : Ix13 w b da dc aa ac gb gr n z A) :
    Calls Tryz.prog 73 #[.pointer (some ⟨b, 0, none⟩)] w fun e w' => e = .returned (.bool true) ∧ w' = w := by
  have c2 := h.c2
  have HE := fun f x y => run_neq_func13 (P := Tryz.prog) w f x y Tryz.underlying137
  clear h
  go_enter Tryz.func73, Tryz.ntmps73
  go_wp2_with fail
  go_ret
  exact ⟨rfl, rfl⟩
def AnB13 (w : World) (n : Nat) (L : List Int) (e : Ending) (w' : World) : Prop := ∃ ra rc, e = .returned (.slice ra n rc) ∧ (ra = none → rc = 0) ∧ w'.ownsRow w.heap.size 5 1 (.slice ra n rc) n (L.map (Value.int .u8)) ∧ Below w.heap.size w w'
end Go.Proofs.YtmfpdchfofffeaaGreatDoor

namespace Go.Proofs.YtmfpdchfofffeaaGreatDoor
open Go.RowKit
set_option linter.unusedVariables false
def in13 (n : Nat) (P : List Int) : Bool := P.all fun i => decide (0 ≤ i) && decide (i < (n : Int))
theorem in13_take (n : Nat) (P : List Int) (k : Nat) (h : k < P.length) : in13 n (P.take (k + 1)) = (in13 n (P.take k) && (decide (0 ≤ P.getD k 0) && decide (P.getD k 0 < (n : Int)))) := by
  unfold in13
  rw [take_snocZ h, List.all_append]
  simp
theorem in13_no (n : Nat) (P : List Int) (k : Nat) (h : k < P.length) (hv : ¬ (0 ≤ P.getD k 0 ∧ P.getD k 0 < (n : Int))) : in13 n P = false := by
  unfold in13
  rw [List.all_eq_false]
  refine ⟨P[k], List.getElem_mem h, ?_⟩
  have e : P.getD k 0 = P[k] := by simp [List.getD, h]
  rw [e] at hv
  simp only [Bool.and_eq_true, decide_eq_true_eq]
  exact hv
def er13 (n : Nat) (P : List Int) : Int := if in13 n P = true then 0 else 132
set_option maxRecDepth 100000 in
set_option maxHeartbeats 2000000 in
theorem pref13 (b : Nat) (da : Option Addr) (dc : Nat) (aa : Option Addr) (ac gb gr n : Nat) (z : List Int) (A : List Nat) (pa : Option Addr) (P : List Int) (m pc : Nat) (w : World) (h : Ix13 w b da dc aa ac gb gr n z A) (hp : SegZ w pa P) (hm : Hid (P.length = m)) (hmb : m ≤ 100) :
    Calls Tryz.prog 72 #[.pointer (some ⟨b, 0, none⟩), .slice pa m pc] w fun e w' => e = .returned (.int .i64 (er13 n P)) ∧ w' = w := by
  have HMD := pmade13 b da dc aa ac gb gr n z A w h
  have c0 := h.c0
  have hn24 := h.n24
  clear h
  go_enter Tryz.func72, Tryz.ntmps72
  go_wp2_with (first
    | (go_at_call 73; refine HMD.mono ?_; rintro e1 w1 ⟨rfl, hw1⟩; subst hw1))
  go_loopw [12] (fun ti wr => ∃ i : Nat, i ≤ m ∧ ti = .int .i64 i ∧ Hid (in13 n (P.take i) = true) ∧ wr = w1) (fun ti _ => m - (intOf ti).toNat)
  case atStart => exact ⟨0, Nat.zero_le _, rfl, (rfl : in13 n (P.take 0) = true), rfl⟩
  case round =>
    obtain ⟨i, hi, rfl, HI, hw⟩ := hrel
    subst hw
    by_cases h1 : i < m
    · have h1i : (i : Int) < (m : Int) := by omega
      have hl : i < P.length := by rw [hm.out]; exact h1
      obtain ⟨bb, off, rfl, c1⟩ := hp.at_ i hl
      have bd := hp.bd i
      have HNO : Hid (¬ (0 ≤ P.getD i 0 ∧ P.getD i 0 < (n : Int)) → er13 n P = 132) := fun hv => by unfold er13; rw [in13_no n P i hl hv]; rfl
      have HYES : Hid (0 ≤ P.getD i 0 → P.getD i 0 < (n : Int) → in13 n (P.take (i + 1)) = true) := fun h1 h2 => by rw [in13_take n P i hl, HI.out, decide_eq_true h1, decide_eq_true h2]; rfl
      generalize P.getD i 0 = v at *
      by_cases hv0 : v < 0
      · go_wp2_with fail
        go_ret
        exact ⟨by rw [HNO.out (by omega)]; rfl, rfl⟩
      · have hv1 : 0 ≤ v := by omega
        by_cases hvn : v < (n : Int)
        · have hvn2 : ¬ (n : Int) ≤ v := by omega
          go_wp2_with fail
          go_roundw
          case rel => exact ⟨i + 1, by omega, by go_num, HYES.out hv1 hvn, by first | trivial | rfl⟩
          case measure => simp [intOf]; omega
        · have hvn2 : (n : Int) ≤ v := by omega
          go_wp2_with fail
          go_ret
          exact ⟨by rw [HNO.out (by omega)]; rfl, rfl⟩
    · have h1i : ¬ (i : Int) < (m : Int) := by omega
      obtain rfl : i = m := by omega
      have HE : Hid (er13 n P = 0) := by
        show _ = _
        unfold er13
        have e := HI.out
        rw [← hm.out, List.take_length] at e
        rw [e]; rfl
      go_wp2_with fail
      go_ret
      exact ⟨by rw [HE.out]; rfl, rfl⟩
set_option maxRecDepth 100000 in
set_option maxHeartbeats 1000000 in
theorem pdat13 (b : Nat) (da : Option Addr) (dc : Nat) (aa : Option Addr) (ac gb gr n : Nat) (z : List Int) (A : List Nat) (w : World) (h : Ix13 w b da dc aa ac gb gr n z A) :
    Calls Tryz.prog 46 #[.pointer (some ⟨b, 0, none⟩)] w (AnB13 w n z) := by
  have HMD := pmade13 b da dc aa ac gb gr n z A w h
  have c0 := h.c0
  have HC := pclb13 da z n dc w h.dat h.len h.nil (by have := h.n24; omega)
  clear h
  go_enter Tryz.func46, Tryz.ntmps46
  go_wp2_with (first
    | (go_at_call 73; refine HMD.mono ?_; rintro e1 w1 ⟨rfl, hw1⟩; subst hw1)
    | (go_at_call 74; refine HC.mono ?_; rintro e2 w2 ⟨ra, rc, rfl, hnil, hown, B2⟩))
  go_ret
  exact ⟨ra, rc, rfl, fun h => (hnil h).1, hown, B2⟩
theorem segZ_lit13 (w : World) (v : Int) (hv : -9223372036854775808 ≤ v ∧ v ≤ 9223372036854775807) : SegZ (w.alloc (.cells #[.int .i64 v] 3)) (some ⟨w.heap.size, 0, none⟩) [v] :=
  (Rz12.new w [v]).seg (by intro z hz; simp at hz; subst hz; exact hv)
theorem er13_one (n : Nat) (v : Int) : er13 n [v] = if 0 ≤ v ∧ v < (n : Int) then 0 else 132 := by
  unfold er13 in13
  by_cases h1 : 0 ≤ v <;> by_cases h2 : v < (n : Int) <;> simp [h1, h2]
set_option maxRecDepth 100000 in
set_option maxHeartbeats 1000000 in
theorem patn13 (b : Nat) (da : Option Addr) (dc : Nat) (aa : Option Addr) (ac gb gr n : Nat) (z : List Int) (A : List Nat) (r : Int) (w : World) (h : Ix13 w b da dc aa ac gb gr n z A) (hb : -9223372036854775808 ≤ r ∧ r ≤ 9223372036854775807) (hr : ¬ (0 ≤ r ∧ r < (n : Int))) :
    Calls Tryz.prog 45 #[.pointer (some ⟨b, 0, none⟩), .int .i64 r] w fun e w' => e = .returned (.tuple #[.int .i64 0, .int .i64 132]) ∧ Below w.heap.size w w' := by
  have B1 : Below w.heap.size w (w.alloc (.cells #[.int .i64 r] 3)) := (Below.refl _ _).alloc (Nat.le_refl _) _
  have HR := pref13 b da dc aa ac gb gr n z A (some ⟨w.heap.size, 0, none⟩) [r] 1 1 _ (h.old B1) (segZ_lit13 w _ hb) (rfl : _ = _) (by omega)
  rw [er13_one, if_neg hr] at HR
  clear h hr
  go_enter Tryz.func45, Tryz.ntmps45
  go_wp2_with (first
    | (go_at_call 72; refine HR.mono ?_; rintro e1 w2 ⟨rfl, hw1⟩; rw [← hw1] at B1; clear hw1))
  refine bodyPost_ret (results_tmp2 rfl _ _ _) rfl ?_
  exact ⟨rfl, B1⟩
end Go.Proofs.YtmfpdchfofffeaaGreatDoor

namespace Go.Proofs.YtmfpdchfofffeaaGreatDoor
open Go.RowKit Go.Shelf
set_option linter.unusedVariables false
structure Kr16 (D : Nat → Prop) (W W' : World) : Prop where
  size : W.heap.size ≤ W'.heap.size
  block : ∀ k, k < W.heap.size → D k → W'.heap[k]? = W.heap[k]?
theorem Kr16.refl (D : Nat → Prop) (W : World) : Kr16 D W W := ⟨Nat.le_refl _, fun _ _ _ => rfl⟩
theorem Kr16.trans {D : Nat → Prop} {A B C : World} (h : Kr16 D A B) (k : Kr16 D B C) : Kr16 D A C :=
  ⟨Nat.le_trans h.size k.size, fun i hi hd => (k.block i (Nat.lt_of_lt_of_le hi h.size) hd).trans (h.block i hi hd)⟩
theorem Kr16.mono {D D' : Nat → Prop} {A B : World} (h : Kr16 D A B) (hd : ∀ k, D' k → D k) : Kr16 D' A B := ⟨h.size, fun k hk hx => h.block k hk (hd k hx)⟩
theorem Kr16.of_kp {S D : Nat → Prop} {A B : World} (h : Kp S A B) (hd : ∀ k, D k → ¬ S k) : Kr16 D A B := ⟨h.size, fun k hk hx => h.block k hk (hd k hx)⟩
theorem Kr16.heap {D : Nat → Prop} {A B : World} {k : Nat} {o : Obj} (h : Kr16 D A B) (hk : A.heap[k]? = some o) (hd : D k) : B.heap[k]? = some o :=
  (h.block k (Array.getElem?_eq_some_iff.1 hk).1 hd).trans hk
theorem Kr16.cell {D : Nat → Prop} {A B : World} {p : Addr} {v : Value} (h : Kr16 D A B) (hp : A.cell? p = some v) (hd : D p.block) : B.cell? p = some v := by
  rw [World.cell?_of_block (w := A) (h.block p.block (World.block_lt_of_cell? A _ hp) hd)]; exact hp
theorem Kp.put16 {S : Nat → Prop} {W : World} {l : Nat} (hl : S l) (o : Obj) : Kp S W (W.putObj l o) :=
  ⟨rfl, rfl, rfl, by simp [World.putObj], fun k _ hn => World.putObj_heap_other (fun e => hn (e ▸ hl))⟩
/-- Where the iterator's own blocks lie. -/
def Lo16 (B : Nat) (E : Nat → Prop) (W : World) : Prop := ∀ k, E k → B ≤ k ∧ k < W.heap.size
/-- What is said abides the iterator's doings. -/
def Abd16 {β : Type} (B : Nat) (J : β → (Nat → Prop) → World → Prop) : Prop :=
  ∀ s E E' W W', J s E W → Lo16 B E W → Kp E W W' → (∀ k, E k → E' k) → (∀ k, E' k → E k ∨ W.heap.size ≤ k) → Lo16 B E' W' → J s E' W'
/-- What a yield must do. -/
def Yd16 (J : Nat → (Nat → Prop) → World → Prop) (PX : List PanicEntry → (Nat → Prop) → World → Prop) (i : Nat) (E D : Nat → Prop) (W : World) : Ending → World → Prop
  | .returned v, W' => v = .bool true ∧ J (i + 1) E W' ∧ Kr16 D W W'
  | .panicked ch, W' => PX ch E W' ∧ Kr16 D W W'
  | .outgrown, _ => False
/-- How an iterator ends. -/
def Rs16 (J : Nat → (Nat → Prop) → World → Prop) (PX : List PanicEntry → (Nat → Prop) → World → Prop) (m B : Nat) : Ending → World → Prop
  | .returned _, W' => ∃ E, Lo16 B E W' ∧ J m E W'
  | .panicked ch, W' => ∃ E, Lo16 B E W' ∧ PX ch E W'
  | .outgrown, _ => False
/-- An iterator: it tells L, one after the other. -/
def Seq16 (n : Nat) (P : Program) (g : Nat) (lb : Array Value) (L : List (Array Value)) (R : Nat → Prop) (w : World) : Prop :=
  ∀ (l : Nat) (J : Nat → (Nat → Prop) → World → Prop) (PX : List PanicEntry → (Nat → Prop) → World → Prop) (W : World), Kr16 R w W → Abd16 W.heap.size J → Abd16 W.heap.size PX →
    (∀ i v E W1, L[i]? = some v → J i E W1 → Lo16 W.heap.size E W1 → Kr16 R W W1 → YieldAt Fence.wide (n - 1) P l v W1 (Yd16 J PX i E (fun k => E k ∨ R k) W1)) →
    J 0 (fun _ => False) W → CallsIn Fence.wide n P g (#[.func (.yield l) #[] #[]] ++ lb) W (Rs16 J PX L.length W.heap.size)
theorem Seq16.later {n : Nat} {P : Program} {g : Nat} {lb : Array Value} {L : List (Array Value)} {R : Nat → Prop} {w w' : World} (h : Seq16 n P g lb L R w) (hk : Kr16 R w w') : Seq16 n P g lb L R w' :=
  fun l J PX W hW hJ hP hY h0 => h l J PX W (hk.trans hW) hJ hP hY h0

def fn16 (f : FuncId) (P : Program) (c : Code) (Q : Exit → Act → World → Prop) (a : Act) (w : World) : Prop :=
  ∀ (b : Frame) (k : List Item) (cs : List Frame), b.roundOf = none → b.fn = f →
    ∃ e a' w', Q e a' w' ∧ ArrivesIn (Machine.fenced P Fence.wide) P (lone (b.atR a (.code c :: k)) cs w) b k cs e a' w'
theorem calm16 {P : Program} (m : Machine) : Machine.fenced P Fence.wide m := fenced_wide P m
theorem fn16_of {f : FuncId} {P : Program} {c : Code} {Q : Exit → Act → World → Prop} {a : Act} {w : World} {n : Nat} (h : c.wpIn Fence.wide n P Q a w) : fn16 f P c Q a w :=
  fun b k cs hro _ => h b k cs hro trivial (room_wide _)
theorem fn16_seq {f : FuncId} {P : Program} {x y : Code} {Q : Exit → Act → World → Prop} {a : Act} {w : World} (h : fn16 f P x (Exit.then (fn16 f P y Q) Q) a w) : fn16 f P (.seq x y) Q a w := by
  intro b k cs hro hb
  have h0 : (lone (b.atR a (.code (.seq x y) :: k)) cs w).fenced P Fence.wide := calm16 _
  obtain ⟨e, a₁, w₁, hq, harr⟩ := h b (.code y :: k) cs hro hb
  cases e with
  | normal =>
    obtain ⟨e₂, a₂, w₂, hq₂, harr₂⟩ := hq b k cs hro hb
    exact ⟨e₂, a₂, w₂, hq₂, .of_steps (.head h0 stepR_seq harr) harr₂⟩
  | exit id => exact ⟨_, a₁, w₁, hq, .of_steps (.one h0 stepR_seq) (.pass (x := .code y) rfl (fun _ _ => .inl (by simp)) harr)⟩
  | goto l => exact ⟨_, a₁, w₁, hq, .of_steps (.one h0 stepR_seq) (.pass (x := .code y) rfl (fun _ _ => .inl (by simp)) harr)⟩
  | ret => exact ⟨_, a₁, w₁, hq, .of_steps (.one h0 stepR_seq) (.pass (x := .code y) rfl (fun _ _ => .inl (by simp)) harr)⟩
  | panic ch => exact ⟨_, a₁, w₁, hq, .of_steps (.one h0 stepR_seq) (.pass (x := .code y) rfl (fun _ _ => .inl (by simp)) harr)⟩
  | outgrown => exact ⟨_, a₁, w₁, hq, .of_steps (.one h0 stepR_seq) (.pass (x := .code y) rfl (fun _ _ => .inl (by simp)) harr)⟩
theorem fn16_block {f : FuncId} {P : Program} {id : Nat} {c : Code} {Q : Exit → Act → World → Prop} {a : Act} {w : World} (h : fn16 f P c (Exit.inBlock id Q) a w) : fn16 f P (.block id c) Q a w := by
  intro b k cs hro hb
  have h0 : (lone (b.atR a (.code (.block id c) :: k)) cs w).fenced P Fence.wide := calm16 _
  obtain ⟨e, a₁, w₁, hq, harr⟩ := h b (.inBlock id :: k) cs hro hb
  cases e with
  | normal => exact ⟨.normal, a₁, w₁, hq, .head h0 stepR_block (StepsIn.trans harr (.one (calm16 _) stepR_inBlock))⟩
  | exit id' =>
    by_cases hid : id' = id
    · simp only [Exit.inBlock, hid, if_true] at hq
      exact ⟨.normal, a₁, w₁, hq, .head h0 stepR_block (harr.1 k (by simp [exitTo, hid]))⟩
    · simp only [Exit.inBlock, hid, if_false] at hq
      have this : (id == id') = false := by simp; exact fun h => hid h.symm
      have hx : exitTo id' (.inBlock id :: k) = exitTo id' k := by simp [exitTo, this]
      exact ⟨.exit id', a₁, w₁, hq, fun k' hk => .head h0 stepR_block (harr.1 k' (by rw [hx]; exact hk)),
        fun hr' hk => let ⟨k₁, h1, h2⟩ := harr.2 hr' (by rw [hx]; exact hk); ⟨k₁, h1, .head h0 stepR_block h2⟩⟩
  | goto l =>
    have hx : gotoIn l (.inBlock id :: k) = gotoIn l k := by simp [gotoIn]
    exact ⟨_, a₁, w₁, hq, fun k' hk => .head h0 stepR_block (harr.1 k' (by rw [hx]; exact hk)),
      fun hr' hk => let ⟨k₁, h1, h2⟩ := harr.2 hr' (by rw [hx]; exact hk); ⟨k₁, h1, .head h0 stepR_block h2⟩⟩
  | ret => exact ⟨_, a₁, w₁, hq, .of_steps (.one h0 stepR_block) harr⟩
  | panic ch => exact ⟨_, a₁, w₁, hq, .of_steps (.one h0 stepR_block) harr⟩
  | outgrown => exact ⟨_, a₁, w₁, hq, .of_steps (.one h0 stepR_block) harr⟩
theorem callsIn_of_fn16 {P : Program} {n : Nat} {f : FuncId} {fn : Func} {c : Code} {args : Array Value} {w : World} {R : Ending → World → Prop}
    (hf : P.funcs[f]? = some fn) (hb : fn.body = some c)
    (h : fn16 f P c (bodyPostM Fence.wide n P fn R) { tmps := args ++ Array.replicate (fn.ntmps - args.size) undef, defers := [] } w) : CallsIn Fence.wide n P f args w R := by
  refine ⟨trivial, fun cs hr => ?_⟩
  let b : Frame := { (default : Frame) with fn := f, kind := .normal, roundOf := none }
  have henter : Frame.enter P f args .normal =
      b.atR { tmps := args ++ Array.replicate (fn.ntmps - args.size) undef, defers := [] } [.code c] := by
    simp [Frame.enter, Frame.atR, hf, hb, b]
  obtain ⟨e, a', w', hq, harr⟩ := h b [] cs rfl rfl
  rw [← henter] at harr
  cases e with
  | normal =>
    obtain ⟨e', w'', fr', hR, hs, hfn, hl⟩ := leaves_stepsInM a'.defers .returning w' { b.atR a' [] with mode := .returning } cs rfl rfl rfl hf rfl trivial hr hq
    exact ⟨e', w'', fr', hR, ComesIn.of_steps (StepsIn.trans harr (.one (calm16 _) (stepR_end rfl))) hs, hfn, hl⟩
  | ret =>
    obtain ⟨todo, hs₀⟩ := harr.1 rfl
    obtain ⟨e', w'', fr', hR, hs, hfn, hl⟩ := leaves_stepsInM a'.defers .returning w' { b.atR a' todo with mode := .returning } cs rfl rfl rfl hf rfl trivial hr hq
    exact ⟨e', w'', fr', hR, ComesIn.of_steps hs₀ hs, hfn, hl⟩
  | panic chain =>
    obtain ⟨todo, hs₀⟩ := harr
    obtain ⟨e', w'', fr', hR, hs, hfn, hl⟩ := leaves_stepsInM a'.defers (.panicking chain) w' { b.atR a' todo with mode := .panicking chain } cs rfl rfl rfl hf rfl trivial hr hq
    exact ⟨e', w'', fr', hR, ComesIn.of_steps hs₀ hs, hfn, hl⟩
  | exit id => exact hq.elim
  | goto l => exact hq.elim
  | outgrown => exact ⟨.outgrown, w', b, hq, harr.resolve_left (by simp [b]), rfl, trivial⟩
theorem fn16_rangeFunc {f : FuncId} {P : Program} {n : Nat} {g : Operand} {ps : Array Tmp} {assign body : Code} {Q : Exit → Act → World → Prop} {a : Act} {w : World}
    (h : ∃ (l : Nat) (mark : List Deferred) (w₁ : World) (d : Deferred) (w₁' : World) (fg : FuncId) (args : Array Value) (w₂ : World),
      (Instr.enterLoop f a.tmps ps assign body none).run P w = .ok (l, mark) w₁ ∧
      (resolve a.eval (rangeCall g l) 0).run P w₁ = .ok d w₁' ∧
      (invoke d.target d.args).run P w₁' = .ok (.enter fg args) w₂ ∧
      CallsIn Fence.wide n P fg args w₂ (rangePost Fence.wide n P l Q { a with defers := mark ++ a.defers })) :
    fn16 f P (Code.rangeFunc g ps assign body) Q a w := by
  intro b k cs hro hb
  obtain ⟨l, mark, w₁, d, w₁', fg, args, w₂, he, hres, hinv, hF, hcall⟩ := h
  subst hb
  rw [← hro] at he
  have h0 : (lone (b.atR a (.code (.rangeFunc g ps assign body) :: k)) cs w).fenced P Fence.wide := calm16 _
  have henter := stepR_rangeFunc (P := P) (b := b) (a := a) (k := k) (cs := cs) (w := w) he hres hinv
  obtain ⟨e, w₃, fr, hR, hsteps, hfn, hleave⟩ := hcall (b.atR { a with defers := mark ++ a.defers } (.inRangeFunc l :: k) :: cs) (room_wide _)
  cases e with
  | outgrown =>
    obtain ⟨a₀, w₀, hq⟩ := hR
    exact ⟨.outgrown, a₀, w₀, hq, .inr (Outgrown.of_steps (.one henter) hsteps)⟩
  | returned v =>
    obtain ⟨jump, w₄, hend, hj⟩ := hR
    have sback : StepsIn (Machine.fenced P Fence.wide) P (lone (b.atR a (.code (.rangeFunc g ps assign body) :: k)) cs w) (lone (b.atR { a with defers := mark ++ a.defers } ((jump.map Item.code).toList ++ k)) cs w₄) := by
      refine .head h0 henter (StepsIn.trans hsteps (.head (calm16 _) ?_ (.one (calm16 _) (stepR_endRangeFunc hend))))
      rw [← finish_atR_inRangeFunc l v]; exact step_leave_returned hleave
    cases jump with
    | none => exact ⟨.normal, _, w₄, hj, sback⟩
    | some c =>
      obtain ⟨e', a'', w₅, hq, harr⟩ := hj b k cs hro trivial (room_wide _)
      exact ⟨e', a'', w₅, hq, .of_steps sback harr⟩
  | panicked chain =>
    refine ⟨.panic chain, _, w₃, hR, .inRangeFunc l :: k, .head h0 henter (StepsIn.trans hsteps (.one (calm16 _) ?_))⟩
    rw [← Frame.raise_atR]; exact step_leave_panicked hleave
/-- What is asked at a round's end, a panic taken in. -/
def rp16 (P : Program) (l : Nat) (R : Ending → World → Prop) : Exit → Act → World → Prop
  | .normal, _, w => ∃ v w', (Instr.endRound l none).run P w = .ok v w' ∧ R (.returned v) w'
  | .panic ch, a, w => a.defers = [] ∧ R (.panicked ch) w
  | _, _, _ => False
theorem round16 {P : Program} {n : Nat} {l : Nat} {f : FuncId} {fn : Func} (hf : P.funcs[f]? = some fn) {tmps : Array Value} {assign body : Code} {w : World} {R : Ending → World → Prop}
    (h : assign.wpIn (Fence.wide.inRound l) n P (Exit.then (fun a₁ w₁ => ∃ w₂, (Instr.beginRound l).run P w₁ = .ok () w₂ ∧ body.wpIn (Fence.wide.inRound l) n P (rp16 P l R) a₁ w₂) (fun _ _ _ => False))
      { tmps := tmps, defers := [] } w) :
    RoundIn Fence.wide n P l f tmps assign body w R := by
  refine ⟨trivial, fun c cs hr => ?_⟩
  let b : Frame := { (default : Frame) with fn := f, kind := .normal, roundOf := some l }
  have hb0 : Frame.round l f tmps assign body .normal = b.atR { tmps := tmps, defers := [] } [.code assign, .beginRound, .code body] := by
    simp [Frame.round, Frame.atR, b]
  have hr' : (Fence.wide.inRound l).room ((c :: cs).length + 1 + n) := hr
  obtain ⟨e, a₁, w₁, hq, harr⟩ := h b [.beginRound, .code body] (c :: cs) rfl trivial hr'
  rw [← hb0] at harr
  cases e with
  | normal =>
    obtain ⟨w₂, hbr, hbody⟩ := hq
    have s1 : StepsIn (Machine.fenced P (Fence.wide.inRound l)) P (lone (b.atR a₁ [.beginRound, .code body]) (c :: cs) w₁) (lone (b.atR a₁ [.code body]) (c :: cs) w₂) :=
      .one (calm16 _) (stepR_beginRound rfl hbr)
    obtain ⟨e₂, a₂, w₃, hq₂, harr₂⟩ := hbody b [] (c :: cs) rfl trivial hr'
    cases e₂ with
    | normal =>
      obtain ⟨v, w₄, hend, hR⟩ := hq₂
      exact ⟨.returned v, w₄, hR, (StepsIn.trans harr s1).trans (StepsIn.trans harr₂ (.one (calm16 _) (stepR_round_end rfl rfl hend)))⟩
    | panic chain =>
      obtain ⟨hd, hR⟩ := hq₂
      obtain ⟨todo, hs⟩ := harr₂
      refine ⟨.panicked chain, w₃, hR, (StepsIn.trans harr s1).trans (StepsIn.trans hs (.one (calm16 _) ?_))⟩
      exact step_leave_panicked ⟨rfl, hd, fn, hf⟩
    | ret => exact hq₂.elim
    | exit id => exact hq₂.elim
    | goto t => exact hq₂.elim
    | outgrown => exact hq₂.elim
  | exit id => exact hq.elim
  | goto t => exact hq.elim
  | ret => exact hq.elim
  | panic chain => exact hq.elim
  | outgrown => exact hq.elim

/-- What a loop's body must come to. -/
def bp16 (I : Nat → (Nat → Prop) → World → Prop) (PX : List PanicEntry → (Nat → Prop) → World → Prop) (i : Nat) (E D : Nat → Prop) (W : World) : Exit → Act → World → Prop
  | .normal, _, W' => I (i + 1) E W' ∧ Kr16 D W W'
  | .panic ch, a, W' => a.defers = [] ∧ PX ch E W' ∧ Kr16 D W W'
  | _, _, _ => False
/-- What the loop's left sides leave: the body is walked from there. -/
def As16 (I : Nat → (Nat → Prop) → World → Prop) (l i : Nat) (E D : Nat → Prop) (W : World) (B : Act → World → Prop) (a1 : Act) (W1 : World) : Prop :=
  Kr16 D W W1 ∧ I i E W1 ∧ ∀ W2, Kp (fun k => k = l) W1 W2 → (∃ r, W2.heap[l]? = some (.loop r)) → I i E W2 → B a1 W2
theorem As16.mk {I : Nat → (Nat → Prop) → World → Prop} {l i : Nat} {E D : Nat → Prop} {W : World} {B : Act → World → Prop} {a1 : Act} {W1 : World} (h1 : Kr16 D W W1) (h2 : I i E W1) (h3 : ∀ W2, Kp (fun k => k = l) W1 W2 → (∃ r, W2.heap[l]? = some (.loop r)) → I i E W2 → B a1 W2) : As16 I l i E D W B a1 W1 := ⟨h1, h2, h3⟩
theorem range16 {f : FuncId} {fn : Func} {P : Program} {n : Nat} {g : Operand} {ps : Array Tmp} {assign body : Code} {Q : Exit → Act → World → Prop} {a : Act} {w : World} (hf : P.funcs[f]? = some fn) {gf : Nat} {lb : Array Value} (hg : a.eval g = .func (.func gf) #[] lb) (eg : ∀ args w, (callFunc gf args).run P w = .ok (.enter gf args) w)
    {L : List (Array Value)} {R : Nat → Prop} (hR : ∀ k, R k → k < w.heap.size) (hseq : Seq16 n P gf lb L R w) (hps : ∀ v ∈ L, v.size = ps.size)
    (I : Nat → (Nat → Prop) → World → Prop) (hI : Abd16 w.heap.size I) (PX : List PanicEntry → (Nat → Prop) → World → Prop) (hPX : Abd16 w.heap.size PX) (h0 : I 0 (fun _ => False) w)
    (hround : ∀ (l i : Nat) (v : Array Value) (E : Nat → Prop) (W : World), L[i]? = some v → I i E W → Lo16 w.heap.size E W → E l → (∃ r, W.heap[l]? = some (.loop r)) → Kr16 R w W → assign.wpIn (Fence.wide.inRound l) (n - 1) P (Exit.then (As16 I l i E (fun k => E k ∨ R k) W (fun a1 W2 => body.wpIn (Fence.wide.inRound l) (n - 1) P (bp16 I PX i E (fun k => E k ∨ R k) W2) a1 W2)) (fun _ _ _ => False))
      { tmps := (ps.zip v).foldl (fun t (p, v) => t.setIfInBounds p v) a.tmps, defers := [] } W)
    (hdone : ∀ (D : Nat) (E : Nat → Prop) (W : World), E D → Lo16 w.heap.size E W → I L.length E W → W.heap[D]? = some (.deferred (some [])) → Q .normal { a with defers := { target := .collected D, args := #[] } :: a.defers } W)
    (hpan : ∀ (ch : List PanicEntry) (D : Nat) (E : Nat → Prop) (W : World), E D → Lo16 w.heap.size E W → PX ch E W → W.heap[D]? = some (.deferred (some [])) → Q (.panic ch) { a with defers := { target := .collected D, args := #[] } :: a.defers } W) :
    fn16 f P (Code.rangeFunc g ps assign body) Q a w := by
  refine fn16_rangeFunc (n := n) ?_
  let rec_ : LoopState → Loop := fun st => { state := st, pending := none, fn := f, tmps := a.tmps, params := ps, assign, body, defers := w.heap.size }
  have hsz : ((w.alloc (.deferred (some []))).alloc (.loop (rec_ .ready))).heap.size = w.heap.size + 2 := by simp
  have e0 : (w.alloc (.deferred (some []))).heap.size = w.heap.size + 1 := by simp
  have hl0 : ((w.alloc (.deferred (some []))).alloc (.loop (rec_ .ready))).heap[w.heap.size + 1]? = some (.loop (rec_ .ready)) := by
    rw [← e0]; exact heap_alloc_new _ _
  have hd0 : ((w.alloc (.deferred (some []))).alloc (.loop (rec_ .ready))).heap[w.heap.size]? = some (.deferred (some [])) := by
    exact (Below.heap_alloc (w.alloc (.deferred (some []))) _ w.heap.size (by omega)).trans (heap_alloc_new w _)
  have hb0 : Below w.heap.size w ((w.alloc (.deferred (some []))).alloc (.loop (rec_ .ready))) := ((Below.refl _ _).alloc (Nat.le_refl _) _).alloc (by omega) _
  have hent := run_enterLoop_outer (P := P) (w := w) f a.tmps ps assign body
  obtain ⟨W1, hW1⟩ : ∃ W1, W1 = (w.alloc (.deferred (some []))).alloc (.loop (rec_ .ready)) := ⟨_, rfl⟩
  rw [← hW1] at hsz hl0 hd0 hb0
  let U : (Nat → Prop) → Nat → Prop := fun E k => E k ∨ k = w.heap.size ∨ k = w.heap.size + 1
  have hUlo : ∀ E W, Lo16 W1.heap.size E W → W1.heap.size ≤ W.heap.size → Lo16 w.heap.size (U E) W := by
    intro E W hlo hs k hk
    rcases hk with hk | hk | hk
    · have := hlo k hk; omega
    · omega
    · omega
  have hpz : ∀ (A : World) (l : Nat) (o : Obj), (A.putObj l o).heap.size = A.heap.size := fun A l o => by simp [World.putObj]
  have hKR : Kr16 R w W1 := ⟨hb0.size, fun k hk _ => hb0.block k hk⟩
  let J : Nat → (Nat → Prop) → World → Prop := fun i E W => I i (U E) W ∧ W1.heap.size ≤ W.heap.size ∧ W.heap[w.heap.size + 1]? = some (.loop (rec_ .ready)) ∧ W.heap[w.heap.size]? = some (.deferred (some []))
  let X : List PanicEntry → (Nat → Prop) → World → Prop := fun ch E W => PX ch (U E) W ∧ W1.heap.size ≤ W.heap.size ∧ W.heap[w.heap.size]? = some (.deferred (some []))
  have hJ : Abd16 W1.heap.size J := by
    rintro s E E' A B ⟨x1, x2, x3, x4⟩ hlo hk h1 h2 h3
    have hsz2 := hk.size
    refine ⟨hI s (U E) (U E') A B x1 (hUlo E A hlo x2) (hk.mono fun i _ hi => .inl hi) ?_ ?_ (hUlo E' B h3 (by omega)), by omega, hk.heap x3 ?_, hk.heap x4 ?_⟩
    · rintro k (hk | hk)
      · exact .inl (h1 k hk)
      · exact .inr hk
    · rintro k (hk | hk)
      · rcases h2 k hk with h | h
        · exact .inl (.inl h)
        · exact .inr h
      · exact .inl (.inr hk)
    · intro hx; have := hlo _ hx; omega
    · intro hx; have := hlo _ hx; omega
  have hX : Abd16 W1.heap.size X := by
    rintro s E E' A B ⟨x1, x2, x4⟩ hlo hk h1 h2 h3
    have hsz2 := hk.size
    refine ⟨hPX s (U E) (U E') A B x1 (hUlo E A hlo x2) (hk.mono fun i _ hi => .inl hi) ?_ ?_ (hUlo E' B h3 (by omega)), by omega, hk.heap x4 ?_⟩
    · rintro k (hk | hk)
      · exact .inl (h1 k hk)
      · exact .inr hk
    · rintro k (hk | hk)
      · rcases h2 k hk with h | h
        · exact .inl (.inl h)
        · exact .inr h
      · exact .inl (.inr hk)
    · intro hx; have := hlo _ hx; omega
  refine ⟨w.heap.size + 1, [{ target := .collected w.heap.size, args := #[] }], W1, { target := .fn (.func gf) lb, args := #[.func (.yield (w.heap.size + 1)) #[] #[]] }, W1, gf, #[.func (.yield (w.heap.size + 1)) #[] #[]] ++ lb, W1, ?_, ?_, ?_, ?_⟩
  · rw [hW1]; exact hent
  · simp only [resolve, hg]
    simp [go_sem]
  · simp [invoke, go_sem, eg]
  · have hI0 : I 0 (U fun _ => False) W1 := hI 0 (fun _ => False) _ w W1 h0 (fun k hk => hk.elim) (.of_below hb0) (fun k hk => hk.elim) (by rintro k (hk | hk | hk); exact hk.elim; exact .inr (by omega); exact .inr (by omega)) (hUlo _ _ (fun k hk => hk.elim) (Nat.le_refl _))
    refine (hseq (w.heap.size + 1) J X W1 hKR hJ hX ?_ ⟨hI0, Nat.le_refl _, hl0, hd0⟩).mono ?_
    · rintro i v E A hv ⟨x1, x2, x3, x4⟩ hlo hkr
      refine ⟨f, _, assign, body, run_yield x3 (hps v (List.mem_of_getElem? hv)), round16 hf ?_⟩
      have hlo' := hUlo E A hlo x2
      have hEl : U E (w.heap.size + 1) := .inr (.inr rfl)
      refine wpIn_mono (hround (w.heap.size + 1) i v (U E) A hv x1 hlo' hEl ⟨_, x3⟩ (hKR.trans hkr)) ?_
      rintro e a1 A1 he
      cases e with
      | normal =>
        obtain ⟨k1, k3, k4⟩ := he
        have y3 := k1.heap x3 (.inl hEl)
        have y4 := k1.heap x4 (.inl (.inr (.inl rfl)))
        refine ⟨_, run_beginRound y3 rfl, ?_⟩
        have hlo1 : Lo16 w.heap.size (U E) A1 := fun k hk => ⟨(hlo' k hk).1, Nat.lt_of_lt_of_le (hlo' k hk).2 k1.size⟩
        have z3 : (A1.putObj (w.heap.size + 1) (.loop { rec_ .ready with state := .busy })).heap[w.heap.size + 1]? = some (.loop { rec_ .ready with state := .busy }) := World.putObj_heap_same (Array.getElem?_eq_some_iff.1 y3).1
        have z4 := (World.putObj_heap_other (w := A1) (o := .loop { rec_ .ready with state := .busy }) (show w.heap.size ≠ w.heap.size + 1 by omega)).trans y4
        have hkp : Kp (U E) A1 (A1.putObj (w.heap.size + 1) (.loop { rec_ .ready with state := .busy })) := Kp.put16 hEl _
        have hs1 := k1.size
        have hlo2 : Lo16 w.heap.size (U E) (A1.putObj (w.heap.size + 1) (.loop { rec_ .ready with state := .busy })) := fun k hk => ⟨(hlo1 k hk).1, Nat.lt_of_lt_of_le (hlo1 k hk).2 hkp.size⟩
        refine wpIn_mono (k4 _ (Kp.put16 (S := fun k => k = w.heap.size + 1) rfl _) ⟨_, z3⟩ (hI _ _ _ _ _ k3 hlo1 hkp (fun _ h => h) (fun _ h => .inl h) hlo2)) ?_
        have fin : ∀ A3, Kr16 (fun k => U E k ∨ R k) (A1.putObj (w.heap.size + 1) (.loop { rec_ .ready with state := .busy })) A3 → Kr16 (fun k => E k ∨ R k) A A3 := by
          intro A3 hA
          have q1 : Kr16 (fun k => E k ∨ R k) A A1 := k1.mono (by rintro k (h | h); exact .inl (.inl h); exact .inr h)
          have q2 : Kr16 (fun k => E k ∨ R k) A1 (A1.putObj (w.heap.size + 1) (.loop { rec_ .ready with state := .busy })) := Kr16.of_kp (S := fun k => k = w.heap.size + 1) (Kp.put16 (S := fun k => k = w.heap.size + 1) rfl _) (by
            rintro k (h | h) e
            · have := hlo k h; omega
            · have := hR k h; omega)
          exact (q1.trans q2).trans (hA.mono (by rintro k (h | h); exact .inl (.inl h); exact .inr h))
        rintro e2 a2 A3 he2
        cases e2 with
        | normal =>
          obtain ⟨j3, j1⟩ := he2
          have u3 := j1.heap z3 (.inl hEl)
          have u4 := j1.heap z4 (.inl (.inr (.inl rfl)))
          have hlo3 : Lo16 w.heap.size (U E) A3 := fun k hk => ⟨(hlo2 k hk).1, Nat.lt_of_lt_of_le (hlo2 k hk).2 j1.size⟩
          have hkp3 : ∀ o, Kp (U E) A3 (A3.putObj (w.heap.size + 1) o) := fun o => Kp.put16 hEl _
          have s3 : A1.heap.size ≤ A3.heap.size := by have := j1.size; rwa [hpz] at this
          have hlo4 : ∀ o, Lo16 w.heap.size (U E) (A3.putObj (w.heap.size + 1) o) := fun o k hk => ⟨(hlo3 k hk).1, Nat.lt_of_lt_of_le (hlo3 k hk).2 (hkp3 o).size⟩
          refine ⟨_, _, run_endRound none u3, rfl, ⟨hI _ _ _ _ _ j3 hlo3 (hkp3 _) (fun _ h => h) (fun _ h => .inl h) (hlo4 _), ?_, ?_, ?_⟩, ?_⟩
          · rw [hpz]; omega
          · exact World.putObj_heap_same (Array.getElem?_eq_some_iff.1 u3).1
          · exact (World.putObj_heap_other (by omega)).trans u4
          · refine (fin A3 j1).trans (Kr16.of_kp (S := fun k => k = w.heap.size + 1) (Kp.put16 (S := fun k => k = w.heap.size + 1) rfl _) ?_)
            rintro k (h | h) e
            · have := hlo k h; omega
            · have := hR k h; omega
        | panic ch =>
          obtain ⟨jd, j3, j1⟩ := he2
          have u4 := j1.heap z4 (.inl (.inr (.inl rfl)))
          have s3 : A1.heap.size ≤ A3.heap.size := by have := j1.size; rwa [hpz] at this
          exact ⟨jd, ⟨j3, by omega, u4⟩, fin A3 j1⟩
        | ret => exact he2.elim
        | exit id => exact he2.elim
        | goto t => exact he2.elim
        | outgrown => exact he2.elim
      | ret => exact he.elim
      | exit id => exact he.elim
      | goto t => exact he.elim
      | panic ch => exact he.elim
      | outgrown => exact he.elim
    · rintro e A he
      cases e with
      | returned v =>
        obtain ⟨E, hlo, x1, x2, x3, x4⟩ := he
        have hlo' := hUlo E A hlo x2
        have hEl : U E (w.heap.size + 1) := .inr (.inr rfl)
        have hkp : ∀ o, Kp (U E) A (A.putObj (w.heap.size + 1) o) := fun o => Kp.put16 hEl _
        have hlo4 : ∀ o, Lo16 w.heap.size (U E) (A.putObj (w.heap.size + 1) o) := fun o k hk => ⟨(hlo' k hk).1, Nat.lt_of_lt_of_le (hlo' k hk).2 (hkp o).size⟩
        exact ⟨none, _, run_endLoop x3 (by intro h; cases h), hdone w.heap.size (U E) _ (.inr (.inl rfl)) (hlo4 _) (hI _ _ _ _ _ x1 hlo' (hkp _) (fun _ h => h) (fun _ h => .inl h) (hlo4 _)) ((World.putObj_heap_other (by omega)).trans x4)⟩
      | panicked ch =>
        obtain ⟨E, hlo, x1, x2, x4⟩ := he
        exact hpan ch w.heap.size (U E) _ (.inr (.inl rfl)) (hUlo E A hlo x2) x1 x4
      | outgrown => exact he.elim
end Go.Proofs.YtmfpdchfofffeaaGreatDoor

namespace Go.Proofs.YtmfpdchfofffeaaGreatDoor
set_option linter.unusedVariables false
abbrev St16 := Int × Int × Int
abbrev z16 : St16 := (0, 0, 0)
def may16 (s : St16) : Bool := decide (0 ≤ s.1 ∧ s.1 ≤ 16777216 ∧ 0 ≤ s.2.1 ∧ s.2.1 ≤ 16777216 ∧ -16777216 ≤ s.2.2 ∧ s.2.2 ≤ 16777216)
theorem may16_iff {s : St16} : may16 s = true ↔ (0 ≤ s.1 ∧ s.1 ≤ 16777216 ∧ 0 ≤ s.2.1 ∧ s.2.1 ≤ 16777216 ∧ -16777216 ≤ s.2.2 ∧ s.2.2 ≤ 16777216) := by unfold may16; exact decide_eq_true_iff
def ad16 (S : List St16) (i : Nat) : Nat := (S.getD i z16).1.toNat
def cp16 (S : List St16) (i : Nat) : Nat := (S.getD i z16).2.1.toNat
def sk16 (S : List St16) (i : Nat) : Int := (S.getD i z16).2.2
/-- How much is added, copied by the first i steps; where they lead. -/
def sa16 (S : List St16) : Nat → Nat
  | 0 => 0
  | i + 1 => sa16 S i + ad16 S i
def sc16 (S : List St16) : Nat → Nat
  | 0 => 0
  | i + 1 => sc16 S i + cp16 S i
def pl16 (S : List St16) : Nat → Int
  | 0 => 0
  | i + 1 => pl16 S i + (ad16 S i : Int) + sk16 S i
/-- The first i steps may be. -/
def Ok16 (S : List St16) (i : Nat) : Prop := ∀ j, j < i → may16 (S.getD j z16) = true
theorem Ok16.zero (S : List St16) : Ok16 S 0 := fun j h => by omega
theorem Ok16.succ {S : List St16} {i : Nat} (h : Ok16 S i) (hm : may16 (S.getD i z16) = true) : Ok16 S (i + 1) := fun j hj => by
  rcases Nat.lt_or_ge j i with h1 | h1
  · exact h j h1
  · have : j = i := by omega
    subst this; exact hm
theorem Ok16.all {S : List St16} (h : Ok16 S S.length) : S.all may16 = true := by
  rw [List.all_eq_true]
  intro x hx
  obtain ⟨j, hj, rfl⟩ := List.getElem_of_mem hx
  have := h j hj
  simpa [List.getD, hj] using this
theorem not_all16 {S : List St16} {i : Nat} (hi : i < S.length) (hm : may16 (S.getD i z16) = false) : S.all may16 = false := by
  rw [List.all_eq_false]
  exact ⟨S[i], List.getElem_mem hi, by simpa [List.getD, hi] using hm⟩
theorem all16_ok {S : List St16} (h : S.all may16 = true) : Ok16 S S.length := fun j hj => by
  have := List.all_eq_true.1 h S[j] (List.getElem_mem hj)
  simpa [List.getD, hj] using this
theorem ad16_le {S : List St16} {i j : Nat} (h : Ok16 S i) (hj : j < i) : ad16 S j ≤ 16777216 ∧ cp16 S j ≤ 16777216 ∧ (ad16 S j : Int) = (S.getD j z16).1 ∧ (cp16 S j : Int) = (S.getD j z16).2.1 ∧ -16777216 ≤ sk16 S j ∧ sk16 S j ≤ 16777216 := by
  have := may16_iff.1 (h j hj)
  unfold ad16 cp16 sk16
  omega
theorem Ok16.mono {S : List St16} {i j : Nat} (h : Ok16 S i) (hj : j ≤ i) : Ok16 S j := fun k hk => h k (by omega)
theorem sa16_le {S : List St16} : ∀ i, Ok16 S i → sa16 S i ≤ i * 16777216 ∧ sc16 S i ≤ i * 16777216 ∧ -((i : Int) * 33554432) ≤ pl16 S i ∧ pl16 S i ≤ (i : Int) * 33554432
  | 0, _ => by simp [sa16, sc16, pl16]
  | i + 1, h => by
    have ih := sa16_le i (h.mono (by omega))
    have hb := ad16_le h (show i < i + 1 by omega)
    simp only [sa16, sc16, pl16]
    omega
theorem sa16_mono {S : List St16} {i : Nat} : ∀ n, i ≤ n → sa16 S i ≤ sa16 S n ∧ sc16 S i ≤ sc16 S n
  | 0, h => by have : i = 0 := by omega
               subst this; omega
  | n + 1, h => by
    rcases Nat.lt_or_ge i (n + 1) with h1 | h1
    · have := sa16_mono (S := S) (i := i) n (by omega)
      simp only [sa16, sc16]
      omega
    · have : i = n + 1 := by omega
      subst this; omega
/-- The error that an edit has by itself. -/
def it16 (S : List St16) (m k : Nat) : Int := if S.all may16 = true then (if sa16 S S.length = m ∧ sc16 S S.length = k ∧ m + k ≤ 16777216 then 0 else 162) else 160
theorem it16_step {S : List St16} {m k : Nat} (h : S.all may16 = false) : it16 S m k = 160 := by unfold it16; simp [h]
theorem it16_size {S : List St16} {m k : Nat} (h : S.all may16 = true) (hn : ¬ (sa16 S S.length = m ∧ sc16 S S.length = k ∧ m + k ≤ 16777216)) : it16 S m k = 162 := by unfold it16; rw [if_pos h, if_neg hn]
theorem it16_ok {S : List St16} {m k : Nat} (h : S.all may16 = true) (hn : sa16 S S.length = m ∧ sc16 S S.length = k ∧ m + k ≤ 16777216) : it16 S m k = 0 := by unfold it16; rw [if_pos h, if_pos hn]
theorem it16_zero {S : List St16} {m k : Nat} (h : it16 S m k = 0) : Ok16 S S.length ∧ sa16 S S.length = m ∧ sc16 S S.length = k ∧ m + k ≤ 16777216 := by
  unfold it16 at h
  by_cases h1 : S.all may16 = true
  · rw [if_pos h1] at h
    by_cases h2 : sa16 S S.length = m ∧ sc16 S S.length = k ∧ m + k ≤ 16777216
    · exact ⟨all16_ok h1, h2⟩
    · rw [if_neg h2] at h; simp at h
  · rw [if_neg h1] at h; simp at h
theorem it16_cases (S : List St16) (m k : Nat) : it16 S m k = 0 ∨ it16 S m k = 160 ∨ it16 S m k = 162 := by
  unfold it16
  split
  · split
    · exact .inl rfl
    · exact .inr (.inr rfl)
  · exact .inr (.inl rfl)
def sz16 (S : List St16) (m k : Nat) : Nat := if it16 S m k = 0 then m + k else 0
/-- The least place that the first i steps read (0, if none is less), and the one behind the greatest. -/
def fi16 (S : List St16) : Nat → Int
  | 0 => 0
  | i + 1 => if 0 < ad16 S i then min (fi16 S i) (pl16 S i) else fi16 S i
def en16 (S : List St16) : Nat → Int
  | 0 => 0
  | i + 1 => if 0 < ad16 S i then max (en16 S i) (pl16 S i + (ad16 S i : Int)) else en16 S i
theorem fe16_bd {S : List St16} : ∀ i, Ok16 S i → -((i : Int) * 33554432) ≤ fi16 S i ∧ fi16 S i ≤ 0 ∧ 0 ≤ en16 S i ∧ en16 S i ≤ (i : Int) * 33554432 + 16777216
  | 0, _ => by simp [fi16, en16]
  | i + 1, h => by
    have ih := fe16_bd i (h.mono (by omega))
    have hp := sa16_le i (h.mono (by omega))
    have hb := ad16_le h (show i < i + 1 by omega)
    simp only [fi16, en16]
    constructor
    · split <;> omega
    · refine ⟨by split <;> omega, by split <;> omega, ?_⟩
      split <;> omega
/-- The origins of the bytes: place, value, own. -/
abbrev Og16 := Int × Int × Bool
/-- What is made of old. -/
def by16 (z : List Int) (o : Og16) : Int := if o.2.2 = true then o.2.1 else (z.getD o.1.toNat 0 + o.2.1) % 256
end Go.Proofs.YtmfpdchfofffeaaGreatDoor
