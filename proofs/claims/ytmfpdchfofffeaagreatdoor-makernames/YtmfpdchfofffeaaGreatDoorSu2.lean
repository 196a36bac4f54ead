import Derived.Test.YtmfpdchfofffeaaGreatDoorSu1
namespace Go.Proofs.YtmfpdchfofffeaaGreatDoor
open Go.RowKit
set_option linter.unusedVariables false
structure Rk13 (w : World) (gb gr n : Nat) (A : List Nat) : Prop where
  box : w.heap[gb]? = some (.cells #[.slice (some ⟨gr, 0, none⟩) (n + 1) (n + 1)] 95 (0, 0))
  rks : Rz12 w gr (rr13 n A)
structure Ix13 (w : World) (b : Nat) (da : Option Addr) (dc : Nat) (aa : Option Addr) (ac gb gr n : Nat) (z : List Int) (A : List Nat) : Prop where
  hp : w.heap[b]? = some (.cells #[.slice da n dc, .slice aa n ac, .func (.func 123) #[] #[.pointer (some ⟨gb, 0, none⟩)]] 139 (0, 0))
  dat : Seg w da z
  nil : da = none → dc = 0
  dle : n ≤ dc
  arr : SegZ w aa (nz12 A)
  anil : aa = none → ac = 0
  ale : n ≤ ac
  rk : Rk13 w gb gr n A
  len : z.length = n
  n24 : n ≤ 16777216
  ar : Ar12 n (S12 z) A
theorem Rk13.old {w w' : World} {gb gr n : Nat} {A : List Nat} (h : Rk13 w gb gr n A) (hb : Below w.heap.size w w') : Rk13 w' gb gr n A :=
  ⟨(hb.block gb (Array.getElem?_eq_some_iff.1 h.box).1).trans h.box, h.rks.old hb⟩
theorem Ix13.lt {w : World} {b : Nat} {da : Option Addr} {dc : Nat} {aa : Option Addr} {ac gb gr n : Nat} {z : List Int} {A : List Nat} (h : Ix13 w b da dc aa ac gb gr n z A) : b < w.heap.size := (Array.getElem?_eq_some_iff.1 h.hp).1
theorem Ix13.old {w w' : World} {b : Nat} {da : Option Addr} {dc : Nat} {aa : Option Addr} {ac gb gr n : Nat} {z : List Int} {A : List Nat} (h : Ix13 w b da dc aa ac gb gr n z A) (hb : Below w.heap.size w w') : Ix13 w' b da dc aa ac gb gr n z A :=
  ⟨(hb.block b h.lt).trans h.hp, h.dat.old hb, h.nil, h.dle, h.arr.old hb, h.anil, h.ale, h.rk.old hb, h.len, h.n24, h.ar⟩
theorem Ix13.drewN {w : World} {b : Nat} {da : Option Addr} {dc : Nat} {aa : Option Addr} {ac gb gr n : Nat} {z : List Int} {A : List Nat} (h : Ix13 w b da dc aa ac gb gr n z A) (k : Nat) : Ix13 (w.drewN k) b da dc aa ac gb gr n z A :=
  ⟨h.hp, h.dat.drewN k, h.nil, h.dle, h.arr.drewN k, h.anil, h.ale, ⟨h.rk.box, h.rk.rks.drewN k⟩, h.len, h.n24, h.ar⟩
theorem Ix13.drew {w : World} {b : Nat} {da : Option Addr} {dc : Nat} {aa : Option Addr} {ac gb gr n : Nat} {z : List Int} {A : List Nat} (h : Ix13 w b da dc aa ac gb gr n z A) : Ix13 w.drew b da dc aa ac gb gr n z A :=
  ⟨h.hp, h.dat.drew, h.nil, h.dle, h.arr.drew, h.anil, h.ale, ⟨h.rk.box, h.rk.rks.drew⟩, h.len, h.n24, h.ar⟩
theorem Ix13.c0 {w : World} {b : Nat} {da : Option Addr} {dc : Nat} {aa : Option Addr} {ac gb gr n : Nat} {z : List Int} {A : List Nat} (h : Ix13 w b da dc aa ac gb gr n z A) : w.cell? ⟨b, 0, none⟩ = some (.slice da n dc) := three_cell0 h.hp
theorem Ix13.c1 {w : World} {b : Nat} {da : Option Addr} {dc : Nat} {aa : Option Addr} {ac gb gr n : Nat} {z : List Int} {A : List Nat} (h : Ix13 w b da dc aa ac gb gr n z A) : w.cell? ⟨b, 1, none⟩ = some (.slice aa n ac) := three_cell1 h.hp
theorem Ix13.c2 {w : World} {b : Nat} {da : Option Addr} {dc : Nat} {aa : Option Addr} {ac gb gr n : Nat} {z : List Int} {A : List Nat} (h : Ix13 w b da dc aa ac gb gr n z A) : w.cell? ⟨b, 2, none⟩ = some (.func (.func 123) #[] #[.pointer (some ⟨gb, 0, none⟩)]) := three_cell2 h.hp
theorem nz12_get13 {A : List Nat} {i : Nat} (h : i < A.length) : (nz12 A).getD i 0 = ((A.getD i 0 : Nat) : Int) := by simp [nz12, List.getD, h]
theorem nz12_len13 (A : List Nat) : (nz12 A).length = A.length := by simp [nz12]
theorem nz12_bd13 {A : List Nat} {n : Nat} (h : ∀ j ∈ A, j < n) (hn : n ≤ 16777216) : ∀ z ∈ nz12 A, -9223372036854775808 ≤ z ∧ z ≤ 9223372036854775807 := by
  intro z hz
  unfold nz12 at hz
  rw [List.mem_map] at hz
  obtain ⟨j, hj, rfl⟩ := hz
  have := h j hj
  omega
def RkQ13 (w : World) (n : Nat) (A : List Nat) (e : Ending) (w' : World) : Prop := ∃ gb gr, e = .returned (.func (.func 123) #[] #[.pointer (some ⟨gb, 0, none⟩)]) ∧ Rk13 w' gb gr n A ∧ w.heap.size ≤ gb ∧ w.heap.size ≤ gr ∧ Below w.heap.size w w'
set_option maxRecDepth 100000 in
set_option maxHeartbeats 2000000 in
theorem prnk13 (aa : Option Addr) (ac n : Nat) (A : List Nat) (S : Nat → Int) (w : World) (hs : SegZ w aa (nz12 A)) (hA : Ar12 n S A) (hn : n ≤ 16777216) :
    Calls Tryz.prog 84 #[.slice aa n ac] w (RkQ13 w n A) := by
  have hmf : ∀ (fn : Fn) (first cap : Array Value) (w : World), (Instr.makeFunc fn first cap).run Tryz.prog w = .ok (.func fn first cap) w := fun _ _ _ _ => rfl
  have hlA : Hid (A.length = n) := hA.len
  have HAR : Hid (Ar12 n S A) := hA
  have HM := run_make_i12 (n + 1) (by omega) w
  rw [show ((n + 1 : Nat) : Int) = (n : Int) + 1 by omega] at HM
  have i1 : IntKind.i64.wrap ((n : Int) + 1) = (n : Int) + 1 := IntWalk.i64_in _ (by omega)
  have hr0 := Rz12.new w (List.replicate (n + 1) 0)
  have hal : Below w.heap.size w (w.alloc (.cells (vi12 (List.replicate (n + 1) 0)) 3)) := (Below.refl _ _).alloc (Nat.le_refl _) _
  have hz1 : (w.alloc (.cells (vi12 (List.replicate (n + 1) 0)) 3)).heap.size = w.heap.size + 1 := by simp
  rw [← rp13_zero n A] at hr0 hal hz1 HM
  have HSG : Hid (∀ W, Below w.heap.size w W → SegZ W aa (nz12 A)) := fun W b => hs.old b
  have HBX : Hid (∀ W : World, Below w.heap.size w W → W.heap.size = w.heap.size + 1 → Rz12 W w.heap.size (rp13 n A 0) → Rz12 (W.alloc (.cells #[.slice (some ⟨w.heap.size, 0, none⟩) (n + 1) (n + 1)] 95)) w.heap.size (rp13 n A 0) ∧ (W.alloc (.cells #[.slice (some ⟨w.heap.size, 0, none⟩) (n + 1) (n + 1)] 95)).heap[w.heap.size + 1]? = some (.cells #[.slice (some ⟨w.heap.size, 0, none⟩) (n + 1) (n + 1)] 95 (0, 0)) ∧ Below w.heap.size w (W.alloc (.cells #[.slice (some ⟨w.heap.size, 0, none⟩) (n + 1) (n + 1)] 95))) := by
    intro W hb hz hR
    have b2 : Below W.heap.size W (W.alloc (.cells #[.slice (some ⟨w.heap.size, 0, none⟩) (n + 1) (n + 1)] 95)) := (Below.refl _ _).alloc (Nat.le_refl _) _
    refine ⟨hR.old b2, ?_, hb.trans (b2.mono (by omega))⟩
    have := heap_alloc_new W (.cells #[.slice (some ⟨w.heap.size, 0, none⟩) (n + 1) (n + 1)] 95)
    rw [hz] at this
    exact this
  have HB0 := HBX.out _ hal hz1 hr0
  clear HBX hal hr0 hs hA
  generalize hg : w.heap.size = g at *
  generalize hW0 : w.alloc (.cells (vi12 (rp13 n A 0)) 3) = W0 at *
  have HW : Hid (W0 = w.alloc (.cells (vi12 (rp13 n A 0)) 3)) := hW0.symm
  have HG : Hid (w.heap.size = g) := hg
  clear hg hW0
  obtain ⟨N, hN⟩ : ∃ N, N = n + 1 := ⟨_, rfl⟩
  have HN : Hid (N = n + 1) := hN
  rw [← hN] at HM HB0
  have hNi : (N : Int) = (n : Int) + 1 := by omega
  clear hN
  go_enter Tryz.func84, Tryz.ntmps84
  go_wp2_with fail
  go_loopw [12] (fun ti wr => ∃ k : Nat, k ≤ n ∧ ti = .int .i64 k ∧ Rz12 wr g (rp13 n A k) ∧ wr.heap[g + 1]? = some (.cells #[.slice (some ⟨g, 0, none⟩) N N] 95 (0, 0)) ∧ Below g w wr) (fun ti _ => n - (intOf ti).toNat)
  case atStart => exact ⟨0, Nat.zero_le _, rfl, HB0.1, HB0.2.1, HB0.2.2⟩
  case round =>
    obtain ⟨k, hk, rfl, hR, hX, hb2⟩ := hrel
    have cx : wr.cell? ⟨g + 1, 0, none⟩ = some (.slice (some ⟨g, 0, none⟩) N N) := by simp [World.cell?, hX]
    by_cases h1 : k < n
    · have h1i : (k : Int) < (n : Int) := by omega
      obtain ⟨bb, off, rfl, c1⟩ := (HSG.out wr hb2).at_ k (by rw [nz12_len13, hlA.out]; exact h1)
      rw [nz12_get13 (by rw [hlA.out]; exact h1)] at c1
      have hv := HAR.out.get h1
      have k1 := hR.cell (i := A.getD k 0) (by rw [rp13_len]; omega)
      have k2 := hR.free (A.getD k 0)
      have HS1 : Hid (Rz12 (wr.setCell ⟨g, A.getD k 0, none⟩ (.int .i64 (k : Int))) g (rp13 n A (k + 1))) := by
        have := hR.set (A.getD k 0) (k : Int)
        rw [rp13_set HAR.out h1] at this
        exact this
      have KP : Kp (fun j => j = g) wr (wr.setCell ⟨g, A.getD k 0, none⟩ (.int .i64 (k : Int))) := Kp.set (S := fun j => j = g) rfl _
      have HS2 : Hid ((wr.setCell ⟨g, A.getD k 0, none⟩ (.int .i64 (k : Int))).heap[g + 1]? = some (.cells #[.slice (some ⟨g, 0, none⟩) N N] 95 (0, 0))) := KP.heap hX (by omega)
      have HS4 : Hid (Below g w (wr.setCell ⟨g, A.getD k 0, none⟩ (.int .i64 (k : Int)))) := hb2.trans (KP.below (fun j h => by omega) (by have := hR.lt; omega))
      have hvN : ((A.getD k 0 : Nat) : Int) < (N : Int) := by omega
      clear hR KP
      generalize (rp13 n A k).getD (A.getD k 0) 0 = y at *
      generalize A.getD k 0 = v at *
      go_wp2_with fail
      go_roundw
      case rel => exact ⟨k + 1, by omega, by go_num, HS1.out, HS2.out, HS4.out⟩
      case measure => simp [intOf]; omega
    · have h1i : ¬ (k : Int) < (n : Int) := by omega
      obtain rfl : k = n := by omega
      have k1 := hR.cell (i := k) (by rw [rp13_len]; omega)
      have k2 := hR.free k
      have hkN : (k : Int) < (N : Int) := by omega
      have HS1 : Hid (Rz12 (wr.setCell ⟨g, k, none⟩ (.int .i64 (-1))) g (rr13 k A)) := hR.set k (-1)
      have KP : Kp (fun j => j = g) wr (wr.setCell ⟨g, k, none⟩ (.int .i64 (-1))) := Kp.set (S := fun j => j = g) rfl _
      have HS2 : Hid ((wr.setCell ⟨g, k, none⟩ (.int .i64 (-1))).heap[g + 1]? = some (.cells #[.slice (some ⟨g, 0, none⟩) N N] 95 (0, 0))) := KP.heap hX (by omega)
      have HS4 : Hid (Below g w (wr.setCell ⟨g, k, none⟩ (.int .i64 (-1)))) := hb2.trans (KP.below (fun j h => by omega) (by have := hR.lt; omega))
      clear hR KP
      generalize (rp13 k A k).getD k 0 = y at *
      go_wp2_with fail
      go_ret
      have h2 := HS2.out
      rw [HN.out] at h2
      refine ⟨g + 1, g, rfl, ⟨h2, HS1.out⟩, by rw [HG.out]; omega, by rw [HG.out]; omega, by rw [HG.out]; exact HS4.out⟩
def NixQ13 (w : World) (aa : Option Addr) (ac : Nat) (z : List Int) (A : List Nat) (n : Nat) (e : Ending) (w' : World) : Prop := ∃ b da dc gb gr, e = .returned (.pointer (some ⟨b, 0, none⟩)) ∧ Ix13 w' b da dc aa ac gb gr n z A ∧ Below w.heap.size w w' ∧ w.heap.size ≤ b ∧ w.heap.size ≤ gb ∧ w.heap.size ≤ gr ∧ (∀ x off, da = some ⟨x, off, none⟩ → w.heap.size ≤ x)
set_option maxRecDepth 100000 in
set_option maxHeartbeats 2000000 in
theorem pnix13 (xa : Option Addr) (xc : Nat) (aa : Option Addr) (ac n : Nat) (z : List Int) (A : List Nat) (w : World) (hx : Seg w xa z) (hxn : xa = none → xc = 0) (hs : SegZ w aa (nz12 A)) (han : aa = none → ac = 0) (hale : n ≤ ac) (hz : Hid (z.length = n)) (hA : Ar12 n (S12 z) A) (hn : n ≤ 16777216) :
    Calls Tryz.prog 51 #[.slice xa n xc, .slice aa n ac] w (NixQ13 w aa ac z A n) := by
  have HC := pclb13 xa z n xc w hx hz hxn (by omega)
  have HR : Hid (∀ w1, Below w.heap.size w w1 → Calls Tryz.prog 84 #[.slice aa n ac] w1 (RkQ13 w1 n A)) := fun w1 b1 => prnk13 aa ac n A (S12 z) w1 (hs.old b1) hA hn
  have HF : Hid (∀ W, Below w.heap.size w W → SegZ W aa (nz12 A)) := fun W b => hs.old b
  have HA : Hid (Ar12 n (S12 z) A) := hA
  have HV := seg_bd13 hx
  have HV2 : Hid (∀ y ∈ z, 0 ≤ y ∧ y ≤ 255) := HV
  clear hs hA HV hx
  go_enter Tryz.func51, Tryz.ntmps51
  go_wp2_with (first
    | (go_at_call 74; refine HC.mono ?_; rintro e1 w1 ⟨da, dc, rfl, hnil, hown, B1⟩)
    | (go_at_call 84; refine (HR.out w1 B1).mono ?_; rintro e2 w2 ⟨gb, gr, rfl, hrk, hgb, hgr, B2⟩))
  go_ret
  have S1 := B1.size
  have S2 := B2.size
  have B12 : Below w.heap.size w w2 := B1.trans (B2.mono S1)
  have B3 : Below w2.heap.size w2 (w2.alloc (.cells #[.slice da n dc, .slice aa n ac, .func (.func 123) #[] #[.pointer (some ⟨gb, 0, none⟩)]] 139)) := (Below.refl _ _).alloc (Nat.le_refl _) _
  have hseg := own_seg13 hown HV2.out
  refine ⟨w2.heap.size, da, dc, gb, gr, rfl, ⟨heap_alloc_new w2 _, (hseg.old B2).old B3, fun h => (hnil h).1, own_le13 hown, (HF.out w2 B12).old B3, han, hale, hrk.old B3, hz.out, hn, HA.out⟩, B12.trans (B3.mono (by omega)), by omega, by omega, by omega, ?_⟩
  intro x off hda
  subst hda
  rcases hown.2 with ⟨h1, _⟩ | ⟨g, cp, cur, hv, hg, _⟩
  · cases h1
  · simp only [Value.slice.injEq, Option.some.injEq] at hv
    obtain ⟨h1, _⟩ := hv
    cases h1
    exact hg
def NewQ13 (w : World) (z : List Int) (n : Nat) (e : Ending) (w' : World) : Prop := ∃ b da dc aa ac gb gr A, e = .returned (.tuple #[.pointer (some ⟨b, 0, none⟩), .int .i64 0]) ∧ Ix13 w' b da dc aa ac gb gr n z A ∧ Below w.heap.size w w' ∧ w.heap.size ≤ b ∧ w.heap.size ≤ gb ∧ w.heap.size ≤ gr ∧ (∀ x off, da = some ⟨x, off, none⟩ → w.heap.size ≤ x) ∧ (∀ x off, aa = some ⟨x, off, none⟩ → w.heap.size ≤ x)
set_option maxRecDepth 100000 in
set_option maxHeartbeats 2000000 in
theorem pnew13 (a : Option Addr) (z : List Int) (n cap : Nat) (w : World) (hs : Seg w a z) (hnil : a = none → cap = 0) (hn : Hid (z.length = n)) (hb : n ≤ 16777216) :
    Calls Tryz.prog 32 #[.slice a n cap] w (NewQ13 w z n) := by
  have HS := psort13 a z n cap w hs hn hb
  have HX : Hid (∀ w1 g A, Below w.heap.size w w1 → Rz12 w1 g (nz12 A) → Ar12 n (S12 z) A → Calls Tryz.prog 51 #[.slice a n cap, .slice (some ⟨g, 0, none⟩) n n] w1 (NixQ13 w1 (some ⟨g, 0, none⟩) n z A n)) :=
    fun w1 g A b1 R hA => pnix13 a cap (some ⟨g, 0, none⟩) n n z A w1 (hs.old b1) hnil (R.seg (nz12_bd13 hA.lt hb)) (by intro h; cases h) (Nat.le_refl _) hn hA hb
  clear hs
  go_enter Tryz.func32, Tryz.ntmps32
  go_wp2_with (first
    | (go_at_call 50; refine HS.mono ?_; rintro e1 w1 ⟨g, A, rfl, RA, hg, hA, B1⟩)
    | (go_at_call 51; refine (HX.out w1 g A B1 RA hA).mono ?_; rintro e2 w2 ⟨b, da, dc, gb, gr, rfl, hI, B2, q1, q2, q3, q4⟩))
  refine bodyPost_ret (results_tmp2 rfl _ _ _) rfl ?_
  have S1 := B1.size
  exact ⟨b, da, dc, _, _, gb, gr, A, rfl, hI, B1.trans (B2.mono S1), by omega, by omega, by omega, fun x off h => Nat.le_trans S1 (q4 x off h), fun x off h => by cases h; exact hg⟩
end Go.Proofs.YtmfpdchfofffeaaGreatDoor
