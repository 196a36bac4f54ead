import Derived.Test.YtkpfailmmcelcaaPm
namespace Go.Proofs.Ytkpfailmmcelcaa
open Go.RowKit
set_option linter.unusedVariables false

/-! The landed suffix: an index in memory; ranker, newIndex, New. -/
structure Rk13 (w : World) (gb gr n : Nat) (A : List Nat) : Prop where
  box : w.heap[gb]? = some (.cells #[.slice (some ⟨gr, 0, none⟩) (n + 1) (n + 1)] 28 (0, 0))
  rks : Rz12 w gr (rr13 n A)
def fv13 (gb : Nat) : Value := .func (.func 50) #[] #[.pointer (some ⟨gb, 0, none⟩)]
structure Ix13 (w : World) (b : Nat) (da : Option Addr) (dc : Nat) (aa : Option Addr) (ac gb gr n : Nat) (z : List Int) (A : List Nat) : Prop where
  hp : w.heap[b]? = some (.cells #[.slice da n dc, .slice aa n ac, .func (.func 50) #[] #[.pointer (some ⟨gb, 0, none⟩)]] 65 (0, 0))
  dat : Seg w da z
  nil : da = none → dc = 0
  dle : n ≤ dc
  arr : SegZ w aa (nz12 A)
  anil : aa = none → ac = 0
  ale : n ≤ ac
  rk : Rk13 w gb gr n A
  len : z.length = n
  n24 : n ≤ 16777216
  ar : Ar12 n (S12 z) A
theorem Rk13.old {w w' : World} {gb gr n : Nat} {A : List Nat} (h : Rk13 w gb gr n A) (hb : Below w.heap.size w w') : Rk13 w' gb gr n A :=
  ⟨(hb.block gb (Array.getElem?_eq_some_iff.1 h.box).1).trans h.box, h.rks.old hb⟩
theorem Ix13.lt {w : World} {b : Nat} {da : Option Addr} {dc : Nat} {aa : Option Addr} {ac gb gr n : Nat} {z : List Int} {A : List Nat} (h : Ix13 w b da dc aa ac gb gr n z A) : b < w.heap.size := (Array.getElem?_eq_some_iff.1 h.hp).1
theorem Ix13.old {w w' : World} {b : Nat} {da : Option Addr} {dc : Nat} {aa : Option Addr} {ac gb gr n : Nat} {z : List Int} {A : List Nat} (h : Ix13 w b da dc aa ac gb gr n z A) (hb : Below w.heap.size w w') : Ix13 w' b da dc aa ac gb gr n z A :=
  ⟨(hb.block b h.lt).trans h.hp, h.dat.old hb, h.nil, h.dle, h.arr.old hb, h.anil, h.ale, h.rk.old hb, h.len, h.n24, h.ar⟩
theorem Ix13.drewN {w : World} {b : Nat} {da : Option Addr} {dc : Nat} {aa : Option Addr} {ac gb gr n : Nat} {z : List Int} {A : List Nat} (h : Ix13 w b da dc aa ac gb gr n z A) (k : Nat) : Ix13 (w.drewN k) b da dc aa ac gb gr n z A :=
  ⟨h.hp, h.dat.drewN k, h.nil, h.dle, h.arr.drewN k, h.anil, h.ale, ⟨h.rk.box, h.rk.rks.drewN k⟩, h.len, h.n24, h.ar⟩
theorem Ix13.drew {w : World} {b : Nat} {da : Option Addr} {dc : Nat} {aa : Option Addr} {ac gb gr n : Nat} {z : List Int} {A : List Nat} (h : Ix13 w b da dc aa ac gb gr n z A) : Ix13 w.drew b da dc aa ac gb gr n z A :=
  ⟨h.hp, h.dat.drew, h.nil, h.dle, h.arr.drew, h.anil, h.ale, ⟨h.rk.box, h.rk.rks.drew⟩, h.len, h.n24, h.ar⟩
theorem Ix13.c0 {w : World} {b : Nat} {da : Option Addr} {dc : Nat} {aa : Option Addr} {ac gb gr n : Nat} {z : List Int} {A : List Nat} (h : Ix13 w b da dc aa ac gb gr n z A) : w.cell? ⟨b, 0, none⟩ = some (.slice da n dc) := three_cell0 h.hp
theorem Ix13.c1 {w : World} {b : Nat} {da : Option Addr} {dc : Nat} {aa : Option Addr} {ac gb gr n : Nat} {z : List Int} {A : List Nat} (h : Ix13 w b da dc aa ac gb gr n z A) : w.cell? ⟨b, 1, none⟩ = some (.slice aa n ac) := three_cell1 h.hp
theorem Ix13.c2 {w : World} {b : Nat} {da : Option Addr} {dc : Nat} {aa : Option Addr} {ac gb gr n : Nat} {z : List Int} {A : List Nat} (h : Ix13 w b da dc aa ac gb gr n z A) : w.cell? ⟨b, 2, none⟩ = some (.func (.func 50) #[] #[.pointer (some ⟨gb, 0, none⟩)]) := three_cell2 h.hp
theorem nz12_get13 {A : List Nat} {i : Nat} (h : i < A.length) : (nz12 A).getD i 0 = ((A.getD i 0 : Nat) : Int) := by simp [nz12, List.getD, h]
theorem nz12_len13 (A : List Nat) : (nz12 A).length = A.length := by simp [nz12]
theorem nz12_bd13 {A : List Nat} {n : Nat} (h : ∀ j ∈ A, j < n) (hn : n ≤ 16777216) : ∀ z ∈ nz12 A, -9223372036854775808 ≤ z ∧ z ≤ 9223372036854775807 := by
  intro z hz
  unfold nz12 at hz
  rw [List.mem_map] at hz
  obtain ⟨j, hj, rfl⟩ := hz
  have := h j hj
  omega
set_option maxRecDepth 100000 in
set_option maxHeartbeats 1000000 in
/-- The closure: the rank of a place. -/
theorem pclo13 (gb gr n : Nat) (A : List Nat) (S : Nat → Int) (j : Nat) (w : World) (h : Rk13 w gb gr n A) (hj : j < n) (hn : n ≤ 16777216) (hA : Ar12 n S A) :
    Calls Try.prog 50 #[.int .i64 (j : Int), .pointer (some ⟨gb, 0, none⟩)] w fun e w' => e = .returned (.int .i64 ((rk13 A j : Nat) : Int)) ∧ w' = w := by
  have c1 : w.cell? ⟨gb, 0, none⟩ = some (.slice (some ⟨gr, 0, none⟩) (n + 1) (n + 1)) := by simp [World.cell?, h.box]
  have c2 := h.rks.cell (i := j) (by rw [rr13_len]; omega)
  rw [rr13_get hA hj] at c2
  have hr := (hA.rk hj).1
  generalize rk13 A j = r at *
  obtain ⟨N, hN⟩ : ∃ N, N = n + 1 := ⟨_, rfl⟩
  rw [← hN] at c1
  have hji : (j : Int) < (N : Int) := by omega
  clear h hA hN
  go_enter Try.func50, Try.ntmps50
  go_wp2_with fail
  go_ret
  exact ⟨rfl, rfl⟩
set_option maxRecDepth 100000 in
set_option maxHeartbeats 1000000 in
theorem pcle13 (gb gr n : Nat) (A : List Nat) (w : World) (h : Rk13 w gb gr n A) (hn : n ≤ 16777216) :
    Calls Try.prog 50 #[.int .i64 (n : Int), .pointer (some ⟨gb, 0, none⟩)] w fun e w' => e = .returned (.int .i64 (-1)) ∧ w' = w := by
  have c1 : w.cell? ⟨gb, 0, none⟩ = some (.slice (some ⟨gr, 0, none⟩) (n + 1) (n + 1)) := by simp [World.cell?, h.box]
  have c2 := h.rks.cell (i := n) (by rw [rr13_len]; omega)
  rw [rr13_end] at c2
  obtain ⟨N, hN⟩ : ∃ N, N = n + 1 := ⟨_, rfl⟩
  rw [← hN] at c1
  have hji : (n : Int) < (N : Int) := by omega
  clear h hN
  go_enter Try.func50, Try.ntmps50
  go_wp2_with fail
  go_ret
  exact ⟨rfl, rfl⟩
theorem rp13_bd {n : Nat} {A : List Nat} {k : Nat} (hn : n ≤ 16777216) (hk : k ≤ n) (j : Nat) : 0 ≤ (rp13 n A k).getD j 0 ∧ (rp13 n A k).getD j 0 ≤ 16777216 := by
  by_cases h : j < n + 1
  · rw [rp13_get h]; split <;> omega
  · have : (rp13 n A k)[j]? = none := List.getElem?_eq_none (by rw [rp13_len]; omega)
    simp [List.getD, this]
def RkQ13 (w : World) (n : Nat) (A : List Nat) (e : Ending) (w' : World) : Prop := ∃ gb gr, e = .returned (.func (.func 50) #[] #[.pointer (some ⟨gb, 0, none⟩)]) ∧ Rk13 w' gb gr n A ∧ w.heap.size ≤ gb ∧ w.heap.size ≤ gr ∧ Below w.heap.size w w'
set_option maxRecDepth 100000 in
set_option maxHeartbeats 2000000 in
theorem prnk13 (aa : Option Addr) (ac n : Nat) (A : List Nat) (S : Nat → Int) (w : World) (hs : SegZ w aa (nz12 A)) (hA : Ar12 n S A) (hn : n ≤ 16777216) :
    Calls Try.prog 35 #[.slice aa n ac] w (RkQ13 w n A) := by
  have hmf : ∀ (fn : Fn) (first cap : Array Value) (w : World), (Instr.makeFunc fn first cap).run Try.prog w = .ok (.func fn first cap) w := fun _ _ _ _ => rfl
  have hlA : Hid (A.length = n) := hA.len
  have HAR : Hid (Ar12 n S A) := hA
  have HM := run_make_i12 (n + 1) (by omega) w
  rw [show ((n + 1 : Nat) : Int) = (n : Int) + 1 by omega] at HM
  have i1 : IntKind.i64.wrap ((n : Int) + 1) = (n : Int) + 1 := IntWalk.i64_in _ (by omega)
  have hr0 := Rz12.new w (List.replicate (n + 1) 0)
  have hal : Below w.heap.size w (w.alloc (.cells (vi12 (List.replicate (n + 1) 0)) 3)) := (Below.refl _ _).alloc (Nat.le_refl _) _
  have hz1 : (w.alloc (.cells (vi12 (List.replicate (n + 1) 0)) 3)).heap.size = w.heap.size + 1 := by simp
  rw [← rp13_zero n A] at hr0 hal hz1 HM
  have HSG : Hid (∀ W, Below w.heap.size w W → SegZ W aa (nz12 A)) := fun W b => hs.old b
  have HBX : Hid (∀ W : World, Below w.heap.size w W → W.heap.size = w.heap.size + 1 → Rz12 W w.heap.size (rp13 n A 0) → Rz12 (W.alloc (.cells #[.slice (some ⟨w.heap.size, 0, none⟩) (n + 1) (n + 1)] 28)) w.heap.size (rp13 n A 0) ∧ (W.alloc (.cells #[.slice (some ⟨w.heap.size, 0, none⟩) (n + 1) (n + 1)] 28)).heap[w.heap.size + 1]? = some (.cells #[.slice (some ⟨w.heap.size, 0, none⟩) (n + 1) (n + 1)] 28 (0, 0)) ∧ Below w.heap.size w (W.alloc (.cells #[.slice (some ⟨w.heap.size, 0, none⟩) (n + 1) (n + 1)] 28))) := by
    intro W hb hz hR
    have b2 : Below W.heap.size W (W.alloc (.cells #[.slice (some ⟨w.heap.size, 0, none⟩) (n + 1) (n + 1)] 28)) := (Below.refl _ _).alloc (Nat.le_refl _) _
    refine ⟨hR.old b2, ?_, hb.trans (b2.mono (by omega))⟩
    have := heap_alloc_new W (.cells #[.slice (some ⟨w.heap.size, 0, none⟩) (n + 1) (n + 1)] 28)
    rw [hz] at this
    exact this
  have HB0 := HBX.out _ hal hz1 hr0
  clear HBX hal hr0 hs hA
  generalize hg : w.heap.size = g at *
  generalize hW0 : w.alloc (.cells (vi12 (rp13 n A 0)) 3) = W0 at *
  have HW : Hid (W0 = w.alloc (.cells (vi12 (rp13 n A 0)) 3)) := hW0.symm
  have HG : Hid (w.heap.size = g) := hg
  clear hg hW0
  obtain ⟨N, hN⟩ : ∃ N, N = n + 1 := ⟨_, rfl⟩
  have HN : Hid (N = n + 1) := hN
  rw [← hN] at HM HB0
  have hNi : (N : Int) = (n : Int) + 1 := by omega
  clear hN
  go_enter Try.func35, Try.ntmps35
  go_wp2_with fail
  go_loopw [12] (fun ti wr => ∃ k : Nat, k ≤ n ∧ ti = .int .i64 k ∧ Rz12 wr g (rp13 n A k) ∧ wr.heap[g + 1]? = some (.cells #[.slice (some ⟨g, 0, none⟩) N N] 28 (0, 0)) ∧ Below g w wr) (fun ti _ => n - (intOf ti).toNat)
  case atStart => exact ⟨0, Nat.zero_le _, rfl, HB0.1, HB0.2.1, HB0.2.2⟩
  case round =>
    obtain ⟨k, hk, rfl, hR, hX, hb2⟩ := hrel
    have cx : wr.cell? ⟨g + 1, 0, none⟩ = some (.slice (some ⟨g, 0, none⟩) N N) := by simp [World.cell?, hX]
    by_cases h1 : k < n
    · have h1i : (k : Int) < (n : Int) := by omega
      obtain ⟨bb, off, rfl, c1⟩ := (HSG.out wr hb2).at_ k (by rw [nz12_len13, hlA.out]; exact h1)
      rw [nz12_get13 (by rw [hlA.out]; exact h1)] at c1
      have hv := HAR.out.get h1
      have k1 := hR.cell (i := A.getD k 0) (by rw [rp13_len]; omega)
      have k2 := hR.free (A.getD k 0)
      have HS1 : Hid (Rz12 (wr.setCell ⟨g, A.getD k 0, none⟩ (.int .i64 (k : Int))) g (rp13 n A (k + 1))) := by
        have := hR.set (A.getD k 0) (k : Int)
        rw [rp13_set HAR.out h1] at this
        exact this
      have KP : Kp (fun j => j = g) wr (wr.setCell ⟨g, A.getD k 0, none⟩ (.int .i64 (k : Int))) := Kp.set (S := fun j => j = g) rfl _
      have HS2 : Hid ((wr.setCell ⟨g, A.getD k 0, none⟩ (.int .i64 (k : Int))).heap[g + 1]? = some (.cells #[.slice (some ⟨g, 0, none⟩) N N] 28 (0, 0))) := KP.heap hX (by omega)
      have HS4 : Hid (Below g w (wr.setCell ⟨g, A.getD k 0, none⟩ (.int .i64 (k : Int)))) := hb2.trans (KP.below (fun j h => by omega) (by have := hR.lt; omega))
      have hvN : ((A.getD k 0 : Nat) : Int) < (N : Int) := by omega
      clear hR KP
      generalize (rp13 n A k).getD (A.getD k 0) 0 = y at *
      generalize A.getD k 0 = v at *
      go_wp2_with fail
      go_roundw
      case rel => exact ⟨k + 1, by omega, by go_num, HS1.out, HS2.out, HS4.out⟩
      case measure => simp [intOf]; omega
    · have h1i : ¬ (k : Int) < (n : Int) := by omega
      obtain rfl : k = n := by omega
      have k1 := hR.cell (i := k) (by rw [rp13_len]; omega)
      have k2 := hR.free k
      have hkN : (k : Int) < (N : Int) := by omega
      have HS1 : Hid (Rz12 (wr.setCell ⟨g, k, none⟩ (.int .i64 (-1))) g (rr13 k A)) := hR.set k (-1)
      have KP : Kp (fun j => j = g) wr (wr.setCell ⟨g, k, none⟩ (.int .i64 (-1))) := Kp.set (S := fun j => j = g) rfl _
      have HS2 : Hid ((wr.setCell ⟨g, k, none⟩ (.int .i64 (-1))).heap[g + 1]? = some (.cells #[.slice (some ⟨g, 0, none⟩) N N] 28 (0, 0))) := KP.heap hX (by omega)
      have HS4 : Hid (Below g w (wr.setCell ⟨g, k, none⟩ (.int .i64 (-1)))) := hb2.trans (KP.below (fun j h => by omega) (by have := hR.lt; omega))
      clear hR KP
      generalize (rp13 k A k).getD k 0 = y at *
      go_wp2_with fail
      go_ret
      have h2 := HS2.out
      rw [HN.out] at h2
      refine ⟨g + 1, g, rfl, ⟨h2, HS1.out⟩, by rw [HG.out]; omega, by rw [HG.out]; omega, by rw [HG.out]; exact HS4.out⟩
def NixQ13 (w : World) (aa : Option Addr) (ac : Nat) (z : List Int) (A : List Nat) (n : Nat) (e : Ending) (w' : World) : Prop := ∃ b da dc gb gr, e = .returned (.pointer (some ⟨b, 0, none⟩)) ∧ Ix13 w' b da dc aa ac gb gr n z A ∧ Below w.heap.size w w' ∧ w.heap.size ≤ b ∧ w.heap.size ≤ gb ∧ w.heap.size ≤ gr ∧ (∀ x off, da = some ⟨x, off, none⟩ → w.heap.size ≤ x)
set_option maxRecDepth 100000 in
set_option maxHeartbeats 2000000 in
theorem pnix13 (xa : Option Addr) (xc : Nat) (aa : Option Addr) (ac n : Nat) (z : List Int) (A : List Nat) (w : World) (hx : Seg w xa z) (hxn : xa = none → xc = 0) (hs : SegZ w aa (nz12 A)) (han : aa = none → ac = 0) (hale : n ≤ ac) (hz : Hid (z.length = n)) (hA : Ar12 n (S12 z) A) (hn : n ≤ 16777216) :
    Calls Try.prog 22 #[.slice xa n xc, .slice aa n ac] w (NixQ13 w aa ac z A n) := by
  have HC := pclb13 xa z n xc w hx hz hxn (by omega)
  have HR : Hid (∀ w1, Below w.heap.size w w1 → Calls Try.prog 35 #[.slice aa n ac] w1 (RkQ13 w1 n A)) := fun w1 b1 => prnk13 aa ac n A (S12 z) w1 (hs.old b1) hA hn
  have HF : Hid (∀ W, Below w.heap.size w W → SegZ W aa (nz12 A)) := fun W b => hs.old b
  have HA : Hid (Ar12 n (S12 z) A) := hA
  have HV := seg_bd13 hx
  have HV2 : Hid (∀ y ∈ z, 0 ≤ y ∧ y ≤ 255) := HV
  clear hs hA HV hx
  go_enter Try.func22, Try.ntmps22
  go_wp2_with (first
    | (go_at_call 34; refine HC.mono ?_; rintro e1 w1 ⟨da, dc, rfl, hnil, hown, B1⟩)
    | (go_at_call 35; refine (HR.out w1 B1).mono ?_; rintro e2 w2 ⟨gb, gr, rfl, hrk, hgb, hgr, B2⟩))
  go_ret
  have S1 := B1.size
  have S2 := B2.size
  have B12 : Below w.heap.size w w2 := B1.trans (B2.mono S1)
  have B3 : Below w2.heap.size w2 (w2.alloc (.cells #[.slice da n dc, .slice aa n ac, .func (.func 50) #[] #[.pointer (some ⟨gb, 0, none⟩)]] 65)) := (Below.refl _ _).alloc (Nat.le_refl _) _
  have hseg := own_seg13 hown HV2.out
  refine ⟨w2.heap.size, da, dc, gb, gr, rfl, ⟨heap_alloc_new w2 _, (hseg.old B2).old B3, fun h => (hnil h).1, own_le13 hown, (HF.out w2 B12).old B3, han, hale, hrk.old B3, hz.out, hn, HA.out⟩, B12.trans (B3.mono (by omega)), by omega, by omega, by omega, ?_⟩
  intro x off hda
  subst hda
  rcases hown.2 with ⟨h1, _⟩ | ⟨g, cp, cur, hv, hg, _⟩
  · cases h1
  · simp only [Value.slice.injEq, Option.some.injEq] at hv
    obtain ⟨h1, _⟩ := hv
    cases h1
    exact hg
def NewQ13 (w : World) (z : List Int) (n : Nat) (e : Ending) (w' : World) : Prop := ∃ b da dc aa ac gb gr A, e = .returned (.tuple #[.pointer (some ⟨b, 0, none⟩), .int .i64 0]) ∧ Ix13 w' b da dc aa ac gb gr n z A ∧ Below w.heap.size w w' ∧ w.heap.size ≤ b ∧ w.heap.size ≤ gb ∧ w.heap.size ≤ gr ∧ (∀ x off, da = some ⟨x, off, none⟩ → w.heap.size ≤ x) ∧ (∀ x off, aa = some ⟨x, off, none⟩ → w.heap.size ≤ x)
set_option maxRecDepth 100000 in
set_option maxHeartbeats 2000000 in
theorem pnew13 (a : Option Addr) (z : List Int) (n cap : Nat) (w : World) (hs : Seg w a z) (hnil : a = none → cap = 0) (hn : Hid (z.length = n)) (hb : n ≤ 16777216) :
    Calls Try.prog 13 #[.slice a n cap] w (NewQ13 w z n) := by
  have HS := psort13 a z n cap w hs hn hb
  have HX : Hid (∀ w1 g A, Below w.heap.size w w1 → Rz12 w1 g (nz12 A) → Ar12 n (S12 z) A → Calls Try.prog 22 #[.slice a n cap, .slice (some ⟨g, 0, none⟩) n n] w1 (NixQ13 w1 (some ⟨g, 0, none⟩) n z A n)) :=
    fun w1 g A b1 R hA => pnix13 a cap (some ⟨g, 0, none⟩) n n z A w1 (hs.old b1) hnil (R.seg (nz12_bd13 hA.lt hb)) (by intro h; cases h) (Nat.le_refl _) hn hA hb
  clear hs
  go_enter Try.func13, Try.ntmps13
  go_wp2_with (first
    | (go_at_call 21; refine HS.mono ?_; rintro e1 w1 ⟨g, A, rfl, RA, hg, hA, B1⟩)
    | (go_at_call 22; refine (HX.out w1 g A B1 RA hA).mono ?_; rintro e2 w2 ⟨b, da, dc, gb, gr, rfl, hI, B2, q1, q2, q3, q4⟩))
  refine bodyPost_ret (results_tmp2 rfl _ _ _) rfl ?_
  have S1 := B1.size
  exact ⟨b, da, dc, _, _, gb, gr, A, rfl, hI, B1.trans (B2.mono S1), by omega, by omega, by omega, fun x off h => Nat.le_trans S1 (q4 x off h), fun x off h => by cases h; exact hg⟩
set_option maxRecDepth 100000 in
set_option maxHeartbeats 2000000 in
theorem pnewn13 (a : Option Addr) (n cap : Nat) (w : World) (hb : 16777216 < n) (hb2 : n ≤ 9223372036854775807) :
    Calls Try.prog 13 #[.slice a n cap] w fun e w' => e = .returned (.tuple #[.pointer none, .int .i64 130]) ∧ w' = w := by
  have HS := psortn13 a n cap w hb hb2
  go_enter Try.func13, Try.ntmps13
  go_wp2_with (first
    | (go_at_call 21; refine HS.mono ?_; rintro e1 w1 ⟨rfl, hw1⟩; subst hw1))
  refine bodyPost_ret (results_tmp2 rfl _ _ _) rfl ?_
  exact ⟨rfl, rfl⟩
end Go.Proofs.Ytkpfailmmcelcaa

namespace Go.Proofs.Ytkpfailmmcelcaa
open Go.RowKit
set_option linter.unusedVariables false

/-! The landed suffix: made, Array. -/
theorem run_neq_func13 {P : Program} (w : World) {t : TypeId} {a b : Array TypeId} {c : Bool} (f : Fn) (x y : Array Value) (h : P.underlying t = some (.func a b c)) :
    (binOp .neq t (.func f x y) .nilFunc).run P w = .ok (.bool true) w := by
  have k : ∀ d : Nat, (Op.equalIn (d + 1) t (.func f x y) .nilFunc).run P w = .ok false w := fun d => by simp [Op.equalIn, run_underlying h]
  simp only [binOp]
  simp [Op.equal, Op.maxDepth, k 9999]
theorem run_neq_nilfunc13 {P : Program} (w : World) {t : TypeId} {a b : Array TypeId} {c : Bool} (h : P.underlying t = some (.func a b c)) :
    (binOp .neq t .nilFunc .nilFunc).run P w = .ok (.bool false) w := by
  have k : ∀ d : Nat, (Op.equalIn (d + 1) t .nilFunc .nilFunc).run P w = .ok true w := fun d => by simp [Op.equalIn, run_underlying h]
  simp only [binOp]
  simp [Op.equal, Op.maxDepth, k 9999]
set_option maxRecDepth 100000 in
theorem pmade13 (b : Nat) (da : Option Addr) (dc : Nat) (aa : Option Addr) (ac gb gr n : Nat) (z : List Int) (A : List Nat) (w : World) (h : Ix13 w b da dc aa ac gb gr n z A) :
    Calls Try.prog 39 #[.pointer (some ⟨b, 0, none⟩)] w fun e w' => e = .returned (.bool true) ∧ w' = w := by
  have c2 := h.c2
  have HE := fun f x y => run_neq_func13 (P := Try.prog) w f x y Try.underlying62
  clear h
  go_enter Try.func39, Try.ntmps39
  go_wp2_with fail
  go_ret
  exact ⟨rfl, rfl⟩
def RowI13 (w w' : World) (n : Nat) (L : List Int) (ra : Option Addr) (rc : Nat) : Prop := w'.ownsRow w.heap.size 3 1 (.slice ra n rc) n (L.map (Value.int .i64))
def AnI13 (w : World) (n : Nat) (L : List Int) (e : Ending) (w' : World) : Prop := ∃ ra rc, e = .returned (.slice ra n rc) ∧ (ra = none → rc = 0) ∧ w'.ownsRow w.heap.size 3 1 (.slice ra n rc) n (L.map (Value.int .i64)) ∧ Below w.heap.size w w'
def AnB13 (w : World) (n : Nat) (L : List Int) (e : Ending) (w' : World) : Prop := ∃ ra rc, e = .returned (.slice ra n rc) ∧ (ra = none → rc = 0) ∧ w'.ownsRow w.heap.size 5 1 (.slice ra n rc) n (L.map (Value.int .u8)) ∧ Below w.heap.size w w'
end Go.Proofs.Ytkpfailmmcelcaa

namespace Go.Proofs.Ytkpfailmmcelcaa
open Go.RowKit
set_option linter.unusedVariables false

/-! The landed suffix: same, Common, Lcp. -/
theorem lc13_more {a b : List Int} {k : Nat} (h : k ≤ lc13 a b) (ha : k < a.length) (hb : k < b.length) : a.getD k 0 = b.getD k 0 → k + 1 ≤ lc13 a b := by
  intro e
  rcases Nat.lt_or_ge k (lc13 a b) with c | c
  · exact c
  · have : k = lc13 a b := by omega
    subst this
    exact absurd e (lc13_end a b ha hb)
theorem lc13_stop {a b : List Int} {k : Nat} (h : k ≤ lc13 a b) : ¬ a.getD k 0 = b.getD k 0 → lc13 a b = k := by
  intro e
  rcases Nat.lt_or_ge k (lc13 a b) with c | c
  · exact absurd (lc13_get a b k c) e
  · omega
set_option maxRecDepth 100000 in
set_option maxHeartbeats 2000000 in
theorem psame13 (xa : Option Addr) (X : List Int) (m xc : Nat) (ya : Option Addr) (Y : List Int) (q yc : Nat) (k : Nat) (w : World) (hx : Seg w xa X) (hy : Seg w ya Y) (hm : Hid (X.length = m)) (hq : Hid (Y.length = q)) (hb : m ≤ 9223372036854775807) (hb2 : q ≤ 9223372036854775807) (hk : k ≤ lc13 X Y) :
    Calls Try.prog 56 #[.slice xa m xc, .slice ya q yc, .int .i64 (k : Int)] w fun e w' => e = .returned (.int .i64 ((lc13 X Y : Nat) : Int)) ∧ ∃ d, w' = w.drewN d := by
  have HL : Hid (lc13 X Y ≤ m ∧ lc13 X Y ≤ q) := ⟨by rw [← hm.out]; exact lc13_le X Y, by rw [← hq.out]; exact lc13_le' X Y⟩
  obtain ⟨t, ht⟩ : ∃ t, t = min m q := ⟨_, rfl⟩
  have HT : Hid (t = min m q) := ht
  have e1 : (if (q : Int) < (m : Int) then (q : Int) else (m : Int)) = (t : Int) := by split <;> omega
  have e2 : (if q < m then (q : Int) else (m : Int)) = (t : Int) := by split <;> omega
  have e3 : min (m : Int) (q : Int) = (t : Int) := by omega
  clear ht
  have KEY : Hid (∀ wr, (∃ d, wr = w.drewN d) → Seg wr xa X ∧ Seg wr ya Y) := by
    rintro wr ⟨d, rfl⟩
    exact ⟨hx.drewN d, hy.drewN d⟩
  clear hx hy
  by_cases hmq : q < m
  · have hmqi : (q : Int) < (m : Int) := by omega
    obtain rfl : t = q := by have := HT.out; omega
    clear e1 e2 e3
    go_enter Try.func56, Try.ntmps56
    go_wp2_with fail
    go_loopw [2] (fun ti wr => ∃ i : Nat, Hid (i ≤ lc13 X Y) ∧ ti = .int .i64 i ∧ ∃ d, wr = w.drewN d) (fun ti _ => m - (intOf ti).toNat)
    case atStart => exact ⟨k, hk, rfl, 0, rfl⟩
    case round =>
      obtain ⟨i, HI, rfl, hd⟩ := hrel
      obtain ⟨sx, sy⟩ := KEY.out wr hd
      obtain ⟨d, hd⟩ := hd
      have HD : Hid (wr = w.drewN d) := hd
      clear hd
      have hib : i ≤ t := by have := HL.out; have := HI.out; omega
      by_cases h1 : i < t
      · have h1i : (i : Int) < (t : Int) := by omega
        have h2i : (i : Int) < (m : Int) := by omega
        obtain ⟨b1, o1, rfl, c1⟩ := sx.at_ i (by rw [hm.out]; omega)
        obtain ⟨b2, o2, rfl, c2⟩ := sy.at_ i (by rw [hq.out]; omega)
        have v1 := sx.bd i
        have v2 := sy.bd i
        have HEQ : Hid (X.getD i 0 = Y.getD i 0 → i + 1 ≤ lc13 X Y) := lc13_more HI.out (by rw [hm.out]; omega) (by rw [hq.out]; omega)
        have HNE : Hid (¬ X.getD i 0 = Y.getD i 0 → lc13 X Y = i) := lc13_stop HI.out
        clear sx sy
        generalize X.getD i 0 = x at *
        generalize Y.getD i 0 = y at *
        by_cases hxy : x = y
        · subst hxy
          have HEQ2 : Hid (i + 1 ≤ lc13 X Y) := HEQ.out rfl
          clear HEQ HNE
          go_wp2_with fail
          go_region
          go_wp2_with fail
          go_roundw
          case rel => exact ⟨i + 1, HEQ2, by go_num, d + 1, by rw [HD.out]; rfl⟩
          case measure => simp [intOf]; omega
        · have HNE2 : Hid (lc13 X Y = i) := HNE.out hxy
          clear HEQ HNE
          go_wp2_with fail
          go_region
          go_wp2_with fail
          go_ret
          exact ⟨by rw [HNE2.out]; rfl, d + 1, by rw [HD.out]; rfl⟩
      · have h1i : ¬ (i : Int) < (t : Int) := by omega
        have HE : Hid (lc13 X Y = i) := by show _ = _; have := HL.out; have := HI.out; omega
        go_wp2_with fail
        go_region
        go_wp2_with fail
        go_ret
        exact ⟨by rw [HE.out]; rfl, d + 1, by rw [HD.out]; rfl⟩
  · have hmqi : ¬ (q : Int) < (m : Int) := by omega
    obtain rfl : t = m := by have := HT.out; omega
    clear e1 e2 e3
    go_enter Try.func56, Try.ntmps56
    go_wp2_with fail
    go_loopw [2] (fun ti wr => ∃ i : Nat, Hid (i ≤ lc13 X Y) ∧ ti = .int .i64 i ∧ ∃ d, wr = w.drewN d) (fun ti _ => t - (intOf ti).toNat)
    case atStart => exact ⟨k, hk, rfl, 0, rfl⟩
    case round =>
      obtain ⟨i, HI, rfl, hd⟩ := hrel
      obtain ⟨sx, sy⟩ := KEY.out wr hd
      obtain ⟨d, hd⟩ := hd
      have HD : Hid (wr = w.drewN d) := hd
      clear hd
      have hib : i ≤ t := by have := HL.out; have := HI.out; omega
      by_cases h1 : i < t
      · have h1i : (i : Int) < (t : Int) := by omega
        have h2i : (i : Int) < (q : Int) := by omega
        obtain ⟨b1, o1, rfl, c1⟩ := sx.at_ i (by rw [hm.out]; omega)
        obtain ⟨b2, o2, rfl, c2⟩ := sy.at_ i (by rw [hq.out]; omega)
        have v1 := sx.bd i
        have v2 := sy.bd i
        have HEQ : Hid (X.getD i 0 = Y.getD i 0 → i + 1 ≤ lc13 X Y) := lc13_more HI.out (by rw [hm.out]; omega) (by rw [hq.out]; omega)
        have HNE : Hid (¬ X.getD i 0 = Y.getD i 0 → lc13 X Y = i) := lc13_stop HI.out
        clear sx sy
        generalize X.getD i 0 = x at *
        generalize Y.getD i 0 = y at *
        by_cases hxy : x = y
        · subst hxy
          have HEQ2 : Hid (i + 1 ≤ lc13 X Y) := HEQ.out rfl
          clear HEQ HNE
          go_wp2_with fail
          go_region
          go_wp2_with fail
          go_roundw
          case rel => exact ⟨i + 1, HEQ2, by go_num, d + 1, by rw [HD.out]; rfl⟩
          case measure => simp [intOf]; omega
        · have HNE2 : Hid (lc13 X Y = i) := HNE.out hxy
          clear HEQ HNE
          go_wp2_with fail
          go_region
          go_wp2_with fail
          go_ret
          exact ⟨by rw [HNE2.out]; rfl, d + 1, by rw [HD.out]; rfl⟩
      · have h1i : ¬ (i : Int) < (t : Int) := by omega
        have HE : Hid (lc13 X Y = i) := by show _ = _; have := HL.out; have := HI.out; omega
        go_wp2_with fail
        go_region
        go_wp2_with fail
        go_ret
        exact ⟨by rw [HE.out]; rfl, d + 1, by rw [HD.out]; rfl⟩
end Go.Proofs.Ytkpfailmmcelcaa
