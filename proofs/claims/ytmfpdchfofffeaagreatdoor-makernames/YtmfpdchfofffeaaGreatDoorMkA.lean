import Derived.Test.YtmfpdchfofffeaaGreatDoorFr7
import Derived.Test.YtmfpdchfofffeaaGreatDoorLzR4
import Derived.Laws.ResultCell
namespace Go.Proofs.YtmfpdchfofffeaaGreatDoor
open Go.RowKit Go.Shelf
set_option linter.unusedVariables false
set_option linter.unusedSimpArgs false
def po20 (k c B : Int) : Int := if opt7 k c ≠ 0 ∨ B < 1 ∨ 65536 < B then 100 else 0
def op20 (W k c B : Int) : Int := if W < 64 ∨ 65536 < W ∨ po20 k c B ≠ 0 then 200 else 0
def pr20 (k c : Int) (z : Bool) (B : Int) : Value := .agg #[.int .i64 k, .int .i64 c, .bool z, .int .i64 B]
def ov20 (W k c : Int) (z : Bool) (B : Int) : Value := .agg #[.int .i64 W, .int .i64 k, .int .i64 c, .bool z, .int .i64 B]
set_option maxRecDepth 100000 in
set_option maxHeartbeats 1000000 in
theorem ppop20 (k c : Int) (z : Bool) (B : Int) (w : World) : Calls Tryz.prog 12 #[pr20 k c z B] w fun e w' => e = .returned (.int .i64 (po20 k c B)) ∧ Below w.heap.size w w' := by
  unfold pr20
  obtain ⟨wA, hwA⟩ : ∃ wA, wA = w.alloc (.cells #[.int .i64 k, .int .i64 c, .bool z, .int .i64 B] 29) := ⟨_, rfl⟩
  have cA := cb16 w #[.int .i64 k, .int .i64 c, .bool z, .int .i64 B] 29
  rw [← hwA] at cA
  obtain ⟨b4, hb4⟩ : ∃ b4, b4 = w.heap.size := ⟨_, rfl⟩
  have HWA : Hid (w.alloc (.cells #[.int .i64 k, .int .i64 c, .bool z, .int .i64 B] 29) = wA) := hwA.symm
  have HB4 : Hid (w.heap.size = b4) := hb4.symm
  have OP : Hid (Calls Tryz.prog 24 #[.agg #[.int .i64 k, .int .i64 c, .bool z]] wA fun e w' => e = .returned (.int .i64 (opt7 k c)) ∧ Below wA.heap.size wA w') := popt7 k c z wA
  have HQ : Hid (∀ V, Below wA.heap.size wA V → V.cell? ⟨b4, 3, none⟩ = some (.int .i64 B)) := fun V hV => by
    have q0 := cA.cl
    rw [← hb4] at q0
    exact cell18 ((hV.block _ (Array.getElem?_eq_some_iff.1 q0).1).trans q0) rfl
  have HA : Hid (Below w.heap.size w wA) := cA.bl
  clear hwA cA hb4
  generalize hx : opt7 k c = x at *
  by_cases h0 : x = 0
  · subst h0
    by_cases h1 : B < 1
    · have HE : po20 k c B = 100 := by unfold po20; rw [if_pos (.inr (.inl h1))]
      rw [HE]
      clear HE hx
      go_enter Tryz.func12, Tryz.ntmps12
      go_wp2_with fail
      rw [HWA.out, HB4.out]
      refine OP.out.mono ?_
      rintro e1 w1 ⟨rfl, b1⟩
      have c3 := HQ.out w1 b1
      go_wp2_with fail
      go_ret
      exact ⟨rfl, HA.out.trans (b1.mono HA.out.size)⟩
    · by_cases h2 : 65536 < B
      · have HE : po20 k c B = 100 := by unfold po20; rw [if_pos (.inr (.inr h2))]
        rw [HE]
        clear HE hx
        go_enter Tryz.func12, Tryz.ntmps12
        go_wp2_with fail
        rw [HWA.out, HB4.out]
        refine OP.out.mono ?_
        rintro e1 w1 ⟨rfl, b1⟩
        have c3 := HQ.out w1 b1
        go_wp2_with fail
        go_ret
        exact ⟨rfl, HA.out.trans (b1.mono HA.out.size)⟩
      · have HE : po20 k c B = 0 := by unfold po20; rw [if_neg (by rw [hx]; omega)]
        rw [HE]
        clear HE hx
        go_enter Tryz.func12, Tryz.ntmps12
        go_wp2_with fail
        rw [HWA.out, HB4.out]
        refine OP.out.mono ?_
        rintro e1 w1 ⟨rfl, b1⟩
        have c3 := HQ.out w1 b1
        go_wp2_with fail
        go_ret
        exact ⟨rfl, HA.out.trans (b1.mono HA.out.size)⟩
  · have HE : po20 k c B = 100 := by unfold po20; rw [if_pos (.inl (by rw [hx]; exact h0))]
    rw [HE]
    clear HE hx
    go_enter Tryz.func12, Tryz.ntmps12
    go_wp2_with fail
    rw [HWA.out, HB4.out]
    refine OP.out.mono ?_
    rintro e1 w1 ⟨rfl, b1⟩
    go_wp2_with fail
    go_ret
    exact ⟨rfl, HA.out.trans (b1.mono HA.out.size)⟩
set_option maxRecDepth 100000 in
set_option maxHeartbeats 1000000 in
theorem pops20 (W k c : Int) (z : Bool) (B : Int) (w : World) : Calls Tryz.prog 7 #[ov20 W k c z B] w fun e w' => e = .returned (.int .i64 (op20 W k c B)) ∧ Below w.heap.size w w' := by
  unfold ov20
  obtain ⟨wA, hwA⟩ : ∃ wA, wA = w.alloc (.cells #[.int .i64 W, .int .i64 k, .int .i64 c, .bool z, .int .i64 B] 31) := ⟨_, rfl⟩
  have cA := cb16 w #[.int .i64 W, .int .i64 k, .int .i64 c, .bool z, .int .i64 B] 31
  rw [← hwA] at cA
  obtain ⟨b4, hb4⟩ : ∃ b4, b4 = w.heap.size := ⟨_, rfl⟩
  have HWA : Hid (w.alloc (.cells #[.int .i64 W, .int .i64 k, .int .i64 c, .bool z, .int .i64 B] 31) = wA) := hwA.symm
  have HB4 : Hid (w.heap.size = b4) := hb4.symm
  have q0 := cA.cl
  rw [← hb4] at q0
  have c0 : wA.cell? ⟨b4, 0, none⟩ = some (.int .i64 W) := cell18 q0 rfl
  have c1 : wA.cell? ⟨b4, 1, none⟩ = some (.int .i64 k) := cell18 q0 rfl
  have c2 : wA.cell? ⟨b4, 2, none⟩ = some (.int .i64 c) := cell18 q0 rfl
  have c3 : wA.cell? ⟨b4, 3, none⟩ = some (.bool z) := cell18 q0 rfl
  have c4 : wA.cell? ⟨b4, 4, none⟩ = some (.int .i64 B) := cell18 q0 rfl
  rw [← HWA.out, ← HB4.out] at c0 c1 c2 c3 c4
  have OP : Hid (Calls Tryz.prog 12 #[.agg #[.int .i64 k, .int .i64 c, .bool z, .int .i64 B]] wA fun e w' => e = .returned (.int .i64 (po20 k c B)) ∧ Below wA.heap.size wA w') := ppop20 k c z B wA
  have HA : Hid (Below w.heap.size w wA) := cA.bl
  clear hwA cA hb4 q0
  generalize hx : po20 k c B = x at *
  by_cases h1 : W < 64
  · have HE : op20 W k c B = 200 := by unfold op20; rw [if_pos (.inl h1)]
    rw [HE]
    clear HE hx OP
    go_enter Tryz.func7, Tryz.ntmps7
    go_wp2_with fail
    go_ret
    rw [HWA.out]
    exact ⟨rfl, HA.out⟩
  · by_cases h2 : 65536 < W
    · have HE : op20 W k c B = 200 := by unfold op20; rw [if_pos (.inr (.inl h2))]
      rw [HE]
      clear HE hx OP
      go_enter Tryz.func7, Tryz.ntmps7
      go_wp2_with fail
      go_ret
      rw [HWA.out]
      exact ⟨rfl, HA.out⟩
    · by_cases h0 : x = 0
      · have HE : op20 W k c B = 0 := by unfold op20; rw [if_neg (by rw [hx]; omega)]
        rw [HE]
        subst h0
        clear HE hx
        go_enter Tryz.func7, Tryz.ntmps7
        go_wp2_with fail
        rw [HWA.out]
        refine OP.out.mono ?_
        rintro e1 w1 ⟨rfl, b1⟩
        go_wp2_with fail
        go_ret
        exact ⟨rfl, HA.out.trans (b1.mono HA.out.size)⟩
      · have HE : op20 W k c B = 200 := by unfold op20; rw [if_pos (.inr (.inr (by rw [hx]; exact h0)))]
        rw [HE]
        clear HE hx
        go_enter Tryz.func7, Tryz.ntmps7
        go_wp2_with fail
        rw [HWA.out]
        refine OP.out.mono ?_
        rintro e1 w1 ⟨rfl, b1⟩
        go_wp2_with fail
        go_ret
        exact ⟨rfl, HA.out.trans (b1.mono HA.out.size)⟩
set_option maxRecDepth 100000 in
theorem pmus20 (v : Value) (w : World) : Calls Tryz.prog 26 #[.bool true, v] w fun e w' => e = .returned (.tuple #[]) ∧ w' = w := by
  go_enter Tryz.func26, Tryz.ntmps26
  go_wp2
  go_end0
  exact ⟨rfl, rfl⟩
set_option maxRecDepth 100000 in
theorem ppas20 (w : World) : Calls Tryz.prog 27 #[.int .i64 0] w fun e w' => e = .returned (.tuple #[]) ∧ w' = w := by
  have M := pmus20 (.int .i64 0) w
  go_enter Tryz.func27, Tryz.ntmps27
  go_wp2_with fail
  refine M.mono ?_
  rintro e1 w1 ⟨rfl, hw1⟩
  subst w1
  go_wp2
  go_end0
  exact ⟨rfl, rfl⟩
set_option maxRecDepth 100000 in
theorem pgot20i (v : Value) (w : World) : Calls Tryz.prog 31 #[v, .int .i64 0] w fun e w' => e = .returned v ∧ w' = w := by
  have M := ppas20 w
  go_enter Tryz.func31, Tryz.ntmps31
  go_wp2_with fail
  refine M.mono ?_
  rintro e1 w1 ⟨rfl, hw1⟩
  subst w1
  go_wp2
  go_ret
  exact ⟨rfl, rfl⟩
set_option maxRecDepth 100000 in
theorem pgot20s (v : Value) (w : World) : Calls Tryz.prog 29 #[v, .int .i64 0] w fun e w' => e = .returned v ∧ w' = w := by
  have M := ppas20 w
  go_enter Tryz.func29, Tryz.ntmps29
  go_wp2_with fail
  refine M.mono ?_
  rintro e1 w1 ⟨rfl, hw1⟩
  subst w1
  go_wp2
  go_ret
  exact ⟨rfl, rfl⟩
set_option maxRecDepth 100000 in
theorem pgot20w (v : Value) (w : World) : Calls Tryz.prog 35 #[v, .int .i64 0] w fun e w' => e = .returned v ∧ w' = w := by
  have M := ppas20 w
  go_enter Tryz.func35, Tryz.ntmps35
  go_wp2_with fail
  refine M.mono ?_
  rintro e1 w1 ⟨rfl, hw1⟩
  subst w1
  go_wp2
  go_ret
  exact ⟨rfl, rfl⟩
set_option maxRecDepth 100000 in
theorem pgot20b (v : Value) (w : World) : Calls Tryz.prog 37 #[v, .int .i64 0] w fun e w' => e = .returned v ∧ w' = w := by
  have M := ppas20 w
  go_enter Tryz.func37, Tryz.ntmps37
  go_wp2_with fail
  refine M.mono ?_
  rintro e1 w1 ⟨rfl, hw1⟩
  subst w1
  go_wp2
  go_ret
  exact ⟨rfl, rfl⟩
theorem grow20 (w : World) (g : Nat) (cs : Array Value) : Kp (fun k => k = g) w (w.setRow g cs) := ⟨rfl, rfl, rfl, by simp [World.setRow], fun k _ hk => setRow_other w g k cs (by intro e; first | exact hk e | exact hk e.symm)⟩
set_option maxRecDepth 100000 in
theorem pgot20e (sa : Option Addr) (n sc : Nat) (da : Option Addr) (m dc : Nat) (xa : Option Addr) (k xc : Nat) (w : World) : Calls Tryz.prog 33 #[.agg #[.slice sa n sc, .slice da m dc, .slice xa k xc], .int .i64 0] w fun e w' => e = .returned (.agg #[.slice sa n sc, .slice da m dc, .slice xa k xc]) ∧ Below w.heap.size w w' := by
  obtain ⟨wA, hwA⟩ : ∃ wA, wA = w.alloc (.cells #[.slice sa n sc, .slice da m dc, .slice xa k xc] 48) := ⟨_, rfl⟩
  have cA := cb16 w #[.slice sa n sc, .slice da m dc, .slice xa k xc] 48
  rw [← hwA] at cA
  obtain ⟨wB, hwB⟩ : ∃ wB, wB = wA.alloc (.cells #[.slice none 0 0, .slice none 0 0, .slice none 0 0] 48) := ⟨_, rfl⟩
  have cB := cb16 wA #[.slice none 0 0, .slice none 0 0, .slice none 0 0] 48
  rw [← hwB] at cB
  have HW : Hid (w.alloc (.cells #[.slice sa n sc, .slice da m dc, .slice xa k xc] 48) = wA ∧ wA.alloc (.cells #[.slice none 0 0, .slice none 0 0, .slice none 0 0] 48) = wB) := ⟨hwA.symm, hwB.symm⟩
  have M := ppas20 wB
  have qa : wB.heap[w.heap.size]? = some (.cells #[.slice sa n sc, .slice da m dc, .slice xa k xc] 48 (0, 0)) := (cB.bl.block _ (by have := cA.sz; omega)).trans cA.cl
  have qb : wB.heap[w.heap.size + 1]? = some (.cells #[.slice none 0 0, .slice none 0 0, .slice none 0 0] 48 (0, 0)) := by rw [show w.heap.size + 1 = wA.heap.size from cA.sz.symm]; exact cB.cl
  have HQ : Hid (wB.heap[w.heap.size]? = some (.cells #[.slice sa n sc, .slice da m dc, .slice xa k xc] 48 (0, 0)) ∧ wB.heap[w.heap.size + 1]? = some (.cells #[.slice none 0 0, .slice none 0 0, .slice none 0 0] 48 (0, 0))) := ⟨qa, qb⟩
  have HF : Hid ((wB.setRow (w.heap.size + 1) #[.slice sa n sc, .slice da m dc, .slice xa k xc]).heap[w.heap.size + 1]? = some (.cells #[.slice sa n sc, .slice da m dc, .slice xa k xc] 48 (0, 0)) ∧ Below w.heap.size w (wB.setRow (w.heap.size + 1) #[.slice sa n sc, .slice da m dc, .slice xa k xc])) := by
    refine ⟨setRow_heap _ _ _ _ _ _ qb, ?_⟩
    have B : Below w.heap.size w wB := cA.bl.trans (cB.bl.mono cA.bl.size)
    have kk : Kp (fun q => w.heap.size ≤ q) w (wB.setRow (w.heap.size + 1) #[.slice sa n sc, .slice da m dc, .slice xa k xc]) := (Kp.of_below (S := fun q => w.heap.size ≤ q) B).trans (grow20 _ _ _) (fun q _ y => by have y : q = w.heap.size + 1 := y; show w.heap.size ≤ q; omega)
    exact kk.below (fun _ y => y) (Nat.le_refl _)
  clear hwA hwB cA cB qa qb
  go_enter Tryz.func33, Tryz.ntmps33
  go_wp2_with fail
  rw [HW.out.1, HW.out.2]
  refine M.mono ?_
  rintro e1 w1 ⟨rfl, hw1⟩
  subst w1
  go_wp2_with (first
    | (refine wpList_load_row rfl 48 (.tmp 2) rfl _ rfl _ _ _ _ HQ.out.1 Tryz.underlying48 rfl (by kernel_rfl) ?_)
    | (refine wpList_store_row rfl 48 (.tmp 4) (.tmp 7) rfl _ #[.slice sa n sc, .slice da m dc, .slice xa k xc] rfl rfl _ _ HQ.out.2 (by kernel_rfl) rfl (by first | kernel_rfl | simp [Value.oneCell']) ?_))
  refine bodyPost_ret (v := .agg #[.slice sa n sc, .slice da m dc, .slice xa k xc]) (results_cell_row (fn := Tryz.f33) (p := 4) (ty := 48) rfl _ _ (w.heap.size + 1) _ _ _ _ rfl HF.out.1 Tryz.underlying48 rfl (by kernel_rfl)) rfl ?_
  exact ⟨rfl, HF.out.2⟩
theorem popt20 (w : World) : Calls Tryz.prog 12 #[.agg #[.int .i64 100, .int .i64 10, .bool false, .int .i64 100]] w fun e w' => e = .returned (.int .i64 0) ∧ Below w.heap.size w w' := ppop20 100 10 false 100 w
set_option maxRecDepth 100000 in
theorem pmak20 (wa : Option Addr) (wc : Nat) (w : World) : Calls Tryz.prog 63 #[.agg #[.int .i64 0, .int .i64 0, .int .u32 0, .int .u32 0, .int .i64 64, .int .i64 100], .slice wa 0 wc] w fun e w' => e = .returned (.bool true) ∧ Below w.heap.size w w' := by
  obtain ⟨wA, b4, X⟩ := bx18 w h018
  have HWA : Hid (w.alloc (.cells #[.int .i64 0, .int .i64 0, .int .u32 0, .int .u32 0, .int .i64 64, .int .i64 100] 51) = wA) := X.wa
  have HB : Hid (w.heap.size = b4) := X.b
  have HA : Hid (Below w.heap.size w wA) := X.bl
  have CW := pwin18 h018 wA
  rw [h018_win] at CW
  have CW : Hid (Calls Tryz.prog 68 #[.agg #[.int .i64 0, .int .i64 0, .int .u32 0, .int .u32 0, .int .i64 64, .int .i64 100]] wA fun e w' => e = .returned (.int .i64 0) ∧ Below wA.heap.size wA w') := CW
  clear X
  go_enter Tryz.func63, Tryz.ntmps63
  go_wp2_with fail
  rw [HWA.out, HB.out]
  refine CW.out.mono ?_
  rintro e1 w1 ⟨rfl, b1⟩
  have HB1 : Hid (Below w.heap.size w w1) := HA.out.trans (b1.mono HA.out.size)
  clear b1
  go_wp2_with fail
  go_loopw [14] (fun t14 V => t14 = .int .i64 0 ∧ V = w1) (fun _ _ => 0)
  case atStart => exact ⟨rfl, rfl⟩
  case round =>
    obtain ⟨rfl, rfl⟩ := hrel
    go_wp2_with fail
    go_ret
    exact ⟨rfl, HB1.out⟩
set_option maxRecDepth 100000 in
set_option maxHeartbeats 2000000 in
theorem penc20 (wa : Option Addr) (wc : Nat) (w : World) (ht : Tab w) : Calls Tryz.prog 38 #[.agg #[.int .i64 0, .int .i64 0, .int .u32 0, .int .u32 0, .int .i64 64, .int .i64 100], .agg #[.int .i64 100, .int .i64 10, .bool false, .int .i64 100], .slice wa 0 wc] w (HdQ18 w (sum18 (sum18 (hd18 h018))) 0) := by
  obtain ⟨wA, b4, X⟩ := bx18 w h018
  have HWA : Hid (w.alloc (.cells #[.int .i64 0, .int .i64 0, .int .u32 0, .int .u32 0, .int .i64 64, .int .i64 100] 51) = wA) := X.wa
  have HB : Hid (w.heap.size = b4) := X.b
  have cP := cb16 wA #[.int .i64 100, .int .i64 10, .bool false, .int .i64 100] 29
  obtain ⟨wB, hwB⟩ : ∃ wB, wB = wA.alloc (.cells #[.int .i64 100, .int .i64 10, .bool false, .int .i64 100] 29) := ⟨_, rfl⟩
  rw [← hwB] at cP
  have HWB : Hid (wA.alloc (.cells #[.int .i64 100, .int .i64 10, .bool false, .int .i64 100] 29) = wB) := hwB.symm
  obtain ⟨b5, hb5⟩ : ∃ b5, b5 = wA.heap.size := ⟨_, rfl⟩
  have hb54 : b5 = b4 + 1 := by rw [hb5, X.sz, X.b]
  have HB5 : Hid (b5 = b4 + 1) := hb54
  have q5 : wB.heap[b5]? = some (.cells #[.int .i64 100, .int .i64 10, .bool false, .int .i64 100] 29 (0, 0)) := by rw [hb5]; exact cP.cl
  have HC5 : Hid (∀ V, Below wB.heap.size wB V → V.cell? ⟨b5, 0, none⟩ = some (.int .i64 100) ∧ V.cell? ⟨b5, 1, none⟩ = some (.int .i64 10) ∧ V.cell? ⟨b5, 2, none⟩ = some (.bool false) ∧ V.cell? ⟨b5, 3, none⟩ = some (.int .i64 100)) := fun V hV => by
    have q := (hV.block _ (Array.getElem?_eq_some_iff.1 q5).1).trans q5
    exact ⟨cell18 q rfl, cell18 q rfl, cell18 q rfl, cell18 q rfl⟩
  have HC4 : Hid (∀ V, Below wB.heap.size wB V → Cl18 V b4 h018) := fun V hV => X.cl (cP.bl.trans (hV.mono cP.bl.size))
  have HA : Hid (Below w.heap.size w wB) := X.bl.trans (cP.bl.mono X.bl.size)
  have HD := phead18 h018 wB (ht.old HA.out) (by unfold h018; decide) (by unfold h018; decide)
  rw [show hh18 h018 = sum18 (hd18 h018) by unfold hh18; rw [if_pos h018_ok], show he18 h018 = 0 by unfold he18; rw [if_pos h018_ok]] at HD
  have HD : Hid (Calls Tryz.prog 62 #[.agg #[.int .i64 0, .int .i64 0, .int .u32 0, .int .u32 0, .int .i64 64, .int .i64 100]] wB (HdQ18 wB (sum18 (hd18 h018)) 0)) := HD
  have HBD : Hid (∀ z ∈ sum18 (hd18 h018), 0 ≤ z ∧ z ≤ 255) := sum18_bd (hd18_bd h018_ok)
  have HLN : Hid ((sum18 (hd18 h018)).length ≤ 100) := by
    show _ ≤ _
    rw [sum18_len, hd18_len]
    have := encA_hv18 h018
    omega
  have HT : Hid (∀ V, Below wB.heap.size wB V → Tab V) := fun V hV => (ht.old HA.out).old hV
  generalize sum18 (hd18 h018) = L at *
  obtain ⟨a0, a1, a2, a3, a4, a5⟩ := HC4.out wB (Below.refl _ _)
  clear X hwB cP hb5 q5 ht hb54
  go_enter Tryz.func38, Tryz.ntmps38
  go_wp2_with fail
  rw [HWA.out, HWB.out, HB.out, show b4 + 1 = b5 from HB5.out.symm]
  refine HD.out.mono ?_
  rintro e1 w1 ⟨p1, c1, rfl, o1, b1⟩
  have HB1 : Hid (Below wB.heap.size wB w1) := b1
  have HO1 : Hid (w1.ownsRow wB.heap.size 5 1 (.slice p1 L.length c1) L.length (L.map (Value.int .u8))) := o1
  clear a0 a1 a2 a3 a4 a5 b1 o1 HD
  obtain ⟨d0, d1, d2, d3⟩ := HC5.out w1 HB1.out
  go_wp2_with fail
  refine (popt20 w1).mono ?_
  rintro e2 w2 ⟨rfl, b2⟩
  have HB2 : Hid (Below wB.heap.size wB w2) := HB1.out.trans (b2.mono HB1.out.size)
  have HO2 : Hid (w2.ownsRow wB.heap.size 5 1 (.slice p1 L.length c1) L.length (L.map (Value.int .u8))) := own_below HO1.out b2
  clear d0 d1 d2 d3 b2
  obtain ⟨d0, d1, d2, d3⟩ := HC5.out w2 HB2.out
  have a0 : w2.cell? ⟨b4, 0, none⟩ = some (.int .i64 0) := (HC4.out w2 HB2.out).c0
  have a1 : w2.cell? ⟨b4, 1, none⟩ = some (.int .i64 0) := (HC4.out w2 HB2.out).c1
  have a2 : w2.cell? ⟨b4, 2, none⟩ = some (.int .u32 0) := (HC4.out w2 HB2.out).c2
  have a3 : w2.cell? ⟨b4, 3, none⟩ = some (.int .u32 0) := (HC4.out w2 HB2.out).c3
  have a4 : w2.cell? ⟨b4, 4, none⟩ = some (.int .i64 64) := (HC4.out w2 HB2.out).c4
  have a5 : w2.cell? ⟨b4, 5, none⟩ = some (.int .i64 100) := (HC4.out w2 HB2.out).c5
  go_wp2_with fail
  refine (pmak20 wa wc w2).mono ?_
  rintro e3 w3 ⟨rfl, b3⟩
  have HB3 : Hid (Below wB.heap.size wB w3) := HB2.out.trans (b3.mono HB2.out.size)
  have SU := psum18 p1 c1 wB.heap.size L w3 (HT.out w3 HB3.out) (own_below HO2.out b3) HBD.out (by have := HLN.out; omega) HB3.out.size
  clear a0 a1 a2 a3 a4 a5 d0 d1 d2 d3 b3
  go_wp2_with fail
  go_loopw [8, 38] (fun t8 t38 V => t8 = .slice p1 L.length c1 ∧ t38 = .int .i64 0 ∧ V = w3) (fun _ _ _ => 0)
  case atStart => exact ⟨rfl, rfl, rfl⟩
  case round =>
    obtain ⟨rfl, rfl, hwr⟩ := hrel
    subst wr
    go_wp2_with fail
    refine SU.mono ?_
    rintro e4 w4 ⟨p4, c4, rfl, o4, b4'⟩
    have HB4' : Below wB.heap.size wB w4 := HB3.out.trans b4'
    have HQQ : Hid (HdQ18 w (sum18 L) 0 (.returned (.tuple #[.slice p4 (sum18 L).length c4, .int .i64 0])) w4) := ⟨p4, c4, rfl, own_base o4 HA.out.size, HA.out.trans (HB4'.mono HA.out.size)⟩
    clear SU o4 b4' HB4'
    go_wp2_with fail
    go_ret2
    exact HQQ.out
end Go.Proofs.YtmfpdchfofffeaaGreatDoor
