import Derived.Test.YtmfpdchfofffeaaGreatDoorMkA
import Derived.Test.YtmfpdchfofffeaaGreatDoorFq8
import Derived.Test.YtmfpdchfofffeaaGreatDoorFqM
namespace Go.Proofs.YtmfpdchfofffeaaGreatDoor
open Go.RowKit Go.Shelf
set_option linter.unusedVariables false
set_option linter.unusedSimpArgs false
noncomputable def z20 : List Int := sum18 (sum18 (hd18 h018))
theorem z20_len : z20.length = 25 := by unfold z20; rw [sum18_len, sum18_len]; rfl
theorem y20_len : (sum18 (hd18 h018)).length = 21 := by rw [sum18_len]; rfl
theorem z20_hd : hx18 z20 = 0 ∧ hr18 z20 = h018 ∧ pl18 z20 5 4 + 12 = 21 := by
  have h := hh18_back h018_ok (by unfold h018; decide) (by unfold h018; decide) (fixL 4 (wI (sumW (sum18 (hd18 h018)))))
  rw [y20_len] at h
  exact h
theorem z20_bd : ∀ t ∈ z20, 0 ≤ t ∧ t ≤ 255 := sum18_bd (sum18_bd (hd18_bd h018_ok))
theorem Hid.mk21 {p : Prop} (h : p) : Hid p := h
theorem wI_bd20 (a : W32) : 0 ≤ wI a ∧ wI a ≤ 4294967295 := by
  unfold wI
  have := a.isLt
  constructor <;> omega
theorem z20_su : Su18 z20 21 := by
  have e : z20 = sum18 (hd18 h018) ++ (fixL 4 (wI (sumW (sum18 (hd18 h018)))) ++ []) := by rw [List.append_nil]; rfl
  unfold Su18
  have hb := wI_bd20 (sumW (sum18 (hd18 h018)))
  rw [wd_at18 e y20_len.symm hb.1 hb.2]
  rw [show z20.take 21 = sum18 (hd18 h018) by rw [e]; exact List.take_left' y20_len]

structure Fb20 (w : World) (za : Option Addr) (n zc : Nat) (wR : World) (bh bn be br : Nat) : Prop where
  wr : (((w.alloc (.cells #[.int .i64 0, .int .i64 0, .int .u32 0, .int .u32 0, .int .i64 0, .int .i64 0] 51)).alloc (.cells #[.slice none 0 0] 52)).alloc (.cells #[.int .i64 0] 22)).alloc (.cells #[.slice za n zc, .int .i64 0] 131) = wR
  b0 : w.heap.size = bh
  b1 : bh + 1 = bn
  b2 : bn + 1 = be
  b3 : be + 1 = br
  bl : Below w.heap.size w wR
  sz : wR.heap.size = br + 1
  qh : wR.heap[bh]? = some (.cells #[.int .i64 0, .int .i64 0, .int .u32 0, .int .u32 0, .int .i64 0, .int .i64 0] 51 (0, 0))
  qn : wR.heap[bn]? = some (.cells #[.slice none 0 0] 52 (0, 0))
  qe : wR.heap[be]? = some (.cells #[.int .i64 0] 22 (0, 0))
  qr : Rq18 wR br za n zc 0
theorem fb20 (w : World) (za : Option Addr) (n zc : Nat) : ∃ wR bh bn be br, Fb20 w za n zc wR bh bn be br := by
  have c1 := cb16 w #[.int .i64 0, .int .i64 0, .int .u32 0, .int .u32 0, .int .i64 0, .int .i64 0] 51
  obtain ⟨w1, hw1⟩ : ∃ w1, w1 = w.alloc (.cells #[.int .i64 0, .int .i64 0, .int .u32 0, .int .u32 0, .int .i64 0, .int .i64 0] 51) := ⟨_, rfl⟩
  rw [← hw1] at c1
  have c2 := cb16 w1 #[.slice none 0 0] 52
  obtain ⟨w2, hw2⟩ : ∃ w2, w2 = w1.alloc (.cells #[.slice none 0 0] 52) := ⟨_, rfl⟩
  rw [← hw2] at c2
  have c3 := cb16 w2 #[.int .i64 0] 22
  obtain ⟨w3, hw3⟩ : ∃ w3, w3 = w2.alloc (.cells #[.int .i64 0] 22) := ⟨_, rfl⟩
  rw [← hw3] at c3
  have c4 := cb16 w3 #[.slice za n zc, .int .i64 0] 131
  obtain ⟨w4, hw4⟩ : ∃ w4, w4 = w3.alloc (.cells #[.slice za n zc, .int .i64 0] 131) := ⟨_, rfl⟩
  rw [← hw4] at c4
  have s1 := c1.sz
  have s2 := c2.sz
  have s3 := c3.sz
  have s4 := c4.sz
  refine ⟨w4, w.heap.size, w.heap.size + 1, w.heap.size + 1 + 1, w.heap.size + 1 + 1 + 1, by rw [hw4, hw3, hw2, hw1], rfl, rfl, rfl, rfl, c1.bl.trans ((c2.bl.mono (by omega)).trans ((c3.bl.mono (by omega)).trans (c4.bl.mono (by omega)))), by omega, ?_, ?_, ?_, ?_⟩
  · exact (c4.bl.block _ (by omega)).trans ((c3.bl.block _ (by omega)).trans ((c2.bl.block _ (by omega)).trans c1.cl))
  · have := c2.cl
    rw [s1] at this
    exact (c4.bl.block _ (by omega)).trans ((c3.bl.block _ (by omega)).trans this)
  · have := c3.cl
    rw [s2, s1] at this
    exact (c4.bl.block _ (by omega)).trans this
  · have := c4.cl
    rw [s3, s2, s1] at this
    exact this

set_option maxRecDepth 100000 in
set_option maxHeartbeats 4000000 in
theorem prend20 (br : Nat) (za : Option Addr) (zc : Nat) (w : World) (ht : Tab w) (hbr : br ≠ 0) (h : Rq18 w br za 25 zc 21) (hz : Seg w za z20) (hzb : ∀ x off, za = some ⟨x, off, none⟩ → x ≠ br) (hc : 25 ≤ zc) :
    Calls Tryz.prog 70 #[.pointer (some ⟨br, 0, none⟩)] w fun e w' => e = .returned (.tuple #[]) ∧ Kp (fun k => k = br) w w' := by
  have SU : Hid (Calls Tryz.prog 105 #[.pointer (some ⟨br, 0, none⟩)] w.drew fun e w' => e = .returned (.tuple #[]) ∧ Rq18 w' br za z20.length zc (21 + 4) ∧ Kp (fun k => k = br) w.drew w') :=
    psm18 br za zc z20 21 w.drew ht.drew hbr (by rw [z20_len]; exact h) hz.drew (fun x off e _ => hzb x off e) (by rw [z20_len]; decide) (by rw [z20_len]; exact hc) (by rw [z20_len]; decide) z20_su
  have HS : Hid (w.drew.cell? ⟨br, 0, none⟩ = some (.slice za 25 zc) ∧ w.drew.cell? ⟨br, 1, none⟩ = some (.int .i64 21)) := ⟨cell18 (W := w.drew) h rfl, cell18 (W := w.drew) h rfl⟩
  have hw4 : IntKind.i64.wrap 4 = 4 := by decide
  clear ht h hz hzb hc
  go_enter Tryz.func70, Tryz.ntmps70
  go_wp2_with fail
  refine plain_region16 (fun V => V.cell? ⟨br, 0, none⟩ = some (.slice za 25 zc) ∧ V.cell? ⟨br, 1, none⟩ = some (.int .i64 21)) 12 (by kernel_rfl) HS.out (fun hHeld => ?_)
  refine wpAnyK_take (i := 0) (v := .pointer (some ⟨br, 0, none⟩)) rfl (by kernel_rfl) (by kernel_rfl) (by kernel_rfl) (by kernel_rfl) (fun _ _ _ h => h) (Or.inl ⟨by rfl, fun w hSw => by go_simp⟩) hHeld ?_
  simp only [List.getElem_toArray, List.getElem_cons_zero, Act.put, List.setIfInBounds_toArray, List.set_cons_zero, List.set_cons_succ]
  refine wpAnyK_take (i := 1) (v := .pointer (some ⟨br, 0, none⟩)) rfl (by kernel_rfl) (by kernel_rfl) (by kernel_rfl) (by kernel_rfl) (fun _ _ _ h => h) (Or.inl ⟨by rfl, fun w hSw => by go_simp⟩) hHeld ?_
  simp only [List.getElem_toArray, List.getElem_cons_zero, List.getElem_cons_succ, Act.put, List.setIfInBounds_toArray, List.set_cons_zero, List.set_cons_succ]
  refine wpAnyK_take (i := 2) (v := .pointer (some ⟨br, 0, none⟩)) rfl (by kernel_rfl) (by kernel_rfl) (by kernel_rfl) (by kernel_rfl) (fun _ _ _ h => h) (Or.inl ⟨by rfl, fun w hSw => by go_simp⟩) hHeld ?_
  simp only [List.getElem_toArray, List.getElem_cons_zero, List.getElem_cons_succ, Act.put, List.setIfInBounds_toArray, List.set_cons_zero, List.set_cons_succ]
  refine wpAnyK_take (i := 3) (v := .slice za 25 zc) rfl (by kernel_rfl) (by kernel_rfl) (by kernel_rfl) (by kernel_rfl) (fun _ _ _ h => h) (Or.inl ⟨by rfl, fun w hSw => by go_simp⟩) hHeld ?_
  simp only [List.getElem_toArray, List.getElem_cons_zero, List.getElem_cons_succ, Act.put, List.setIfInBounds_toArray, List.set_cons_zero, List.set_cons_succ]
  refine wpAnyK_take (i := 4) (v := .int .i64 25) rfl (by kernel_rfl) (by kernel_rfl) (by kernel_rfl) (by kernel_rfl) (fun _ _ _ h => h) (Or.inl ⟨by rfl, fun w hSw => by go_simp⟩) hHeld ?_
  simp only [List.getElem_toArray, List.getElem_cons_zero, List.getElem_cons_succ, Act.put, List.setIfInBounds_toArray, List.set_cons_zero, List.set_cons_succ]
  refine wpAnyK_take (i := 5) (v := .pointer (some ⟨br, 0, none⟩)) rfl (by kernel_rfl) (by kernel_rfl) (by kernel_rfl) (by kernel_rfl) (fun _ _ _ h => h) (Or.inl ⟨by rfl, fun w hSw => by go_simp⟩) hHeld ?_
  simp only [List.getElem_toArray, List.getElem_cons_zero, List.getElem_cons_succ, Act.put, List.setIfInBounds_toArray, List.set_cons_zero, List.set_cons_succ]
  refine wpAnyK_take (i := 6) (v := .pointer (some ⟨br, 0, none⟩)) rfl (by kernel_rfl) (by kernel_rfl) (by kernel_rfl) (by kernel_rfl) (fun _ _ _ h => h) (Or.inl ⟨by rfl, fun w hSw => by go_simp⟩) hHeld ?_
  simp only [List.getElem_toArray, List.getElem_cons_zero, List.getElem_cons_succ, Act.put, List.setIfInBounds_toArray, List.set_cons_zero, List.set_cons_succ]
  refine wpAnyK_take (i := 7) (v := .pointer (some ⟨br, 1, none⟩)) rfl (by kernel_rfl) (by kernel_rfl) (by kernel_rfl) (by kernel_rfl) (fun _ _ _ h => h) (Or.inl ⟨by rfl, fun w hSw => by go_simp⟩) hHeld ?_
  simp only [List.getElem_toArray, List.getElem_cons_zero, List.getElem_cons_succ, Act.put, List.setIfInBounds_toArray, List.set_cons_zero, List.set_cons_succ]
  refine wpAnyK_take (i := 8) (v := .int .i64 21) rfl (by kernel_rfl) (by kernel_rfl) (by kernel_rfl) (by kernel_rfl) (fun _ _ _ h => h) (Or.inl ⟨by rfl, fun w hSw => by go_simp⟩) hHeld ?_
  simp only [List.getElem_toArray, List.getElem_cons_zero, List.getElem_cons_succ, Act.put, List.setIfInBounds_toArray, List.set_cons_zero, List.set_cons_succ]
  refine wpAnyK_take (i := 9) (v := .int .i64 4) rfl (by kernel_rfl) (by kernel_rfl) (by kernel_rfl) (by kernel_rfl) (fun _ _ _ h => h) (Or.inl ⟨by rfl, fun w hSw => by go_simp⟩) hHeld ?_
  simp only [List.getElem_toArray, List.getElem_cons_zero, List.getElem_cons_succ, Act.put, List.setIfInBounds_toArray, List.set_cons_zero, List.set_cons_succ]
  refine wpAnyK_take (i := 10) (v := .bool true) rfl (by kernel_rfl) (by kernel_rfl) (by kernel_rfl) (by kernel_rfl) (fun _ _ _ h => h) (Or.inl ⟨by rfl, fun w hSw => by go_simp⟩) hHeld ?_
  simp only [List.getElem_toArray, List.getElem_cons_zero, List.getElem_cons_succ, Act.put, List.setIfInBounds_toArray, List.set_cons_zero, List.set_cons_succ]
  refine wpAnyK_one (i := 11) (by kernel_rfl) rfl (fun K hK => ?_)
  (try simp only [List.getElem_toArray, List.getElem_cons_zero, List.getElem_cons_succ, Act.put, List.setIfInBounds_toArray, List.set_cons_zero, List.set_cons_succ])
  go_simp
  refine (pmust18_t w.drew).mono ?_
  rintro e1 w1 ⟨rfl, hw1⟩
  subst w1
  refine hK.out _ _ (fun _ => HS.out) (fun _ => ?_)
  clear hK K
  (try simp only [List.getElem_toArray, List.getElem_cons_zero, List.getElem_cons_succ, Act.put, List.setIfInBounds_toArray, List.set_cons_zero, List.set_cons_succ])
  refine wpAnyK_done (by kernel_rfl) ?_ _
  go_wp2_with fail
  refine SU.out.mono ?_
  rintro e2 w2 ⟨rfl, -, k2⟩
  have HK : Hid (Kp (fun k => k = br) w w2) := ((Kp.refl _ _).drew).trans k2 (fun _ _ x => x)
  clear k2
  go_wp2
  go_end0
  exact ⟨rfl, HK.out⟩
theorem pcatchd20 (a0 a1 a2 : Value) (w : World) :
    CallsD Tryz.prog 66 #[a0, a1, a2] .returning w fun e u' w' => e = .returned (.tuple #[]) ∧ u' = .returning ∧ w' = w := by
  refine callsD_of_wpS Tryz.func66 rfl fun c₀ cs hu => ?_
  apply wpS_seq
  apply wpS_region
  simp [wpOpsS, go_sem, recoverD, hu, Tryz.ntmps66, Exit.thenS]
  refine wpS_of_wp ?_
  go_wp2
  cases c₀
  simp_all [bodyPostS, results, Tryz.results66]
set_option maxRecDepth 100000 in
set_option maxHeartbeats 8000000 in
theorem pdec20 (za : Option Addr) (zc : Nat) (w : World) (ht : Tab w) (hz : Seg w za z20) (hc : 25 ≤ zc) :
    Calls Tryz.prog 40 #[.slice za 25 zc] w fun e w' => e = .returned (.tuple #[.agg #[.int .i64 0, .int .i64 0, .int .u32 0, .int .u32 0, .int .i64 64, .int .i64 100], .slice none 0 0, .int .i64 0]) ∧ Below w.heap.size w w' := by
  have hmf : ∀ (fn : Fn) (first cap : Array Value) (w : World), (Instr.makeFunc fn first cap).run Tryz.prog w = .ok (.func fn first cap) w := fun _ _ _ _ => rfl
  obtain ⟨wR, bh, bn, be, br, X⟩ := fb20 w za 25 zc
  have x0 := X.b0
  have x1 := X.b1
  have x2 := X.b2
  have x3 := X.b3
  have kR : Ks18 w br wR := (Ks18.refl w br).bl X.bl
  have hzb : ∀ x off, za = some ⟨x, off, none⟩ → 0 < z20.length → x ≠ br := fun x off e hp => by have := hz.lt x off e hp; omega
  have HD : Hid (Calls Tryz.prog 67 #[.pointer (some ⟨br, 0, none⟩)] wR (HeQ18 wR br za zc z20)) := phd18 br za zc z20 wR (kR.tab ht (by omega)) (by omega) (by rw [z20_len]; exact X.qr) (kR.seg hz hzb) hzb (by rw [z20_len]; decide) (by rw [z20_len]; exact hc)
  have HTS : Hid (Tab wR ∧ Seg wR za z20 ∧ br ≠ 0 ∧ ∀ x off, za = some ⟨x, off, none⟩ → x ≠ br) := ⟨kR.tab ht (by omega), kR.seg hz hzb, by omega, fun x off e => hzb x off e (by rw [z20_len]; decide)⟩
  have HC : Hid (25 ≤ zc) := hc
  have HPOS : Hid (0 < w.heap.size) := SegK.lt ht 0 0 rfl (by decide)
  have HLT : Hid (∀ x off, za = some ⟨x, off, none⟩ → x < w.heap.size) := fun x off e => hz.lt x off e (by rw [z20_len]; decide)
  have HW : Hid ((((w.alloc (.cells #[.int .i64 0, .int .i64 0, .int .u32 0, .int .u32 0, .int .i64 0, .int .i64 0] 51)).alloc (.cells #[.slice none 0 0] 52)).alloc (.cells #[.int .i64 0] 22)).alloc (.cells #[.slice za 25 zc, .int .i64 0] 131) = wR) := X.wr
  have HB : Hid (w.heap.size = bh ∧ bh + 1 = bn ∧ bn + 1 = be ∧ be + 1 = br) := ⟨x0, x1, x2, x3⟩
  have HX : Hid (Fb20 w za 25 zc wR bh bn be br) := X
  clear x0 x1 x2 x3 kR hzb ht hz X hc
  go_enter_defers Tryz.func40, Tryz.ntmps40
  go_wp2_with fail
  rw [HW.out, HB.out.1, HB.out.2.1, HB.out.2.2.1, HB.out.2.2.2]
  refine HD.out.mono ?_
  intro e1 w1 hQ
  obtain ⟨hx, rfl, q1, k1⟩ | ⟨hx, -, -⟩ := hQ
  rotate_left
  · exact absurd z20_hd.1 hx
  rw [z20_hd.2.2, z20_len] at q1
  have e018 : (hr18 z20).cs = #[.int .i64 0, .int .i64 0, .int .u32 0, .int .u32 0, .int .i64 64, .int .i64 100] := by rw [z20_hd.2.1]; rfl
  rw [e018]
  clear hx e018
  have b := HB.out
  have qh1 := k1.heap HX.out.qh (fun x => by have x : bh = br := x; omega)
  have qn1 := k1.heap HX.out.qn (fun x => by have x : bn = br := x; omega)
  have qe1 := k1.heap HX.out.qe (fun x => by have x : be = br := x; omega)
  obtain ⟨w2, hw2⟩ : ∃ w2, w2 = w1.setRow bh #[.int .i64 0, .int .i64 0, .int .u32 0, .int .u32 0, .int .i64 64, .int .i64 100] := ⟨_, rfl⟩
  have kk2 : Kp (fun k => k = bh) w1 w2 := by rw [hw2]; exact grow20 _ _ _
  have qh2 : w2.heap[bh]? = some (.cells #[.int .i64 0, .int .i64 0, .int .u32 0, .int .u32 0, .int .i64 64, .int .i64 100] 51 (0, 0)) := by rw [hw2]; exact setRow_heap _ _ _ _ _ _ qh1
  have qn2 := kk2.heap qn1 (fun x => by have x : bn = bh := x; omega)
  have qe2 := kk2.heap qe1 (fun x => by have x : be = bh := x; omega)
  have qr2 : Rq18 w2 br za 25 zc 21 := kk2.heap q1 (fun x => by have x : br = bh := x; omega)
  have K2 : Kp (fun k => bh ≤ k) wR w2 := (k1.mono (fun k _ x => by have x : k = br := x; show bh ≤ k; omega)).trans kk2 (fun k _ x => by have x : k = bh := x; show bh ≤ k; omega)
  have HQ1 := Hid.mk21 qh1
  have HW2 : Hid (w1.setRow bh #[.int .i64 0, .int .i64 0, .int .u32 0, .int .u32 0, .int .i64 64, .int .i64 100] = w2) := hw2.symm
  have CW : Hid (Calls Tryz.prog 68 #[.agg #[.int .i64 0, .int .i64 0, .int .u32 0, .int .u32 0, .int .i64 64, .int .i64 100]] w2 fun e w' => e = .returned (.int .i64 0) ∧ Below w2.heap.size w2 w') := by
    have := pwin18 h018 w2
    rw [h018_win] at this
    exact this
  have HQ2 : Hid (w2.heap[bh]? = some (.cells #[.int .i64 0, .int .i64 0, .int .u32 0, .int .u32 0, .int .i64 64, .int .i64 100] 51 (0, 0)) ∧ w2.heap[bn]? = some (.cells #[.slice none 0 0] 52 (0, 0)) ∧ w2.heap[be]? = some (.cells #[.int .i64 0] 22 (0, 0)) ∧ Rq18 w2 br za 25 zc 21 ∧ Kp (fun k => bh ≤ k) wR w2) := ⟨qh2, qn2, qe2, qr2, K2⟩
  clear hw2 qh1 qn1 qe1 q1 k1 b qh2 qn2 qe2 qr2 K2 kk2 HD HW
  go_wp2_with (first
    | (refine wpList_store_row rfl 51 (.tmp 2) (.tmp 10) rfl bh #[.int .i64 0, .int .i64 0, .int .u32 0, .int .u32 0, .int .i64 64, .int .i64 100] rfl rfl _ _ HQ1.out (by kernel_rfl) rfl (by kernel_rfl) ?_; rw [HW2.out])
    | (refine wpList_load_row rfl 51 (.tmp 2) rfl bh rfl _ _ _ _ HQ2.out.1 Tryz.underlying51 rfl (by kernel_rfl) ?_))
  refine CW.out.mono ?_
  rintro e3 w3 ⟨rfl, b3⟩
  have HQ3 : Hid (w3.heap[bh]? = some (.cells #[.int .i64 0, .int .i64 0, .int .u32 0, .int .u32 0, .int .i64 64, .int .i64 100] 51 (0, 0)) ∧ w3.heap[bn]? = some (.cells #[.slice none 0 0] 52 (0, 0)) ∧ w3.heap[be]? = some (.cells #[.int .i64 0] 22 (0, 0)) ∧ Rq18 w3 br za 25 zc 21 ∧ Kp (fun k => bh ≤ k) wR w3) := by
    obtain ⟨a1, a2, a3, a4, a5⟩ := HQ2.out
    exact ⟨(b3.block _ (Array.getElem?_eq_some_iff.1 a1).1).trans a1, (b3.block _ (Array.getElem?_eq_some_iff.1 a2).1).trans a2, (b3.block _ (Array.getElem?_eq_some_iff.1 a3).1).trans a3, (b3.block _ (Array.getElem?_eq_some_iff.1 a4).1).trans a4, a5.trans (Kp.of_below (S := fun _ => False) b3) (fun _ _ x => x.elim)⟩
  clear b3 CW HQ2 HW2 HQ1
  go_wp2_with fail
  go_loopw [13] (fun t13 V => t13 = .int .i64 0 ∧ V = w3) (fun _ _ => 0)
  case atStart => exact ⟨rfl, rfl⟩
  case round =>
    obtain ⟨rfl, hwr⟩ := hrel
    subst wr
    have hbl : w.heap.size = bh := HB.out.1
    have TS : Tab w3 ∧ Seg w3 za z20 := by
      obtain ⟨t, sg, -, hne⟩ := HTS.out
      have h0 : 0 < w.heap.size := HPOS.out
      refine ⟨SegK.kp t HQ3.out.2.2.2.2 (fun x off e hp y => ?_), SegK.kp sg HQ3.out.2.2.2.2 (fun x off e hp y => ?_)⟩
      · cases e; have y : bh ≤ 0 := y; omega
      · have := HLT.out x off e; have y : bh ≤ x := y; omega
    have EN : Hid (Calls Tryz.prog 70 #[.pointer (some ⟨br, 0, none⟩)] w3 fun e w' => e = .returned (.tuple #[]) ∧ Kp (fun k => k = br) w3 w') := prend20 br za zc w3 TS.1 HTS.out.2.2.1 HQ3.out.2.2.2.1 TS.2 HTS.out.2.2.2 HC.out
    clear TS hbl
    go_wp2_with fail
    refine EN.out.mono ?_
    rintro e4 w4 ⟨rfl, k4⟩
    have b := HB.out
    have qh4 := k4.heap HQ3.out.1 (fun x => by have x : bh = br := x; omega)
    have qn4 := k4.heap HQ3.out.2.1 (fun x => by have x : bn = br := x; omega)
    have qe4 := k4.heap HQ3.out.2.2.1 (fun x => by have x : be = br := x; omega)
    have K4 : Kp (fun k => bh ≤ k) wR w4 := HQ3.out.2.2.2.2.trans k4 (fun k _ x => by have x : k = br := x; show bh ≤ k; omega)
    have d0 : w4.cell? ⟨bh, 0, none⟩ = some (.int .i64 0) := cell18 qh4 rfl
    have d1 : w4.cell? ⟨bh, 1, none⟩ = some (.int .i64 0) := cell18 qh4 rfl
    have d2 : w4.cell? ⟨bh, 2, none⟩ = some (.int .u32 0) := cell18 qh4 rfl
    have d3 : w4.cell? ⟨bh, 3, none⟩ = some (.int .u32 0) := cell18 qh4 rfl
    have d4 : w4.cell? ⟨bh, 4, none⟩ = some (.int .i64 64) := cell18 qh4 rfl
    have d5 : w4.cell? ⟨bh, 5, none⟩ = some (.int .i64 100) := cell18 qh4 rfl
    have fh : ∀ j, w4.frozen? ⟨bh, j, none⟩ = false := fun j => by simp [World.frozen?, qh4]
    have f0 := fh 0
    have f1 := fh 1
    have f2 := fh 2
    have f3 := fh 3
    have f4 := fh 4
    have f5 := fh 5
    have n0 : w4.cell? ⟨bn, 0, none⟩ = some (.slice none 0 0) := cell18 qn4 rfl
    have fn : w4.frozen? ⟨bn, 0, none⟩ = false := by simp [World.frozen?, qn4]
    have e0 : w4.cell? ⟨be, 0, none⟩ = some (.int .i64 0) := cell18 qe4 rfl
    have fe : w4.frozen? ⟨be, 0, none⟩ = false := by simp [World.frozen?, qe4]
    have m1 : bh ≠ bn := by omega
    have m2 : bh ≠ be := by omega
    have m4 : bn ≠ be := by omega
    have QH : Hid (w4.heap[bh]? = some (.cells #[.int .i64 0, .int .i64 0, .int .u32 0, .int .u32 0, .int .i64 64, .int .i64 100] 51 (0, 0)) ∧ w4.heap[bn]? = some (.cells #[.slice none 0 0] 52 (0, 0)) ∧ w4.heap[be]? = some (.cells #[.int .i64 0] 22 (0, 0)) ∧ Kp (fun k => bh ≤ k) wR w4) := ⟨qh4, qn4, qe4, K4⟩
    clear fh qh4 qn4 qe4 K4 k4 b EN
    go_wp2_with fail
    go_region
    go_wp2_with fail
    obtain ⟨w5, hw5⟩ : ∃ w5, w5 = (((((((w4.setCell ⟨bh, 0, none⟩ (.int .i64 0)).setCell ⟨bh, 1, none⟩ (.int .i64 0)).setCell ⟨bh, 2, none⟩ (.int .u32 0)).setCell ⟨bh, 3, none⟩ (.int .u32 0)).setCell ⟨bh, 4, none⟩ (.int .i64 64)).setCell ⟨bh, 5, none⟩ (.int .i64 100)).setCell ⟨bn, 0, none⟩ (.slice none 0 0)).setCell ⟨be, 0, none⟩ (.int .i64 0) := ⟨_, rfl⟩
    rw [← hw5]
    have y1 := Ne.symm m1
    have y2 := Ne.symm m2
    have y4 := Ne.symm m4
    have qh5 : w5.heap[bh]? = some (.cells #[.int .i64 0, .int .i64 0, .int .u32 0, .int .u32 0, .int .i64 64, .int .i64 100] 51 (0, 0)) := by
      rw [hw5]
      simp [World.setCell, Array.getElem?_modify, QH.out.1, m1, m2, y1, y2]
    have qn5 : w5.heap[bn]? = some (.cells #[.slice none 0 0] 52 (0, 0)) := by
      rw [hw5]
      simp [World.setCell, Array.getElem?_modify, QH.out.2.1, m1, y1, m4, y4]
    have qe5 : w5.heap[be]? = some (.cells #[.int .i64 0] 22 (0, 0)) := by
      rw [hw5]
      simp [World.setCell, Array.getElem?_modify, QH.out.2.2.1, m2, y2, m4, y4]
    have K5 : Kp (fun k => bh ≤ k) wR w5.drew := by
      rw [hw5]
      have sb : bh ≤ bn := by have := HB.out; omega
      have se : bh ≤ be := by have := HB.out; omega
      exact (((((((((QH.out.2.2.2).trans (Kp.set (S := fun k => bh ≤ k) (Nat.le_refl bh) _) (fun _ _ x => x)).trans (Kp.set (S := fun k => bh ≤ k) (Nat.le_refl bh) _) (fun _ _ x => x)).trans (Kp.set (S := fun k => bh ≤ k) (Nat.le_refl bh) _) (fun _ _ x => x)).trans (Kp.set (S := fun k => bh ≤ k) (Nat.le_refl bh) _) (fun _ _ x => x)).trans (Kp.set (S := fun k => bh ≤ k) (Nat.le_refl bh) _) (fun _ _ x => x)).trans (Kp.set (S := fun k => bh ≤ k) (Nat.le_refl bh) _) (fun _ _ x => x)).trans (Kp.set (S := fun k => bh ≤ k) sb _) (fun _ _ x => x)).trans (Kp.set (S := fun k => bh ≤ k) se _) (fun _ _ x => x)).drew
    have g1 : w5.drew.cell? ⟨bn, 0, none⟩ = some (.slice none 0 0) := cell18 (W := w5.drew) qn5 rfl
    have g2 : w5.drew.cell? ⟨be, 0, none⟩ = some (.int .i64 0) := cell18 (W := w5.drew) qe5 rfl
    have qh6 : w5.drew.heap[bh]? = some (.cells #[.int .i64 0, .int .i64 0, .int .u32 0, .int .u32 0, .int .i64 64, .int .i64 100] 51 (0, 0)) := qh5
    clear hw5 qh5 qn5 qe5
    generalize w5.drew = w6 at *
    have B6 : Below w.heap.size w w6 := by
      have k6 : Kp (fun k => w.heap.size ≤ k) w w6 := (Kp.of_below (S := fun k => w.heap.size ≤ k) HX.out.bl).trans K5 (fun k _ x => by have := HB.out; have x : bh ≤ k := x; show w.heap.size ≤ k; omega)
      exact k6.below (fun _ x => x) (Nat.le_refl _)
    refine leaves_cons (f := 66) (args := #[.pointer (some ⟨bh, 0, none⟩), .pointer (some ⟨bn, 0, none⟩), .pointer (some ⟨be, 0, none⟩)]) (by simp) (by simp [go_sem]) ?_
    refine (pcatchd20 _ _ _ _).mono ?_
    rintro e u' w'' ⟨rfl, rfl, rfl⟩
    refine ⟨.tuple #[.agg #[.int .i64 0, .int .i64 0, .int .u32 0, .int .u32 0, .int .i64 64, .int .i64 100], .slice none 0 0, .int .i64 0], ?_, ?_⟩
    · exact results_ccc18 rfl _ _ bh _ _ _ _ rfl qh6 Tryz.underlying51 rfl (by kernel_rfl) bn _ rfl (by simp [loadVar, go_sem, g1, Tryz.underlying52]) be _ rfl (by simp [loadVar, go_sem, g2, Tryz.underlying22])
    · exact ⟨rfl, B6⟩
end Go.Proofs.YtmfpdchfofffeaaGreatDoor
