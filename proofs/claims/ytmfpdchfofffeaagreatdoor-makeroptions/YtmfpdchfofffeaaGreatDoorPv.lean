import Derived.Test.YtmfpdchfofffeaaGreatDoorPj
import Derived.Test.YtmfpdchfofffeaaGreatDoorPu
import Derived.Test.YtmfpdchfofffeaaGreatDoorPt
import Derived.Deep.AppendLies
namespace Go.Proofs.YtmfpdchfofffeaaGreatDoor
open Go.RowKit Go.Shelf
set_option linter.unusedVariables false
set_option linter.unusedSimpArgs false
noncomputable def z20 : List Int := sum18 (sum18 (hd18 h018))
theorem z20_len : z20.length = 25 := by unfold z20; rw [sum18_len, sum18_len]; rfl
theorem y20_len : (sum18 (hd18 h018)).length = 21 := by rw [sum18_len]; rfl
theorem z20_hd : hx18 z20 = 0 ∧ hr18 z20 = h018 ∧ pl18 z20 5 4 + 12 = 21 := by
  have h := hh18_back h018_ok (by unfold h018; decide) (by unfold h018; decide) (fixL 4 (wI (sumW (sum18 (hd18 h018)))))
  rw [y20_len] at h
  exact h
theorem z20_bd : ∀ t ∈ z20, 0 ≤ t ∧ t ≤ 255 := sum18_bd (sum18_bd (hd18_bd h018_ok))
theorem Hid.mk21 {p : Prop} (h : p) : Hid p := h
theorem wI_bd20 (a : W32) : 0 ≤ wI a ∧ wI a ≤ 4294967295 := by
  unfold wI
  have := a.isLt
  constructor <;> omega
theorem z20_su : Su18 z20 21 := by
  have e : z20 = sum18 (hd18 h018) ++ (fixL 4 (wI (sumW (sum18 (hd18 h018)))) ++ []) := by rw [List.append_nil]; rfl
  unfold Su18
  have hb := wI_bd20 (sumW (sum18 (hd18 h018)))
  rw [wd_at18 e y20_len.symm hb.1 hb.2]
  rw [show z20.take 21 = sum18 (hd18 h018) by rw [e]; exact List.take_left' y20_len]

structure Fb20 (w : World) (za : Option Addr) (n zc : Nat) (wR : World) (bh bn be br : Nat) : Prop where
  wr : (((w.alloc (.cells #[.int .i64 0, .int .i64 0, .int .u32 0, .int .u32 0, .int .i64 0, .int .i64 0] 51)).alloc (.cells #[.slice none 0 0] 52)).alloc (.cells #[.int .i64 0] 22)).alloc (.cells #[.slice za n zc, .int .i64 0] 131) = wR
  b0 : w.heap.size = bh
  b1 : bh + 1 = bn
  b2 : bn + 1 = be
  b3 : be + 1 = br
  bl : Below w.heap.size w wR
  sz : wR.heap.size = br + 1
  qh : wR.heap[bh]? = some (.cells #[.int .i64 0, .int .i64 0, .int .u32 0, .int .u32 0, .int .i64 0, .int .i64 0] 51 (0, 0))
  qn : wR.heap[bn]? = some (.cells #[.slice none 0 0] 52 (0, 0))
  qe : wR.heap[be]? = some (.cells #[.int .i64 0] 22 (0, 0))
  qr : Rq18 wR br za n zc 0
theorem fb20 (w : World) (za : Option Addr) (n zc : Nat) : ∃ wR bh bn be br, Fb20 w za n zc wR bh bn be br := by
  have c1 := cb16 w #[.int .i64 0, .int .i64 0, .int .u32 0, .int .u32 0, .int .i64 0, .int .i64 0] 51
  obtain ⟨w1, hw1⟩ : ∃ w1, w1 = w.alloc (.cells #[.int .i64 0, .int .i64 0, .int .u32 0, .int .u32 0, .int .i64 0, .int .i64 0] 51) := ⟨_, rfl⟩
  rw [← hw1] at c1
  have c2 := cb16 w1 #[.slice none 0 0] 52
  obtain ⟨w2, hw2⟩ : ∃ w2, w2 = w1.alloc (.cells #[.slice none 0 0] 52) := ⟨_, rfl⟩
  rw [← hw2] at c2
  have c3 := cb16 w2 #[.int .i64 0] 22
  obtain ⟨w3, hw3⟩ : ∃ w3, w3 = w2.alloc (.cells #[.int .i64 0] 22) := ⟨_, rfl⟩
  rw [← hw3] at c3
  have c4 := cb16 w3 #[.slice za n zc, .int .i64 0] 131
  obtain ⟨w4, hw4⟩ : ∃ w4, w4 = w3.alloc (.cells #[.slice za n zc, .int .i64 0] 131) := ⟨_, rfl⟩
  rw [← hw4] at c4
  have s1 := c1.sz
  have s2 := c2.sz
  have s3 := c3.sz
  have s4 := c4.sz
  refine ⟨w4, w.heap.size, w.heap.size + 1, w.heap.size + 1 + 1, w.heap.size + 1 + 1 + 1, by rw [hw4, hw3, hw2, hw1], rfl, rfl, rfl, rfl, c1.bl.trans ((c2.bl.mono (by omega)).trans ((c3.bl.mono (by omega)).trans (c4.bl.mono (by omega)))), by omega, ?_, ?_, ?_, ?_⟩
  · exact (c4.bl.block _ (by omega)).trans ((c3.bl.block _ (by omega)).trans ((c2.bl.block _ (by omega)).trans c1.cl))
  · have := c2.cl
    rw [s1] at this
    exact (c4.bl.block _ (by omega)).trans ((c3.bl.block _ (by omega)).trans this)
  · have := c3.cl
    rw [s2, s1] at this
    exact (c4.bl.block _ (by omega)).trans this
  · have := c4.cl
    rw [s3, s2, s1] at this
    exact this

set_option maxRecDepth 100000 in
set_option maxHeartbeats 4000000 in
theorem prend20 (br : Nat) (za : Option Addr) (zc : Nat) (w : World) (ht : Tab w) (hbr : br ≠ 0) (h : Rq18 w br za 25 zc 21) (hz : Seg w za z20) (hzb : ∀ x off, za = some ⟨x, off, none⟩ → x ≠ br) (hc : 25 ≤ zc) :
    Calls Tryz.prog 70 #[.pointer (some ⟨br, 0, none⟩)] w fun e w' => e = .returned (.tuple #[]) ∧ Kp (fun k => k = br) w w' := by
  have SU : Hid (Calls Tryz.prog 105 #[.pointer (some ⟨br, 0, none⟩)] w.drew fun e w' => e = .returned (.tuple #[]) ∧ Rq18 w' br za z20.length zc (21 + 4) ∧ Kp (fun k => k = br) w.drew w') :=
    psm18 br za zc z20 21 w.drew ht.drew hbr (by rw [z20_len]; exact h) hz.drew (fun x off e _ => hzb x off e) (by rw [z20_len]; decide) (by rw [z20_len]; exact hc) (by rw [z20_len]; decide) z20_su
  have HS : Hid (w.drew.cell? ⟨br, 0, none⟩ = some (.slice za 25 zc) ∧ w.drew.cell? ⟨br, 1, none⟩ = some (.int .i64 21)) := ⟨cell18 (W := w.drew) h rfl, cell18 (W := w.drew) h rfl⟩
  have hw4 : IntKind.i64.wrap 4 = 4 := by decide
  clear ht h hz hzb hc
  go_enter Tryz.func70, Tryz.ntmps70
  go_wp2_with fail
  refine plain_region16 (fun V => V.cell? ⟨br, 0, none⟩ = some (.slice za 25 zc) ∧ V.cell? ⟨br, 1, none⟩ = some (.int .i64 21)) 12 (by kernel_rfl) HS.out (fun hHeld => ?_)
  refine wpAnyK_take (i := 0) (v := .pointer (some ⟨br, 0, none⟩)) rfl (by kernel_rfl) (by kernel_rfl) (by kernel_rfl) (by kernel_rfl) (fun _ _ _ h => h) (Or.inl ⟨by rfl, fun w hSw => by go_simp⟩) hHeld ?_
  simp only [List.getElem_toArray, List.getElem_cons_zero, Act.put, List.setIfInBounds_toArray, List.set_cons_zero, List.set_cons_succ]
  refine wpAnyK_take (i := 1) (v := .pointer (some ⟨br, 0, none⟩)) rfl (by kernel_rfl) (by kernel_rfl) (by kernel_rfl) (by kernel_rfl) (fun _ _ _ h => h) (Or.inl ⟨by rfl, fun w hSw => by go_simp⟩) hHeld ?_
  simp only [List.getElem_toArray, List.getElem_cons_zero, List.getElem_cons_succ, Act.put, List.setIfInBounds_toArray, List.set_cons_zero, List.set_cons_succ]
  refine wpAnyK_take (i := 2) (v := .pointer (some ⟨br, 0, none⟩)) rfl (by kernel_rfl) (by kernel_rfl) (by kernel_rfl) (by kernel_rfl) (fun _ _ _ h => h) (Or.inl ⟨by rfl, fun w hSw => by go_simp⟩) hHeld ?_
  simp only [List.getElem_toArray, List.getElem_cons_zero, List.getElem_cons_succ, Act.put, List.setIfInBounds_toArray, List.set_cons_zero, List.set_cons_succ]
  refine wpAnyK_take (i := 3) (v := .slice za 25 zc) rfl (by kernel_rfl) (by kernel_rfl) (by kernel_rfl) (by kernel_rfl) (fun _ _ _ h => h) (Or.inl ⟨by rfl, fun w hSw => by go_simp⟩) hHeld ?_
  simp only [List.getElem_toArray, List.getElem_cons_zero, List.getElem_cons_succ, Act.put, List.setIfInBounds_toArray, List.set_cons_zero, List.set_cons_succ]
  refine wpAnyK_take (i := 4) (v := .int .i64 25) rfl (by kernel_rfl) (by kernel_rfl) (by kernel_rfl) (by kernel_rfl) (fun _ _ _ h => h) (Or.inl ⟨by rfl, fun w hSw => by go_simp⟩) hHeld ?_
  simp only [List.getElem_toArray, List.getElem_cons_zero, List.getElem_cons_succ, Act.put, List.setIfInBounds_toArray, List.set_cons_zero, List.set_cons_succ]
  refine wpAnyK_take (i := 5) (v := .pointer (some ⟨br, 0, none⟩)) rfl (by kernel_rfl) (by kernel_rfl) (by kernel_rfl) (by kernel_rfl) (fun _ _ _ h => h) (Or.inl ⟨by rfl, fun w hSw => by go_simp⟩) hHeld ?_
  simp only [List.getElem_toArray, List.getElem_cons_zero, List.getElem_cons_succ, Act.put, List.setIfInBounds_toArray, List.set_cons_zero, List.set_cons_succ]
  refine wpAnyK_take (i := 6) (v := .pointer (some ⟨br, 0, none⟩)) rfl (by kernel_rfl) (by kernel_rfl) (by kernel_rfl) (by kernel_rfl) (fun _ _ _ h => h) (Or.inl ⟨by rfl, fun w hSw => by go_simp⟩) hHeld ?_
  simp only [List.getElem_toArray, List.getElem_cons_zero, List.getElem_cons_succ, Act.put, List.setIfInBounds_toArray, List.set_cons_zero, List.set_cons_succ]
  refine wpAnyK_take (i := 7) (v := .pointer (some ⟨br, 1, none⟩)) rfl (by kernel_rfl) (by kernel_rfl) (by kernel_rfl) (by kernel_rfl) (fun _ _ _ h => h) (Or.inl ⟨by rfl, fun w hSw => by go_simp⟩) hHeld ?_
  simp only [List.getElem_toArray, List.getElem_cons_zero, List.getElem_cons_succ, Act.put, List.setIfInBounds_toArray, List.set_cons_zero, List.set_cons_succ]
  refine wpAnyK_take (i := 8) (v := .int .i64 21) rfl (by kernel_rfl) (by kernel_rfl) (by kernel_rfl) (by kernel_rfl) (fun _ _ _ h => h) (Or.inl ⟨by rfl, fun w hSw => by go_simp⟩) hHeld ?_
  simp only [List.getElem_toArray, List.getElem_cons_zero, List.getElem_cons_succ, Act.put, List.setIfInBounds_toArray, List.set_cons_zero, List.set_cons_succ]
  refine wpAnyK_take (i := 9) (v := .int .i64 4) rfl (by kernel_rfl) (by kernel_rfl) (by kernel_rfl) (by kernel_rfl) (fun _ _ _ h => h) (Or.inl ⟨by rfl, fun w hSw => by go_simp⟩) hHeld ?_
  simp only [List.getElem_toArray, List.getElem_cons_zero, List.getElem_cons_succ, Act.put, List.setIfInBounds_toArray, List.set_cons_zero, List.set_cons_succ]
  refine wpAnyK_take (i := 10) (v := .bool true) rfl (by kernel_rfl) (by kernel_rfl) (by kernel_rfl) (by kernel_rfl) (fun _ _ _ h => h) (Or.inl ⟨by rfl, fun w hSw => by go_simp⟩) hHeld ?_
  simp only [List.getElem_toArray, List.getElem_cons_zero, List.getElem_cons_succ, Act.put, List.setIfInBounds_toArray, List.set_cons_zero, List.set_cons_succ]
  refine wpAnyK_one (i := 11) (by kernel_rfl) rfl (fun K hK => ?_)
  (try simp only [List.getElem_toArray, List.getElem_cons_zero, List.getElem_cons_succ, Act.put, List.setIfInBounds_toArray, List.set_cons_zero, List.set_cons_succ])
  go_simp
  refine (pmust18_t w.drew).mono ?_
  rintro e1 w1 ⟨rfl, hw1⟩
  subst w1
  refine hK.out _ _ (fun _ => HS.out) (fun _ => ?_)
  clear hK K
  (try simp only [List.getElem_toArray, List.getElem_cons_zero, List.getElem_cons_succ, Act.put, List.setIfInBounds_toArray, List.set_cons_zero, List.set_cons_succ])
  refine wpAnyK_done (by kernel_rfl) ?_ _
  go_wp2_with fail
  refine SU.out.mono ?_
  rintro e2 w2 ⟨rfl, -, k2⟩
  have HK : Hid (Kp (fun k => k = br) w w2) := ((Kp.refl _ _).drew).trans k2 (fun _ _ x => x)
  clear k2
  go_wp2
  go_end0
  exact ⟨rfl, HK.out⟩
theorem pcatchd20 (a0 a1 a2 : Value) (w : World) :
    CallsD Tryz.prog 66 #[a0, a1, a2] .returning w fun e u' w' => e = .returned (.tuple #[]) ∧ u' = .returning ∧ w' = w := by
  refine callsD_of_wpS Tryz.func66 rfl fun c₀ cs hu => ?_
  apply wpS_seq
  apply wpS_region
  simp [wpOpsS, go_sem, recoverD, hu, Tryz.ntmps66, Exit.thenS]
  refine wpS_of_wp ?_
  go_wp2
  cases c₀
  simp_all [bodyPostS, results, Tryz.results66]
set_option maxRecDepth 100000 in
set_option maxHeartbeats 8000000 in
theorem pdec20 (za : Option Addr) (zc : Nat) (w : World) (ht : Tab w) (hz : Seg w za z20) (hc : 25 ≤ zc) :
    Calls Tryz.prog 40 #[.slice za 25 zc] w fun e w' => e = .returned (.tuple #[.agg #[.int .i64 0, .int .i64 0, .int .u32 0, .int .u32 0, .int .i64 64, .int .i64 100], .slice none 0 0, .int .i64 0]) ∧ Below w.heap.size w w' := by
  have hmf : ∀ (fn : Fn) (first cap : Array Value) (w : World), (Instr.makeFunc fn first cap).run Tryz.prog w = .ok (.func fn first cap) w := fun _ _ _ _ => rfl
  obtain ⟨wR, bh, bn, be, br, X⟩ := fb20 w za 25 zc
  have x0 := X.b0
  have x1 := X.b1
  have x2 := X.b2
  have x3 := X.b3
  have kR : Ks18 w br wR := (Ks18.refl w br).bl X.bl
  have hzb : ∀ x off, za = some ⟨x, off, none⟩ → 0 < z20.length → x ≠ br := fun x off e hp => by have := hz.lt x off e hp; omega
  have HD : Hid (Calls Tryz.prog 67 #[.pointer (some ⟨br, 0, none⟩)] wR (HeQ18 wR br za zc z20)) := phd18 br za zc z20 wR (kR.tab ht (by omega)) (by omega) (by rw [z20_len]; exact X.qr) (kR.seg hz hzb) hzb (by rw [z20_len]; decide) (by rw [z20_len]; exact hc)
  have HTS : Hid (Tab wR ∧ Seg wR za z20 ∧ br ≠ 0 ∧ ∀ x off, za = some ⟨x, off, none⟩ → x ≠ br) := ⟨kR.tab ht (by omega), kR.seg hz hzb, by omega, fun x off e => hzb x off e (by rw [z20_len]; decide)⟩
  have HC : Hid (25 ≤ zc) := hc
  have HPOS : Hid (0 < w.heap.size) := SegK.lt ht 0 0 rfl (by decide)
  have HLT : Hid (∀ x off, za = some ⟨x, off, none⟩ → x < w.heap.size) := fun x off e => hz.lt x off e (by rw [z20_len]; decide)
  have HW : Hid ((((w.alloc (.cells #[.int .i64 0, .int .i64 0, .int .u32 0, .int .u32 0, .int .i64 0, .int .i64 0] 51)).alloc (.cells #[.slice none 0 0] 52)).alloc (.cells #[.int .i64 0] 22)).alloc (.cells #[.slice za 25 zc, .int .i64 0] 131) = wR) := X.wr
  have HB : Hid (w.heap.size = bh ∧ bh + 1 = bn ∧ bn + 1 = be ∧ be + 1 = br) := ⟨x0, x1, x2, x3⟩
  have HX : Hid (Fb20 w za 25 zc wR bh bn be br) := X
  clear x0 x1 x2 x3 kR hzb ht hz X hc
  go_enter_defers Tryz.func40, Tryz.ntmps40
  go_wp2_with fail
  rw [HW.out, HB.out.1, HB.out.2.1, HB.out.2.2.1, HB.out.2.2.2]
  refine HD.out.mono ?_
  intro e1 w1 hQ
  obtain ⟨hx, rfl, q1, k1⟩ | ⟨hx, -, -⟩ := hQ
  rotate_left
  · exact absurd z20_hd.1 hx
  rw [z20_hd.2.2, z20_len] at q1
  have e018 : (hr18 z20).cs = #[.int .i64 0, .int .i64 0, .int .u32 0, .int .u32 0, .int .i64 64, .int .i64 100] := by rw [z20_hd.2.1]; rfl
  rw [e018]
  clear hx e018
  have b := HB.out
  have qh1 := k1.heap HX.out.qh (fun x => by have x : bh = br := x; omega)
  have qn1 := k1.heap HX.out.qn (fun x => by have x : bn = br := x; omega)
  have qe1 := k1.heap HX.out.qe (fun x => by have x : be = br := x; omega)
  obtain ⟨w2, hw2⟩ : ∃ w2, w2 = w1.setRow bh #[.int .i64 0, .int .i64 0, .int .u32 0, .int .u32 0, .int .i64 64, .int .i64 100] := ⟨_, rfl⟩
  have kk2 : Kp (fun k => k = bh) w1 w2 := by rw [hw2]; exact grow20 _ _ _
  have qh2 : w2.heap[bh]? = some (.cells #[.int .i64 0, .int .i64 0, .int .u32 0, .int .u32 0, .int .i64 64, .int .i64 100] 51 (0, 0)) := by rw [hw2]; exact setRow_heap _ _ _ _ _ _ qh1
  have qn2 := kk2.heap qn1 (fun x => by have x : bn = bh := x; omega)
  have qe2 := kk2.heap qe1 (fun x => by have x : be = bh := x; omega)
  have qr2 : Rq18 w2 br za 25 zc 21 := kk2.heap q1 (fun x => by have x : br = bh := x; omega)
  have K2 : Kp (fun k => bh ≤ k) wR w2 := (k1.mono (fun k _ x => by have x : k = br := x; show bh ≤ k; omega)).trans kk2 (fun k _ x => by have x : k = bh := x; show bh ≤ k; omega)
  have HQ1 := Hid.mk21 qh1
  have HW2 : Hid (w1.setRow bh #[.int .i64 0, .int .i64 0, .int .u32 0, .int .u32 0, .int .i64 64, .int .i64 100] = w2) := hw2.symm
  have CW : Hid (Calls Tryz.prog 68 #[.agg #[.int .i64 0, .int .i64 0, .int .u32 0, .int .u32 0, .int .i64 64, .int .i64 100]] w2 fun e w' => e = .returned (.int .i64 0) ∧ Below w2.heap.size w2 w') := by
    have := pwin18 h018 w2
    rw [h018_win] at this
    exact this
  have HQ2 : Hid (w2.heap[bh]? = some (.cells #[.int .i64 0, .int .i64 0, .int .u32 0, .int .u32 0, .int .i64 64, .int .i64 100] 51 (0, 0)) ∧ w2.heap[bn]? = some (.cells #[.slice none 0 0] 52 (0, 0)) ∧ w2.heap[be]? = some (.cells #[.int .i64 0] 22 (0, 0)) ∧ Rq18 w2 br za 25 zc 21 ∧ Kp (fun k => bh ≤ k) wR w2) := ⟨qh2, qn2, qe2, qr2, K2⟩
  clear hw2 qh1 qn1 qe1 q1 k1 b qh2 qn2 qe2 qr2 K2 kk2 HD HW
  go_wp2_with (first
    | (refine wpList_store_row rfl 51 (.tmp 2) (.tmp 10) rfl bh #[.int .i64 0, .int .i64 0, .int .u32 0, .int .u32 0, .int .i64 64, .int .i64 100] rfl rfl _ _ HQ1.out (by kernel_rfl) rfl (by kernel_rfl) ?_; rw [HW2.out])
    | (refine wpList_load_row rfl 51 (.tmp 2) rfl bh rfl _ _ _ _ HQ2.out.1 Tryz.underlying51 rfl (by kernel_rfl) ?_))
  refine CW.out.mono ?_
  rintro e3 w3 ⟨rfl, b3⟩
  have HQ3 : Hid (w3.heap[bh]? = some (.cells #[.int .i64 0, .int .i64 0, .int .u32 0, .int .u32 0, .int .i64 64, .int .i64 100] 51 (0, 0)) ∧ w3.heap[bn]? = some (.cells #[.slice none 0 0] 52 (0, 0)) ∧ w3.heap[be]? = some (.cells #[.int .i64 0] 22 (0, 0)) ∧ Rq18 w3 br za 25 zc 21 ∧ Kp (fun k => bh ≤ k) wR w3) := by
    obtain ⟨a1, a2, a3, a4, a5⟩ := HQ2.out
    exact ⟨(b3.block _ (Array.getElem?_eq_some_iff.1 a1).1).trans a1, (b3.block _ (Array.getElem?_eq_some_iff.1 a2).1).trans a2, (b3.block _ (Array.getElem?_eq_some_iff.1 a3).1).trans a3, (b3.block _ (Array.getElem?_eq_some_iff.1 a4).1).trans a4, a5.trans (Kp.of_below (S := fun _ => False) b3) (fun _ _ x => x.elim)⟩
  clear b3 CW HQ2 HW2 HQ1
  go_wp2_with fail
  go_loopw [13] (fun t13 V => t13 = .int .i64 0 ∧ V = w3) (fun _ _ => 0)
  case atStart => exact ⟨rfl, rfl⟩
  case round =>
    obtain ⟨rfl, hwr⟩ := hrel
    subst wr
    have hbl : w.heap.size = bh := HB.out.1
    have TS : Tab w3 ∧ Seg w3 za z20 := by
      obtain ⟨t, sg, -, hne⟩ := HTS.out
      have h0 : 0 < w.heap.size := HPOS.out
      refine ⟨SegK.kp t HQ3.out.2.2.2.2 (fun x off e hp y => ?_), SegK.kp sg HQ3.out.2.2.2.2 (fun x off e hp y => ?_)⟩
      · cases e; have y : bh ≤ 0 := y; omega
      · have := HLT.out x off e; have y : bh ≤ x := y; omega
    have EN : Hid (Calls Tryz.prog 70 #[.pointer (some ⟨br, 0, none⟩)] w3 fun e w' => e = .returned (.tuple #[]) ∧ Kp (fun k => k = br) w3 w') := prend20 br za zc w3 TS.1 HTS.out.2.2.1 HQ3.out.2.2.2.1 TS.2 HTS.out.2.2.2 HC.out
    clear TS hbl
    go_wp2_with fail
    refine EN.out.mono ?_
    rintro e4 w4 ⟨rfl, k4⟩
    have b := HB.out
    have qh4 := k4.heap HQ3.out.1 (fun x => by have x : bh = br := x; omega)
    have qn4 := k4.heap HQ3.out.2.1 (fun x => by have x : bn = br := x; omega)
    have qe4 := k4.heap HQ3.out.2.2.1 (fun x => by have x : be = br := x; omega)
    have K4 : Kp (fun k => bh ≤ k) wR w4 := HQ3.out.2.2.2.2.trans k4 (fun k _ x => by have x : k = br := x; show bh ≤ k; omega)
    have d0 : w4.cell? ⟨bh, 0, none⟩ = some (.int .i64 0) := cell18 qh4 rfl
    have d1 : w4.cell? ⟨bh, 1, none⟩ = some (.int .i64 0) := cell18 qh4 rfl
    have d2 : w4.cell? ⟨bh, 2, none⟩ = some (.int .u32 0) := cell18 qh4 rfl
    have d3 : w4.cell? ⟨bh, 3, none⟩ = some (.int .u32 0) := cell18 qh4 rfl
    have d4 : w4.cell? ⟨bh, 4, none⟩ = some (.int .i64 64) := cell18 qh4 rfl
    have d5 : w4.cell? ⟨bh, 5, none⟩ = some (.int .i64 100) := cell18 qh4 rfl
    have fh : ∀ j, w4.frozen? ⟨bh, j, none⟩ = false := fun j => by simp [World.frozen?, qh4]
    have f0 := fh 0
    have f1 := fh 1
    have f2 := fh 2
    have f3 := fh 3
    have f4 := fh 4
    have f5 := fh 5
    have n0 : w4.cell? ⟨bn, 0, none⟩ = some (.slice none 0 0) := cell18 qn4 rfl
    have fn : w4.frozen? ⟨bn, 0, none⟩ = false := by simp [World.frozen?, qn4]
    have e0 : w4.cell? ⟨be, 0, none⟩ = some (.int .i64 0) := cell18 qe4 rfl
    have fe : w4.frozen? ⟨be, 0, none⟩ = false := by simp [World.frozen?, qe4]
    have m1 : bh ≠ bn := by omega
    have m2 : bh ≠ be := by omega
    have m4 : bn ≠ be := by omega
    have QH : Hid (w4.heap[bh]? = some (.cells #[.int .i64 0, .int .i64 0, .int .u32 0, .int .u32 0, .int .i64 64, .int .i64 100] 51 (0, 0)) ∧ w4.heap[bn]? = some (.cells #[.slice none 0 0] 52 (0, 0)) ∧ w4.heap[be]? = some (.cells #[.int .i64 0] 22 (0, 0)) ∧ Kp (fun k => bh ≤ k) wR w4) := ⟨qh4, qn4, qe4, K4⟩
    clear fh qh4 qn4 qe4 K4 k4 b EN
    go_wp2_with fail
    go_region
    go_wp2_with fail
    obtain ⟨w5, hw5⟩ : ∃ w5, w5 = (((((((w4.setCell ⟨bh, 0, none⟩ (.int .i64 0)).setCell ⟨bh, 1, none⟩ (.int .i64 0)).setCell ⟨bh, 2, none⟩ (.int .u32 0)).setCell ⟨bh, 3, none⟩ (.int .u32 0)).setCell ⟨bh, 4, none⟩ (.int .i64 64)).setCell ⟨bh, 5, none⟩ (.int .i64 100)).setCell ⟨bn, 0, none⟩ (.slice none 0 0)).setCell ⟨be, 0, none⟩ (.int .i64 0) := ⟨_, rfl⟩
    rw [← hw5]
    have y1 := Ne.symm m1
    have y2 := Ne.symm m2
    have y4 := Ne.symm m4
    have qh5 : w5.heap[bh]? = some (.cells #[.int .i64 0, .int .i64 0, .int .u32 0, .int .u32 0, .int .i64 64, .int .i64 100] 51 (0, 0)) := by
      rw [hw5]
      simp [World.setCell, Array.getElem?_modify, QH.out.1, m1, m2, y1, y2]
    have qn5 : w5.heap[bn]? = some (.cells #[.slice none 0 0] 52 (0, 0)) := by
      rw [hw5]
      simp [World.setCell, Array.getElem?_modify, QH.out.2.1, m1, y1, m4, y4]
    have qe5 : w5.heap[be]? = some (.cells #[.int .i64 0] 22 (0, 0)) := by
      rw [hw5]
      simp [World.setCell, Array.getElem?_modify, QH.out.2.2.1, m2, y2, m4, y4]
    have K5 : Kp (fun k => bh ≤ k) wR w5.drew := by
      rw [hw5]
      have sb : bh ≤ bn := by have := HB.out; omega
      have se : bh ≤ be := by have := HB.out; omega
      exact (((((((((QH.out.2.2.2).trans (Kp.set (S := fun k => bh ≤ k) (Nat.le_refl bh) _) (fun _ _ x => x)).trans (Kp.set (S := fun k => bh ≤ k) (Nat.le_refl bh) _) (fun _ _ x => x)).trans (Kp.set (S := fun k => bh ≤ k) (Nat.le_refl bh) _) (fun _ _ x => x)).trans (Kp.set (S := fun k => bh ≤ k) (Nat.le_refl bh) _) (fun _ _ x => x)).trans (Kp.set (S := fun k => bh ≤ k) (Nat.le_refl bh) _) (fun _ _ x => x)).trans (Kp.set (S := fun k => bh ≤ k) (Nat.le_refl bh) _) (fun _ _ x => x)).trans (Kp.set (S := fun k => bh ≤ k) sb _) (fun _ _ x => x)).trans (Kp.set (S := fun k => bh ≤ k) se _) (fun _ _ x => x)).drew
    have g1 : w5.drew.cell? ⟨bn, 0, none⟩ = some (.slice none 0 0) := cell18 (W := w5.drew) qn5 rfl
    have g2 : w5.drew.cell? ⟨be, 0, none⟩ = some (.int .i64 0) := cell18 (W := w5.drew) qe5 rfl
    have qh6 : w5.drew.heap[bh]? = some (.cells #[.int .i64 0, .int .i64 0, .int .u32 0, .int .u32 0, .int .i64 64, .int .i64 100] 51 (0, 0)) := qh5
    clear hw5 qh5 qn5 qe5
    generalize w5.drew = w6 at *
    have B6 : Below w.heap.size w w6 := by
      have k6 : Kp (fun k => w.heap.size ≤ k) w w6 := (Kp.of_below (S := fun k => w.heap.size ≤ k) HX.out.bl).trans K5 (fun k _ x => by have := HB.out; have x : bh ≤ k := x; show w.heap.size ≤ k; omega)
      exact k6.below (fun _ x => x) (Nat.le_refl _)
    refine leaves_cons (f := 66) (args := #[.pointer (some ⟨bh, 0, none⟩), .pointer (some ⟨bn, 0, none⟩), .pointer (some ⟨be, 0, none⟩)]) (by simp) (by simp [go_sem]) ?_
    refine (pcatchd20 _ _ _ _).mono ?_
    rintro e u' w'' ⟨rfl, rfl, rfl⟩
    refine ⟨.tuple #[.agg #[.int .i64 0, .int .i64 0, .int .u32 0, .int .u32 0, .int .i64 64, .int .i64 100], .slice none 0 0, .int .i64 0], ?_, ?_⟩
    · exact results_ccc18 rfl _ _ bh _ _ _ _ rfl qh6 Tryz.underlying51 rfl (by kernel_rfl) bn _ rfl (by simp [loadVar, go_sem, g1, Tryz.underlying52]) be _ rfl (by simp [loadVar, go_sem, g2, Tryz.underlying22])
    · exact ⟨rfl, B6⟩
end Go.Proofs.YtmfpdchfofffeaaGreatDoor

namespace Go.Proofs.YtmfpdchfofffeaaGreatDoor
open Go.RowKit Go.Shelf
set_option linter.unusedVariables false
set_option linter.unusedSimpArgs false
def mm20 (gv rd : Value) : Array Value := mk20 (.int .i64 0) (.int .i64 0) (.int .i64 0) (.bool false) (.int .i64 0) gv rd (.slice none 0 0) (.slice none 0 0) (.slice none 0 0) (.int .i64 0) (.int .i64 0) (.int .u32 0) (.int .u32 0) (.int .i64 0) (.int .i64 0) (.slice none 0 0) (.slice none 0 0)
theorem info_pl20 : (Tryz.prog.info? 54).map (fun i => (i.zero, i.size, i.bytes)) = some (some (.agg #[.int .i64 0, .int .i64 0, .int .u32 0, .int .u32 0, .int .i64 0, .int .i64 0, .slice none 0 0]), 7, 64) := by kernel_rfl
theorem appp20 (V : World) (base : Nat) (hbase : base ≤ V.heap.size) :
    ∃ g rc w', (Builtin.append_ #[45, 45] 45 #[.slice none 0 0, .slice (some ⟨V.heap.size, 0, none⟩) 1 1]).run Tryz.prog (V.alloc (.cells #[.int .i64 0, .int .i64 0, .int .u32 0, .int .u32 0, .int .i64 64, .int .i64 100, .slice none 0 0] 54)) = .ok (.slice (some ⟨g, 0, none⟩) 1 rc) w' ∧
      w'.ownsRow base 54 7 (.slice (some ⟨g, 0, none⟩) 1 rc) 1 [.int .i64 0, .int .i64 0, .int .u32 0, .int .u32 0, .int .i64 64, .int .i64 100, .slice none 0 0] ∧ Kp (fun _ => False) V w' ∧ V.heap.size ≤ g := by
  obtain ⟨i0, hi, hz0, hz1, hz2⟩ := info_parts info_pl20
  have hown : V.ownsRow base 54 7 (.slice none 0 0) 0 [] := World.ownsRow_nil _ _ _ _
  obtain ⟨g, rc, w', hr, h1, h2, h3, h4⟩ := run_append_lies (P := Tryz.prog) (V.alloc (.cells #[.int .i64 0, .int .i64 0, .int .u32 0, .int .u32 0, .int .i64 64, .int .i64 100, .slice none 0 0] 54)) 45 45 base 54 i0 _ 7 64 Tryz.underlying45 hi hz0 hz1 hz2 rfl (by omega) (.slice none 0 0) 0 [] (hown.alloc _) ⟨V.heap.size, 0, none⟩ 1 1 [.int .i64 0, .int .i64 0, .int .u32 0, .int .u32 0, .int .i64 64, .int .i64 100, .slice none 0 0] rfl
    (World.news_of_block (heap_alloc_new V (.cells #[.int .i64 0, .int .i64 0, .int .u32 0, .int .u32 0, .int .i64 64, .int .i64 100, .slice none 0 0] 54 (0, 0)))) (by intro u hu; simp at hu; rcases hu with rfl | rfl | rfl | rfl | rfl <;> rfl) (by omega) (by unfold maxLen; omega) (by omega) (by simp; omega) (V.heap.size + 1) (by simp)
  refine ⟨g, rc, w', hr, h1, (Kp.alloc V _).trans (Kp.grown (S := fun _ => False) h2 (fun i e => by cases e)) (fun _ _ e => e), ?_⟩
  rcases h3 with h | h
  · cases h
  · omega
/-- What was read of the one patch. -/
structure Rd20 (V : World) (B rb rc : Nat) : Prop where
  own : V.ownsRow B 54 7 (.slice (some ⟨rb, 0, none⟩) 1 rc) 1 [.int .i64 0, .int .i64 0, .int .u32 0, .int .u32 0, .int .i64 64, .int .i64 100, .slice none 0 0]
theorem Rd20.c {V : World} {B rb rc j : Nat} {v : Value} (h : Rd20 V B rb rc) (hv : ([.int .i64 0, .int .i64 0, .int .u32 0, .int .u32 0, .int .i64 64, .int .i64 100, .slice none 0 0] : List Value)[j]? = some v) : V.cell? ⟨rb, j, none⟩ = some v :=
  (h.own.cellAt j (by have := (List.getElem?_eq_some_iff.1 hv).1; simpa using this)).trans hv
theorem Rd20.kp {V V' : World} {B rb rc : Nat} {S : Nat → Prop} (h : Rd20 V B rb rc) (hk : Kp S V V') (hn : ¬ S rb) : Rd20 V' B rb rc := ⟨own_kp16 h.own hk (fun k e x => by
  have e : some rb = some k := e
  injection e with e
  exact hn (e ▸ x))⟩
set_option maxRecDepth 100000 in
set_option maxHeartbeats 8000000 in
theorem pdcd20 (b gb : Nat) (za : Option Addr) (zc gc : Nat) (w : World) (ht : Tab w) (hgb : gb ≠ b) (hb0 : b ≠ 0) (h : Ma20 w b (mm20 (.slice (some ⟨gb, 0, none⟩) 1 gc) (.slice none 0 0))) (hg : w.heap[gb]? = some (.cells #[.slice za 25 zc] 36 (0, 0))) (hz : Seg w za z20) (hzb : ∀ x off, za = some ⟨x, off, none⟩ → x ≠ b) (hc : 25 ≤ zc) :
    Calls Tryz.prog 20 #[.pointer (some ⟨b, 0, none⟩)] w fun e w' => e = .returned (.tuple #[]) ∧ (∃ rb rc, Ma20 w' b (mm20 (.slice (some ⟨gb, 0, none⟩) 1 gc) (.slice (some ⟨rb, 0, none⟩) 1 rc)) ∧ Rd20 w' w.heap.size rb rc) ∧ Kp (fun k => k = b) w w' := by
  have HLB : Hid (b < w.heap.size) := (Array.getElem?_eq_some_iff.1 h).1
  have c9 : w.cell? ⟨b, 9, none⟩ = some (.slice (some ⟨gb, 0, none⟩) 1 gc) := h.c rfl
  have DE : Hid (Calls Tryz.prog 40 #[.slice za 25 zc] w fun e w' => e = .returned (.tuple #[.agg #[.int .i64 0, .int .i64 0, .int .u32 0, .int .u32 0, .int .i64 64, .int .i64 100], .slice none 0 0, .int .i64 0]) ∧ Below w.heap.size w w') := pdec20 za zc w ht hz hc
  have HH : Hid (Ma20 w b (mm20 (.slice (some ⟨gb, 0, none⟩) 1 gc) (.slice none 0 0)) ∧ w.heap[gb]? = some (.cells #[.slice za 25 zc] 36 (0, 0))) := ⟨h, hg⟩
  clear ht hgb hz hzb hc h hg hb0
  go_enter Tryz.func20, Tryz.ntmps20
  go_wp2_with fail
  go_loopw [12] (fun t12 V => (t12 = .int .i64 0 ∧ V = w) ∨ (t12 = .int .i64 1 ∧ (∃ rb rc, Ma20 V b (mm20 (.slice (some ⟨gb, 0, none⟩) 1 gc) (.slice (some ⟨rb, 0, none⟩) 1 rc)) ∧ Rd20 V w.heap.size rb rc) ∧ Kp (fun k => k = b) w V)) (fun t12 _ => 1 - (intOf t12).toNat)
  case atStart => exact .inl ⟨rfl, rfl⟩
  case round =>
    rcases hrel with ⟨rfl, hV⟩ | ⟨rfl, hV⟩
    rotate_left
    · have HV := Hid.mk20 hV
      clear hV c9
      go_wp2_with fail
      go_end0
      exact ⟨rfl, HV.out.1, HV.out.2⟩
    subst wr
    have cg : w.cell? ⟨gb, 0, none⟩ = some (.slice za 25 zc) := cell18 HH.out.2 rfl
    go_wp2_with fail
    refine DE.out.mono ?_
    rintro e1 w1 ⟨rfl, b1⟩
    obtain ⟨w2, hw2⟩ : ∃ w2, w2 = w1.alloc (.cells #[.int .i64 0, .int .i64 0, .int .u32 0, .int .u32 0, .int .i64 64, .int .i64 100] 51) := ⟨_, rfl⟩
    have k2 := cb16 w1 #[.int .i64 0, .int .i64 0, .int .u32 0, .int .u32 0, .int .i64 64, .int .i64 100] 51
    rw [← hw2] at k2
    obtain ⟨b4, hb4⟩ : ∃ b4, b4 = w1.heap.size := ⟨_, rfl⟩
    have q4 := k2.cl
    rw [← hb4] at q4
    have B2 : Below w.heap.size w w2 := b1.trans (k2.bl.mono b1.size)
    have HW2 : Hid (w1.alloc (.cells #[.int .i64 0, .int .i64 0, .int .u32 0, .int .u32 0, .int .i64 64, .int .i64 100] 51) = w2 ∧ w1.heap.size = b4) := ⟨hw2.symm, hb4.symm⟩
    have H2 : Hid (Ma20 w2 b (mm20 (.slice (some ⟨gb, 0, none⟩) 1 gc) (.slice none 0 0)) ∧ w2.heap[b4]? = some (.cells #[.int .i64 0, .int .i64 0, .int .u32 0, .int .u32 0, .int .i64 64, .int .i64 100] 51 (0, 0)) ∧ Below w.heap.size w w2 ∧ w.heap.size ≤ b4) := ⟨HH.out.1.old B2, q4, B2, by have := b1.size; omega⟩
    clear hw2 k2 hb4 q4 B2 b1 DE c9 cg
    go_wp2_with fail
    rw [HW2.out.1, HW2.out.2]
    refine (ppas20 w2).mono ?_
    rintro e3 w3 ⟨rfl, hw3⟩
    subst w3
    go_wp2_with fail
    have HS : Hid (∀ V rd, Ma20 V b (mm20 (.slice (some ⟨gb, 0, none⟩) 1 gc) rd) → V.heap[b4]? = some (.cells #[.int .i64 0, .int .i64 0, .int .u32 0, .int .u32 0, .int .i64 64, .int .i64 100] 51 (0, 0)) → V.cell? ⟨b, 10, none⟩ = some rd ∧ V.cell? ⟨b4, 0, none⟩ = some (.int .i64 0) ∧ V.cell? ⟨b4, 1, none⟩ = some (.int .i64 0) ∧ V.cell? ⟨b4, 2, none⟩ = some (.int .u32 0) ∧ V.cell? ⟨b4, 3, none⟩ = some (.int .u32 0) ∧ V.cell? ⟨b4, 4, none⟩ = some (.int .i64 64) ∧ V.cell? ⟨b4, 5, none⟩ = some (.int .i64 100)) := fun V rd m q => ⟨m.c rfl, cell18 q rfl, cell18 q rfl, cell18 q rfl, cell18 q rfl, cell18 q rfl, cell18 q rfl⟩
    obtain ⟨u, hu⟩ : ∃ u, u = w2.drew := ⟨_, rfl⟩
    have HU : Hid (w2.drew = u) := hu.symm
    have H3 : Hid (Ma20 u b (mm20 (.slice (some ⟨gb, 0, none⟩) 1 gc) (.slice none 0 0)) ∧ u.heap[b4]? = some (.cells #[.int .i64 0, .int .i64 0, .int .u32 0, .int .u32 0, .int .i64 64, .int .i64 100] 51 (0, 0)) ∧ Below w.heap.size w u ∧ w.heap.size ≤ b4) := by
      show _ ∧ _ ∧ _ ∧ _
      rw [hu]
      exact ⟨H2.out.1, H2.out.2.1, H2.out.2.2.1.drew, H2.out.2.2.2⟩
    clear hu
    refine plain_region16 (fun V => V.cell? ⟨b, 10, none⟩ = some (.slice none 0 0) ∧ V.cell? ⟨b4, 0, none⟩ = some (.int .i64 0) ∧ V.cell? ⟨b4, 1, none⟩ = some (.int .i64 0) ∧ V.cell? ⟨b4, 2, none⟩ = some (.int .u32 0) ∧ V.cell? ⟨b4, 3, none⟩ = some (.int .u32 0) ∧ V.cell? ⟨b4, 4, none⟩ = some (.int .i64 64) ∧ V.cell? ⟨b4, 5, none⟩ = some (.int .i64 100)) 12 (by kernel_rfl) (by rw [HU.out]; exact HS.out _ _ H3.out.1 H3.out.2.1) (fun hHeld => ?_)
    rw [HU.out] at hHeld ⊢
    refine wpAnyK_take (i := 0) (v := .pointer (some ⟨b, 0, none⟩)) rfl (by kernel_rfl) (by kernel_rfl) (by kernel_rfl) (by kernel_rfl) (fun _ _ _ h => h) (Or.inl ⟨by rfl, fun w hSw => by go_simp⟩) hHeld ?_
    simp only [List.getElem_toArray, List.getElem_cons_zero, Act.put, List.setIfInBounds_toArray, List.set_cons_zero, List.set_cons_succ]
    refine wpAnyK_take (i := 1) (v := .pointer (some ⟨b, 0, none⟩)) rfl (by kernel_rfl) (by kernel_rfl) (by kernel_rfl) (by kernel_rfl) (fun _ _ _ h => h) (Or.inl ⟨by rfl, fun w hSw => by go_simp⟩) hHeld ?_
    simp only [List.getElem_toArray, List.getElem_cons_zero, List.getElem_cons_succ, Act.put, List.setIfInBounds_toArray, List.set_cons_zero, List.set_cons_succ]
    refine wpAnyK_take (i := 2) (v := .pointer (some ⟨b, 0, none⟩)) rfl (by kernel_rfl) (by kernel_rfl) (by kernel_rfl) (by kernel_rfl) (fun _ _ _ h => h) (Or.inl ⟨by rfl, fun w hSw => by go_simp⟩) hHeld ?_
    simp only [List.getElem_toArray, List.getElem_cons_zero, List.getElem_cons_succ, Act.put, List.setIfInBounds_toArray, List.set_cons_zero, List.set_cons_succ]
    refine wpAnyK_take (i := 3) (v := .pointer (some ⟨b, 10, none⟩)) rfl (by kernel_rfl) (by kernel_rfl) (by kernel_rfl) (by kernel_rfl) (fun _ _ _ h => h) (Or.inl ⟨by rfl, fun w hSw => by go_simp⟩) hHeld ?_
    simp only [List.getElem_toArray, List.getElem_cons_zero, List.getElem_cons_succ, Act.put, List.setIfInBounds_toArray, List.set_cons_zero, List.set_cons_succ]
    refine wpAnyK_take (i := 4) (v := .slice none 0 0) rfl (by kernel_rfl) (by kernel_rfl) (by kernel_rfl) (by kernel_rfl) (fun _ _ _ h => h) (Or.inl ⟨by rfl, fun w hSw => by go_simp⟩) hHeld ?_
    simp only [List.getElem_toArray, List.getElem_cons_zero, List.getElem_cons_succ, Act.put, List.setIfInBounds_toArray, List.set_cons_zero, List.set_cons_succ]
    refine wpAnyK_take (i := 5) (v := .agg #[.int .i64 0, .int .i64 0, .int .u32 0, .int .u32 0, .int .i64 64, .int .i64 100]) rfl (by kernel_rfl) (by kernel_rfl) (by kernel_rfl) (by kernel_rfl) (fun _ _ _ h => h) (Or.inl ⟨by rfl, fun w hSw => by go_simp⟩) hHeld ?_
    simp only [List.getElem_toArray, List.getElem_cons_zero, List.getElem_cons_succ, Act.put, List.setIfInBounds_toArray, List.set_cons_zero, List.set_cons_succ]
    refine wpAnyK_take (i := 6) (v := .slice none 0 0) rfl (by kernel_rfl) (by kernel_rfl) (by kernel_rfl) (by kernel_rfl) (fun _ _ _ h => h) (Or.inl ⟨by rfl, fun w hSw => by go_simp⟩) hHeld ?_
    simp only [List.getElem_toArray, List.getElem_cons_zero, List.getElem_cons_succ, Act.put, List.setIfInBounds_toArray, List.set_cons_zero, List.set_cons_succ]
    refine wpAnyK_take (i := 7) (v := .agg #[.int .i64 0, .int .i64 0, .int .u32 0, .int .u32 0, .int .i64 64, .int .i64 100, .slice none 0 0]) rfl (by kernel_rfl) (by kernel_rfl) (by kernel_rfl) (by kernel_rfl) (fun _ _ _ h => h) (Or.inl ⟨by rfl, fun w hSw => by go_simp⟩) hHeld ?_
    simp only [List.getElem_toArray, List.getElem_cons_zero, List.getElem_cons_succ, Act.put, List.setIfInBounds_toArray, List.set_cons_zero, List.set_cons_succ]
    obtain ⟨rb, rc, w5, hr5, o5, k5, g5⟩ := appp20 u w.heap.size H3.out.2.2.1.size
    have m5 : Ma20 w5 b (mm20 (.slice (some ⟨gb, 0, none⟩) 1 gc) (.slice none 0 0)) := k5.heap H3.out.1 (fun x => x)
    have q5 := k5.heap H3.out.2.1 (fun x => x)
    obtain ⟨u2, hu2⟩ : ∃ u2, u2 = u.alloc (.cells #[.int .i64 0, .int .i64 0, .int .u32 0, .int .u32 0, .int .i64 64, .int .i64 100, .slice none 0 0] 54) := ⟨_, rfl⟩
    have ku := cb16 u #[.int .i64 0, .int .i64 0, .int .u32 0, .int .u32 0, .int .i64 64, .int .i64 100, .slice none 0 0] 54
    rw [← hu2] at ku hr5
    have HU2 : Hid (u.alloc (.cells #[.int .i64 0, .int .i64 0, .int .u32 0, .int .u32 0, .int .i64 64, .int .i64 100, .slice none 0 0] 54) = u2) := hu2.symm
    have H4 : Hid (Ma20 u2 b (mm20 (.slice (some ⟨gb, 0, none⟩) 1 gc) (.slice none 0 0)) ∧ u2.heap[b4]? = some (.cells #[.int .i64 0, .int .i64 0, .int .u32 0, .int .u32 0, .int .i64 64, .int .i64 100] 51 (0, 0))) := ⟨H3.out.1.old ku.bl, (ku.bl.block _ (Array.getElem?_eq_some_iff.1 H3.out.2.1).1).trans H3.out.2.1⟩
    have H5 : Hid (Ma20 w5 b (mm20 (.slice (some ⟨gb, 0, none⟩) 1 gc) (.slice none 0 0)) ∧ w5.heap[b4]? = some (.cells #[.int .i64 0, .int .i64 0, .int .u32 0, .int .u32 0, .int .i64 64, .int .i64 100] 51 (0, 0)) ∧ w5.ownsRow w.heap.size 54 7 (.slice (some ⟨rb, 0, none⟩) 1 rc) 1 [.int .i64 0, .int .i64 0, .int .u32 0, .int .u32 0, .int .i64 64, .int .i64 100, .slice none 0 0] ∧ Kp (fun k => k = b) w w5 ∧ w.heap.size ≤ rb) := ⟨m5, q5, o5, (Kp.of_below (S := fun k => k = b) H3.out.2.2.1).trans k5 (fun _ _ x => x.elim), by have := H3.out.2.2.1.size; omega⟩
    have HR5 := Hid.mk20 hr5
    clear hu2 ku m5 q5 o5 k5 g5 hr5
    refine wpAnyK_one (i := 8) (by kernel_rfl) rfl (fun K hK => ?_)
    (try simp only [List.getElem_toArray, List.getElem_cons_zero, List.getElem_cons_succ, Act.put, List.setIfInBounds_toArray, List.set_cons_zero, List.set_cons_succ])
    go_simp
    rw [HU2.out]
    refine hK.out _ _ (fun _ => HS.out _ _ H4.out.1 H4.out.2) (fun hHeld0 => ?_)
    have hHeld := hHeld0 (by decide)
    clear hHeld0 hK K
    (try simp only [List.getElem_toArray, List.getElem_cons_zero, List.getElem_cons_succ, Act.put, List.setIfInBounds_toArray, List.set_cons_zero, List.set_cons_succ])
    refine wpAnyK_one (i := 9) (by kernel_rfl) rfl (fun K hK => ?_)
    rw [if_pos (show Region.wanted _ _ = true from rfl)]
    refine operwp_app16 (.tmp 28) (.tmp 32) 45 rfl rfl rfl HR5.out ?_
    refine hK.out _ _ (fun _ => HS.out _ _ H5.out.1 H5.out.2.1) (fun hHeld0 => ?_)
    have hHeld := hHeld0 (by decide)
    clear hHeld0 hK K
    simp only [Act.put, List.setIfInBounds_toArray, List.set_cons_zero, List.set_cons_succ]
    refine wpAnyK_one (i := 10) (by kernel_rfl) rfl (fun K hK => ?_)
    (try simp only [List.getElem_toArray, List.getElem_cons_zero, List.getElem_cons_succ, Act.put, List.setIfInBounds_toArray, List.set_cons_zero, List.set_cons_succ])
    go_simp
    refine hK.out _ _ (fun _ => HS.out _ _ H5.out.1 H5.out.2.1) (fun hHeld0 => ?_)
    have hHeld := hHeld0 (by decide)
    clear hHeld0 hK K
    (try simp only [List.getElem_toArray, List.getElem_cons_zero, List.getElem_cons_succ, Act.put, List.setIfInBounds_toArray, List.set_cons_zero, List.set_cons_succ])
    refine wpAnyK_take (i := 11) (v := .pointer (some ⟨b, 10, none⟩)) rfl (by kernel_rfl) (by kernel_rfl) (by kernel_rfl) (by kernel_rfl) (fun _ _ _ h => h) (Or.inl ⟨by rfl, fun w hSw => by go_simp⟩) hHeld ?_
    simp only [List.getElem_toArray, List.getElem_cons_zero, List.getElem_cons_succ, Act.put, List.setIfInBounds_toArray, List.set_cons_zero, List.set_cons_succ]
    have d10 : w5.cell? ⟨b, 10, none⟩ = some (.slice none 0 0) := H5.out.1.c rfl
    have f10 := H5.out.1.f (i := 10)
    have m6 : Ma20 (w5.setCell ⟨b, 10, none⟩ (.slice (some ⟨rb, 0, none⟩) 1 rc)) b (mm20 (.slice (some ⟨gb, 0, none⟩) 1 gc) (.slice (some ⟨rb, 0, none⟩) 1 rc)) := H5.out.1.set (i := 10) (.slice (some ⟨rb, 0, none⟩) 1 rc)
    have k6 : Kp (fun k => k = b) w5 (w5.setCell ⟨b, 10, none⟩ (.slice (some ⟨rb, 0, none⟩) 1 rc)) := Kp.set (S := fun k => k = b) rfl _
    have H6 : Hid (Ma20 (w5.setCell ⟨b, 10, none⟩ (.slice (some ⟨rb, 0, none⟩) 1 rc)) b (mm20 (.slice (some ⟨gb, 0, none⟩) 1 gc) (.slice (some ⟨rb, 0, none⟩) 1 rc)) ∧ Rd20 (w5.setCell ⟨b, 10, none⟩ (.slice (some ⟨rb, 0, none⟩) 1 rc)) w.heap.size rb rc ∧ Kp (fun k => k = b) w (w5.setCell ⟨b, 10, none⟩ (.slice (some ⟨rb, 0, none⟩) 1 rc))) := ⟨m6, Rd20.kp ⟨H5.out.2.2.1⟩ k6 (fun x => by have x : rb = b := x; have := HLB.out; have := H5.out.2.2.2.2; omega), H5.out.2.2.2.1.trans k6 (fun _ _ x => x)⟩
    clear m6 k6
    refine wpAnyK_one (i := 12) (by kernel_rfl) rfl (fun K hK => ?_)
    simp only [List.getElem_toArray, List.getElem_cons_zero, List.getElem_cons_succ, Act.put]
    go_simp
    refine hK.out _ _ (fun h => absurd rfl h) (fun _ => ?_)
    clear hK K
    refine wpAnyK_done (by kernel_rfl) ?_ _
    go_wp2_with fail
    go_roundw
    case rel => exact .inr ⟨by first | rfl | simp, ⟨rb, rc, H6.out.1, H6.out.2.1⟩, H6.out.2.2⟩
    case measure => simp [intOf]
end Go.Proofs.YtmfpdchfofffeaaGreatDoor
