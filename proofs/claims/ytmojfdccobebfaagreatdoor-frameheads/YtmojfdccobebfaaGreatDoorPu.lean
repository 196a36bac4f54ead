import Derived.Test.YtmojfdccobebfaaGreatDoorPt
import Derived.Test.YtmojfdccobebfaaGreatDoorPf
import Derived.Laws.ResultCell
namespace Go.Proofs.YtmojfdccobebfaaGreatDoor
open Go.RowKit Go.Shelf
set_option linter.unusedVariables false

/-! awake. -/
set_option maxRecDepth 100000 in
theorem ppress18 (w : World) : Calls Tryz.prog 27 #[] w fun e w' => e = .returned (.agg #[.int .i64 100, .int .i64 10, .bool false, .int .i64 50]) ∧ Below w.heap.size w w' := by
  go_enter Tryz.func27, Tryz.ntmps27
  go_wp2
  have cP := cb16 w #[.int .i64 100, .int .i64 10, .bool false, .int .i64 50] 57
  refine bodyPost_ret (v := .agg #[.int .i64 100, .int .i64 10, .bool false, .int .i64 50]) (results_cell_row (fn := Tryz.f27) (p := 0) (ty := 57) rfl _ _ w.heap.size _ _ _ _ rfl cP.cl Tryz.underlying57 rfl (by kernel_rfl)) rfl ?_
  exact ⟨rfl, cP.bl⟩
set_option maxRecDepth 100000 in
theorem pnum18 (v : Int) (w : World) : Calls Tryz.prog 8 #[.int .i64 v] w fun e w' => e = .returned (.int .i64 v) ∧ w' = w := by
  go_enter Tryz.func8, Tryz.ntmps8
  go_wp2
  go_ret
  exact ⟨rfl, rfl⟩
def nine18 : List Int := [83, 65, 80, 82, 1, 0, 0, 64, 100]
theorem nine18_take : (sum18 (hd18 h018)).take 9 = nine18 := by
  have e : sum18 (hd18 h018) = nine18 ++ (([0, 0, 0, 0, 0, 0, 0, 0] : List Int) ++ fixL 4 (wI (sumW (hd18 h018)))) := rfl
  rw [e]
  exact List.take_left' rfl
theorem len18a : (sum18 (hd18 h018)).length = 21 := by rw [sum18_len]; rfl
theorem len18b : (sum18 (sum18 (hd18 h018))).length = 25 := by rw [sum18_len, len18a]
theorem nine18_seg (w : World) : Seg (w.alloc (.cells #[.int .u8 83, .int .u8 65, .int .u8 80, .int .u8 82, .int .u8 1, .int .u8 0, .int .u8 0, .int .u8 64, .int .u8 100] 5 (9, 10))) (some ⟨w.heap.size, 0, none⟩) nine18 :=
  seg_lit w nine18 5 (9, 10) (by decide)
set_option maxRecDepth 100000 in
set_option maxHeartbeats 4000000 in
theorem pawk18 (w : World) (ht : Tab w) : Calls Tryz.prog 9 #[] w fun e w' => e = .returned (.bool true) ∧ Below w.heap.size w w' := by
  obtain ⟨wA, b4, X⟩ := bx18 w h018
  have HWA : Hid (w.alloc (.cells #[.int .i64 0, .int .i64 0, .int .u32 0, .int .u32 0, .int .i64 64, .int .i64 100] 24) = wA) := X.wa
  have HB : Hid (w.heap.size = b4) := X.b
  have HA : Hid (Below w.heap.size w wA) := X.bl
  have HC : Hid (∀ V, Below wA.heap.size wA V → V.cell? ⟨b4, 0, none⟩ = some (.int .i64 0) ∧ V.cell? ⟨b4, 1, none⟩ = some (.int .i64 0) ∧ V.cell? ⟨b4, 2, none⟩ = some (.int .u32 0) ∧ V.cell? ⟨b4, 3, none⟩ = some (.int .u32 0) ∧ V.cell? ⟨b4, 4, none⟩ = some (.int .i64 64) ∧ V.cell? ⟨b4, 5, none⟩ = some (.int .i64 100)) := fun V hV => by
    have c := X.cl hV
    exact ⟨c.c0, c.c1, c.c2, c.c3, c.c4, c.c5⟩
  have HT : Hid (∀ V, Below wA.heap.size wA V → Tab V) := fun V hV => (ht.old X.bl).old hV
  have HD := phead18 h018 wA (ht.old X.bl) (by unfold h018; decide) (by unfold h018; decide)
  rw [show hh18 h018 = sum18 (hd18 h018) by unfold hh18; rw [if_pos h018_ok], show he18 h018 = 0 by unfold he18; rw [if_pos h018_ok]] at HD
  have HD : Hid (Calls Tryz.prog 13 #[.agg #[.int .i64 0, .int .i64 0, .int .u32 0, .int .u32 0, .int .i64 64, .int .i64 100]] wA (HdQ18 wA (sum18 (hd18 h018)) 0)) := HD
  have HEN : Hid (∀ V, Below wA.heap.size wA V → Calls Tryz.prog 26 #[.agg #[.int .i64 0, .int .i64 0, .int .u32 0, .int .u32 0, .int .i64 64, .int .i64 100], .agg #[.int .i64 100, .int .i64 10, .bool false, .int .i64 50], .slice none 0 0] V (HdQ18 V (sum18 (sum18 (hd18 h018))) 0)) := fun V hV => penc18 V (HT.out V hV)
  have HBD : Hid (∀ z ∈ sum18 (hd18 h018), 0 ≤ z ∧ z ≤ 255) := sum18_bd (hd18_bd h018_ok)
  have HLA : Hid ((sum18 (hd18 h018)).length = 21 ∧ (sum18 (sum18 (hd18 h018))).length = 25 ∧ (sum18 (hd18 h018)).take 9 = nine18) := ⟨len18a, len18b, nine18_take⟩
  generalize hM : sum18 (sum18 (hd18 h018)) = M at *
  generalize sum18 (hd18 h018) = L at *
  clear X ht hM
  go_enter Tryz.func9, Tryz.ntmps9
  go_wp2_with fail
  rw [HWA.out, HB.out]
  refine HD.out.mono ?_
  rintro e1 w1 ⟨p1, c1, rfl, o1, b1⟩
  obtain ⟨-, a1, c1', hv1, sg1, -, hc1, -⟩ := own_seg o1 (M := 255) (by decide) HBD.out
  injection hv1 with h1 h2 h3
  subst h1
  rw [HLA.out.1]
  have HB1 : Hid (Below wA.heap.size wA w1) := b1
  have HS1 : Hid (Seg w1 p1 L) := sg1
  have hc9 : 21 ≤ c1 := by have := HLA.out.1; omega
  clear o1 b1 hc1 sg1 h2 h3 HD
  go_wp2_with fail
  have HD1 : Hid (Below wA.heap.size wA w1.drew) := HB1.out.drew
  refine plain_region16 (fun V => V.cell? ⟨b4, 0, none⟩ = some (.int .i64 0) ∧ V.cell? ⟨b4, 1, none⟩ = some (.int .i64 0) ∧ V.cell? ⟨b4, 2, none⟩ = some (.int .u32 0) ∧ V.cell? ⟨b4, 3, none⟩ = some (.int .u32 0) ∧ V.cell? ⟨b4, 4, none⟩ = some (.int .i64 64) ∧ V.cell? ⟨b4, 5, none⟩ = some (.int .i64 100)) 7 (by kernel_rfl) (HC.out _ HD1.out) (fun hHeld => ?_)
  refine wpAnyK_take (i := 0) (v := .agg #[.int .i64 0, .int .i64 0, .int .u32 0, .int .u32 0, .int .i64 64, .int .i64 100]) rfl (by kernel_rfl) (by kernel_rfl) (by kernel_rfl) (by kernel_rfl) (fun _ _ _ h => h) (Or.inl ⟨by rfl, fun w hSw => by go_simp⟩) hHeld ?_
  simp only [List.getElem_toArray, List.getElem_cons_zero, Act.put, List.setIfInBounds_toArray, List.set_cons_zero, List.set_cons_succ]
  refine wpAnyK_one (i := 1) (by kernel_rfl) rfl (fun K hK => ?_)
  (try simp only [List.getElem_toArray, List.getElem_cons_zero, List.getElem_cons_succ, Act.put, List.setIfInBounds_toArray, List.set_cons_zero, List.set_cons_succ])
  go_simp
  refine (ppress18 w1.drew).mono ?_
  rintro e2 w2 ⟨rfl, b2⟩
  have HB2 : Hid (Below wA.heap.size wA w2) := HD1.out.trans (b2.mono HD1.out.size)
  refine hK.out _ _ (fun _ => HC.out w2 HB2.out) (fun hHeld0 => ?_)
  have hHeld := hHeld0 (by decide)
  clear hHeld0 hK K
  (try simp only [List.getElem_toArray, List.getElem_cons_zero, List.getElem_cons_succ, Act.put, List.setIfInBounds_toArray, List.set_cons_zero, List.set_cons_succ])
  refine wpAnyK_one (i := 2) (by kernel_rfl) rfl (fun K hK => ?_)
  (try simp only [List.getElem_toArray, List.getElem_cons_zero, List.getElem_cons_succ, Act.put, List.setIfInBounds_toArray, List.set_cons_zero, List.set_cons_succ])
  go_simp
  refine (HEN.out w2 HB2.out).mono ?_
  rintro e3 w3 ⟨p3, c3, rfl, o3, b3⟩
  have HB3 : Hid (Below wA.heap.size wA w3) := HB2.out.trans (b3.mono HB2.out.size)
  have HS3 : Hid (Seg w3 p1 L) := (HS1.out.drew.old b2).old b3
  clear o3
  rw [HLA.out.2.1]
  refine hK.out _ _ (fun _ => HC.out w3 HB3.out) (fun hHeld0 => ?_)
  have hHeld := hHeld0 (by decide)
  clear hHeld0 hK K
  (try simp only [List.getElem_toArray, List.getElem_cons_zero, List.getElem_cons_succ, Act.put, List.setIfInBounds_toArray, List.set_cons_zero, List.set_cons_succ])
  refine wpAnyK_one (i := 3) (by kernel_rfl) rfl (fun K hK => ?_)
  (try simp only [List.getElem_toArray, List.getElem_cons_zero, List.getElem_cons_succ, Act.put, List.setIfInBounds_toArray, List.set_cons_zero, List.set_cons_succ])
  go_simp
  refine hK.out _ _ (fun _ => HC.out w3 HB3.out) (fun hHeld0 => ?_)
  have hHeld := hHeld0 (by decide)
  clear hHeld0 hK K
  (try simp only [List.getElem_toArray, List.getElem_cons_zero, List.getElem_cons_succ, Act.put, List.setIfInBounds_toArray, List.set_cons_zero, List.set_cons_succ])
  refine wpAnyK_take (i := 4) (v := .slice p3 25 c3) rfl (by kernel_rfl) (by kernel_rfl) (by kernel_rfl) (by kernel_rfl) (fun _ _ _ h => h) (Or.inl ⟨by rfl, fun w hSw => by go_simp⟩) hHeld ?_
  simp only [List.getElem_toArray, List.getElem_cons_zero, List.getElem_cons_succ, Act.put, List.setIfInBounds_toArray, List.set_cons_zero, List.set_cons_succ]
  refine wpAnyK_take (i := 5) (v := .int .i64 0) rfl (by kernel_rfl) (by kernel_rfl) (by kernel_rfl) (by kernel_rfl) (fun _ _ _ h => h) (Or.inl ⟨by rfl, fun w hSw => by go_simp⟩) hHeld ?_
  simp only [List.getElem_toArray, List.getElem_cons_zero, List.getElem_cons_succ, Act.put, List.setIfInBounds_toArray, List.set_cons_zero, List.set_cons_succ]
  refine wpAnyK_one (i := 6) (by kernel_rfl) rfl (fun K hK => ?_)
  (try simp only [List.getElem_toArray, List.getElem_cons_zero, List.getElem_cons_succ, Act.put, List.setIfInBounds_toArray, List.set_cons_zero, List.set_cons_succ])
  go_simp
  refine hK.out _ _ (fun _ => HC.out w3 HB3.out) (fun hHeld0 => ?_)
  have hHeld := hHeld0 (by decide)
  clear hHeld0 hK K
  (try simp only [List.getElem_toArray, List.getElem_cons_zero, List.getElem_cons_succ, Act.put, List.setIfInBounds_toArray, List.set_cons_zero, List.set_cons_succ])
  refine wpAnyK_one (i := 7) (by kernel_rfl) rfl (fun K hK => ?_)
  (try simp only [List.getElem_toArray, List.getElem_cons_zero, List.getElem_cons_succ, Act.put, List.setIfInBounds_toArray, List.set_cons_zero, List.set_cons_succ])
  go_simp
  refine hK.out _ _ (fun _ => HC.out w3 HB3.out) (fun hHeld0 => ?_)
  clear hHeld0 hK K
  (try simp only [List.getElem_toArray, List.getElem_cons_zero, List.getElem_cons_succ, Act.put, List.setIfInBounds_toArray, List.set_cons_zero, List.set_cons_succ])
  refine wpAnyK_done (by kernel_rfl) ?_ _
  have hcv := Lib.run_convert_bytes_const (P := Tryz.prog) w3 30 5 #[.int .u8 83, .int .u8 65, .int .u8 80, .int .u8 82, .int .u8 1, .int .u8 0, .int .u8 0, .int .u8 64, .int .u8 100] 9 9 Tryz.underlying30 Tryz.underlying5
  have hcp : ((9 : Int) ≤ (c1 : Int)) := by omega
  obtain ⟨wM, hwM⟩ : ∃ wM, wM = w3.alloc (.cells #[.int .u8 83, .int .u8 65, .int .u8 80, .int .u8 82, .int .u8 1, .int .u8 0, .int .u8 0, .int .u8 64, .int .u8 100] 5 (9, 10)) := ⟨_, rfl⟩
  have bM : Below w3.heap.size w3 wM := by rw [hwM]; exact (Below.refl _ _).alloc (Nat.le_refl _) _
  have sM := nine18_seg w3
  rw [← hwM] at sM
  have sL := (HS3.out.old bM).take 9
  rw [HLA.out.2.2] at sL
  have SM := lsame18 p1 (some ⟨w3.heap.size, 0, none⟩) nine18 nine18 c1 9 wM sL sM
  rw [show (nine18 == nine18) = true by decide] at SM
  have SM : Hid (Calls Tryz.prog 21 #[.slice p1 9 c1, .slice (some ⟨w3.heap.size, 0, none⟩) 9 9] wM fun e w' => e = .returned (.bool true) ∧ w' = wM) := SM
  have HWM : Hid (w3.alloc (.cells #[.int .u8 83, .int .u8 65, .int .u8 80, .int .u8 82, .int .u8 1, .int .u8 0, .int .u8 0, .int .u8 64, .int .u8 100] 5 (9, 10)) = wM) := hwM.symm
  have HBM : Hid (Below wA.heap.size wA wM) := HB3.out.trans (bM.mono HB3.out.size)
  clear hwM bM sM sL b2 b3
  go_wp2_with fail
  rw [HWM.out]
  refine SM.out.mono ?_
  rintro e5 w5 ⟨rfl, hw5⟩
  subst w5
  go_wp2_with fail
  go_ret
  exact ⟨rfl, HA.out.trans (HBM.out.mono HA.out.size)⟩
end Go.Proofs.YtmojfdccobebfaaGreatDoor

namespace Go.Proofs.YtmojfdccobebfaaGreatDoor
open Go.RowKit Go.Shelf
set_option linter.unusedVariables false

/-! The law's own. -/
theorem appb18 (V : World) {base : Nat} {v : Value} {n : Nat} {xs : List Value} (x : Int) (hown : V.ownsRow base 5 1 v n xs) (hn : n + 1 ≤ 140737488355328) (hbase : base ≤ V.heap.size) :
    ∃ g rc w', (Builtin.append_ #[30, 30] 30 #[v, .slice (some ⟨V.heap.size, 0, none⟩) 1 1]).run Tryz.prog (V.alloc (.cells #[.int .u8 x] 5)) = .ok (.slice (some ⟨g, 0, none⟩) (n + 1) rc) w' ∧
      w'.ownsRow base 5 1 (.slice (some ⟨g, 0, none⟩) (n + 1) rc) (n + 1) (xs ++ [.int .u8 x]) ∧ Kp (fun k => v.ownBlock = some k) V w' ∧ (v.ownBlock = some g ∨ V.heap.size ≤ g) := by
  obtain ⟨i0, hi, hz0, hz1, hz2⟩ := info_parts info_u8g
  obtain ⟨g, rc, w', hr, h1, h2, h3, h4⟩ := run_append_lies (P := Tryz.prog) (V.alloc (.cells #[.int .u8 x] 5)) 30 30 base 5 i0 _ 1 1 Tryz.underlying30 hi hz0 hz1 hz2 rfl (by omega) v n xs (hown.alloc _) ⟨V.heap.size, 0, none⟩ 1 1 [.int .u8 x] rfl
    (World.news_of_block (heap_alloc_new V (.cells #[.int .u8 x] 5 (0, 0)))) (by intro u hu; simp at hu; rcases hu with rfl; rfl) (by omega) (by unfold maxLen; omega) (by omega) (by simp; omega) (V.heap.size + 1) (by simp)
  refine ⟨g, rc, w', hr, h1, (Kp.alloc V _).trans (Kp.grown (S := fun k => v.ownBlock = some k) h2 (fun i e => e)) (fun _ _ e => e), ?_⟩
  rcases h3 with h | h
  · exact .inl h
  · exact .inr (by omega)
/-- Where a slice's bytes lie. -/
def At18 (p : Option Addr) (L : List Int) (k : Nat) : Prop := ∃ off, p = some ⟨k, off, none⟩ ∧ 0 < L.length
structure Ow18 (w : World) (base : Nat) (pb pw : Option Addr) (L : List Int) (v : Value) (n : Nat) (V : World) : Prop where
  own : ∃ Y, V.ownsRow base 5 1 v n Y
  sb : Seg V pb L
  sw : Seg V pw L
  bl : Below base w V
  sz : base ≤ V.heap.size
  wz : w.heap.size ≤ V.heap.size
  ap : ∀ k, v.ownBlock = some k → ¬ At18 pb L k ∧ ¬ At18 pw L k
  lb : ∀ k, At18 pb L k ∨ At18 pw L k → k < w.heap.size
theorem Ow18.kp {w V V' : World} {base : Nat} {pb pw : Option Addr} {L : List Int} {v v' : Value} {n n' : Nat} (h : Ow18 w base pb pw L v n V) (hk : Kp (fun k => v.ownBlock = some k) V V') (ho : ∃ Y, V'.ownsRow base 5 1 v' n' Y) (ha : ∀ k, v'.ownBlock = some k → v.ownBlock = some k ∨ V.heap.size ≤ k) : Ow18 w base pb pw L v' n' V' := by
  have hlt : ∀ k, v.ownBlock = some k → base ≤ k := by
    obtain ⟨Y, hY⟩ := h.own
    exact fun k x => (hY.lt k x).1
  have bl := hk.below hlt h.sz
  refine ⟨ho, h.sb.kp hk (fun x off e hp hx => (h.ap x hx).1 ⟨off, e, hp⟩), h.sw.kp hk (fun x off e hp hx => (h.ap x hx).2 ⟨off, e, hp⟩), h.bl.trans bl, Nat.le_trans h.sz bl.size, Nat.le_trans h.wz bl.size, ?_, h.lb⟩
  intro k hk'
  rcases ha k hk' with x | x
  · exact h.ap k x
  · have := h.wz
    refine ⟨fun y => ?_, fun y => ?_⟩
    · have := h.lb k (.inl y); omega
    · have := h.lb k (.inr y); omega
set_option maxRecDepth 100000 in
set_option maxHeartbeats 4000000 in
theorem pown18 (base : Nat) (pa pb pw : Option Addr) (ca cb cw : Nat) (L : List Int) (w : World) (hbd : ∀ z ∈ L, 0 ≤ z ∧ z ≤ 255) (hl : L.length ≤ 1000000) (oA : w.ownsRow base 5 1 (.slice pa L.length ca) L.length (L.map (Value.int .u8))) (h : Ow18 w base pb pw L (.slice pa L.length ca) L.length w) :
    Calls Tryz.prog 18 #[.slice pa L.length ca, .slice pb L.length cb, .slice pw L.length cw] w fun e w' => e = .returned (.bool true) ∧ Below base w w' := by
  obtain ⟨-, a1, c1', hv1, sA, -, -, -⟩ := own_seg oA (M := 255) (by decide) hbd
  injection hv1 with h1 h2 h3
  subst h1
  have S1 := lsame18 pa pw L L ca cw w sA h.sw
  have S2 := lsame18 pb pw L L cb cw w h.sb h.sw
  rw [show (L == L) = true by simp] at S1 S2
  have HSM : Hid (∀ V, Seg V pb L → Seg V pw L → Calls Tryz.prog 21 #[.slice pb L.length cb, .slice pw L.length cw] V fun e w' => e = .returned (.bool true) ∧ w' = V) := fun V x y => by
    have := lsame18 pb pw L L cb cw V x y
    rwa [show (L == L) = true by simp] at this
  have H0 : Hid (Ow18 w base pb pw L (.slice pa L.length ca) L.length w) := h
  obtain ⟨m, hm⟩ : ∃ m, m = L.length := ⟨_, rfl⟩
  rw [← hm] at H0 S1 S2 HSM hl ⊢
  have HML : Hid (m ≤ 1000000) := hl
  clear h2 h3 sA h oA hbd hm hl
  go_enter Tryz.func18, Tryz.ntmps18
  go_wp2_with fail
  refine S1.mono ?_
  rintro e1 w1 ⟨rfl, hw1⟩
  subst w1
  go_wp2_with fail
  refine S2.mono ?_
  rintro e2 w2 ⟨rfl, hw2⟩
  subst w2
  clear S1 S2
  go_wp2_with fail
  go_loopw [7] (fun t7 V => ∃ i : Nat, i ≤ m ∧ t7 = .int .i64 (i : Int) ∧ Ow18 w base pb pw L (.slice pa m ca) m V) (fun t7 _ => m - (intOf t7).toNat)
  case atStart => exact ⟨0, by omega, rfl, H0.out⟩
  case round =>
    obtain ⟨i, him, rfl, hO⟩ := hrel
    clear H0
    by_cases hlt : i < m
    · have hi1 : (i : Int) < (m : Int) := by omega
      have hi0 : (0 : Int) ≤ (i : Int) := by omega
      have hib : i ≤ 1000000 := by have := HML.out; omega
      obtain ⟨Y, hY⟩ := hO.own
      obtain ⟨g, rfl⟩ : ∃ g, pa = some ⟨g, 0, none⟩ := by
        rcases hY.2 with ⟨_, h0⟩ | ⟨g, cp, cur, hv, _⟩
        · omega
        · injection hv with e; exact ⟨g, e⟩
      have hc := hY.cellAt i (by omega)
      have hf := hY.frozenAt i
      have hst := hY.stored i (.int .u8 91)
      have hylen : Y.length = m := by simpa using hY.1
      obtain ⟨u, hu⟩ : ∃ u, wr.cell? ⟨g, i, none⟩ = some u := by
        rw [hc]
        exact ⟨_, List.getElem?_eq_getElem (by omega)⟩
      have HN : Hid (Ow18 w base pb pw L (.slice (some ⟨g, 0, none⟩) m ca) m (wr.setCell ⟨g, i, none⟩ (.int .u8 91))) :=
        hO.kp (Kp.grown (S := fun k => (Value.slice (some ⟨g, 0, none⟩) m ca).ownBlock = some k) hst.2 (fun k e => e)) ⟨_, hst.1⟩ (fun k e => .inl e)
      clear hO hY hc hst hylen
      go_wp2_with fail
      go_roundw
      case rel => exact ⟨i + 1, by omega, by simp, HN.out⟩
      case measure => simp [intOf]; omega
    · have hime : i = m := by omega
      subst hime
      have hneg : ¬ (i : Int) < (i : Int) := by omega
      have HO : Hid (Ow18 w base pb pw L (.slice pa i ca) i wr) := hO
      clear hO hlt
      go_wp2_with fail
      go_loopw [0, 8] (fun t0 t8 V => ∃ j : Nat, ∃ v : Value, j ≤ 40 ∧ t8 = .int .i64 (j : Int) ∧ t0 = v ∧ Ow18 w base pb pw L v (i + j) V) (fun _ t8 _ => 40 - (intOf t8).toNat)
      case atStart => exact ⟨0, _, by omega, rfl, rfl, HO.out⟩
      case round =>
        obtain ⟨j, v, hj, rfl, rfl, hO⟩ := hrel
        obtain ⟨Y, hY⟩ := hO.own
        obtain ⟨p, c, hv⟩ := own_sl18 hY
        subst hv
        by_cases hj40 : j < 40
        · have hj1 : (j : Int) < 40 := by omega
          obtain ⟨g, rc, wE, hr, ow, k1, at1⟩ := appb18 wr 92 hY (by have := HML.out; omega) hO.sz
          have HN : Hid (Ow18 w base pb pw L (.slice (some ⟨g, 0, none⟩) (i + j + 1) rc) (i + (j + 1)) wE) :=
            hO.kp k1 ⟨_, ow⟩ (fun k e => by
              have e : some g = some k := e
              injection e with e
              subst e
              exact at1)
          clear hO hY ow k1 at1
          generalize i + j = n at *
          go_wp2_with (first | (at_builtin; refine wpList_app18 rfl (.tmp 32) (.tmp 33) 30 rfl rfl rfl hr ?_))
          go_roundw
          case rel => exact ⟨j + 1, _, by omega, by simp, rfl, HN.out⟩
          case measure => simp [intOf]; omega
        · have hj2 : j = 40 := by omega
          subst hj2
          have SM := HSM.out wr hO.sb hO.sw
          have HBL : Hid (Below base w wr) := hO.bl
          have hw40 : IntKind.i64.wrap ((i : Int) + 40) = ((i + 40 : Nat) : Int) := by rw [IntWalk.i64_in _ (by have := HML.out; omega)]; omega
          obtain ⟨n, hn⟩ : ∃ n, n = i + 40 := ⟨_, rfl⟩
          rw [← hn] at hw40 ⊢
          clear hO hY hn hj40
          go_wp2_with fail
          refine SM.mono ?_
          rintro e3 w3 ⟨rfl, hw3⟩
          subst w3
          go_wp2_with fail
          go_ret
          exact ⟨rfl, HBL.out⟩
end Go.Proofs.YtmojfdccobebfaaGreatDoor
