import Derived.Test.YtmfpdchfofffeaaGreatDoorMkE
import Derived.Test.YtmfpdchfofffeaaGreatDoorMkH
import Derived.Deep.AppendLies
namespace Go.Proofs.YtmfpdchfofffeaaGreatDoor
open Go.RowKit Go.Shelf
set_option linter.unusedVariables false
set_option linter.unusedSimpArgs false
def mm20 (gv rd : Value) : Array Value := mk20 (.int .i64 0) (.int .i64 0) (.int .i64 0) (.bool false) (.int .i64 0) gv rd (.slice none 0 0) (.slice none 0 0) (.slice none 0 0) (.int .i64 0) (.int .i64 0) (.int .u32 0) (.int .u32 0) (.int .i64 0) (.int .i64 0) (.slice none 0 0) (.slice none 0 0)
theorem info_pl20 : (Tryz.prog.info? 54).map (fun i => (i.zero, i.size, i.bytes)) = some (some (.agg #[.int .i64 0, .int .i64 0, .int .u32 0, .int .u32 0, .int .i64 0, .int .i64 0, .slice none 0 0]), 7, 64) := by kernel_rfl
theorem appp20 (V : World) (base : Nat) (hbase : base ≤ V.heap.size) :
    ∃ g rc w', (Builtin.append_ #[45, 45] 45 #[.slice none 0 0, .slice (some ⟨V.heap.size, 0, none⟩) 1 1]).run Tryz.prog (V.alloc (.cells #[.int .i64 0, .int .i64 0, .int .u32 0, .int .u32 0, .int .i64 64, .int .i64 100, .slice none 0 0] 54)) = .ok (.slice (some ⟨g, 0, none⟩) 1 rc) w' ∧
      w'.ownsRow base 54 7 (.slice (some ⟨g, 0, none⟩) 1 rc) 1 [.int .i64 0, .int .i64 0, .int .u32 0, .int .u32 0, .int .i64 64, .int .i64 100, .slice none 0 0] ∧ Kp (fun _ => False) V w' ∧ V.heap.size ≤ g := by
  obtain ⟨i0, hi, hz0, hz1, hz2⟩ := info_parts info_pl20
  have hown : V.ownsRow base 54 7 (.slice none 0 0) 0 [] := World.ownsRow_nil _ _ _ _
  obtain ⟨g, rc, w', hr, h1, h2, h3, h4⟩ := run_append_lies (P := Tryz.prog) (V.alloc (.cells #[.int .i64 0, .int .i64 0, .int .u32 0, .int .u32 0, .int .i64 64, .int .i64 100, .slice none 0 0] 54)) 45 45 base 54 i0 _ 7 64 Tryz.underlying45 hi hz0 hz1 hz2 rfl (by omega) (.slice none 0 0) 0 [] (hown.alloc _) ⟨V.heap.size, 0, none⟩ 1 1 [.int .i64 0, .int .i64 0, .int .u32 0, .int .u32 0, .int .i64 64, .int .i64 100, .slice none 0 0] rfl
    (World.news_of_block (heap_alloc_new V (.cells #[.int .i64 0, .int .i64 0, .int .u32 0, .int .u32 0, .int .i64 64, .int .i64 100, .slice none 0 0] 54 (0, 0)))) (by intro u hu; simp at hu; rcases hu with rfl | rfl | rfl | rfl | rfl <;> rfl) (by omega) (by unfold maxLen; omega) (by omega) (by simp; omega) (V.heap.size + 1) (by simp)
  refine ⟨g, rc, w', hr, h1, (Kp.alloc V _).trans (Kp.grown (S := fun _ => False) h2 (fun i e => by cases e)) (fun _ _ e => e), ?_⟩
  rcases h3 with h | h
  · cases h
  · omega
/-- What was read of the one patch. -/
structure Rd20 (V : World) (B rb rc : Nat) : Prop where
  own : V.ownsRow B 54 7 (.slice (some ⟨rb, 0, none⟩) 1 rc) 1 [.int .i64 0, .int .i64 0, .int .u32 0, .int .u32 0, .int .i64 64, .int .i64 100, .slice none 0 0]
theorem Rd20.c {V : World} {B rb rc j : Nat} {v : Value} (h : Rd20 V B rb rc) (hv : ([.int .i64 0, .int .i64 0, .int .u32 0, .int .u32 0, .int .i64 64, .int .i64 100, .slice none 0 0] : List Value)[j]? = some v) : V.cell? ⟨rb, j, none⟩ = some v :=
  (h.own.cellAt j (by have := (List.getElem?_eq_some_iff.1 hv).1; simpa using this)).trans hv
theorem Rd20.kp {V V' : World} {B rb rc : Nat} {S : Nat → Prop} (h : Rd20 V B rb rc) (hk : Kp S V V') (hn : ¬ S rb) : Rd20 V' B rb rc := ⟨own_kp16 h.own hk (fun k e x => by
  have e : some rb = some k := e
  injection e with e
  exact hn (e ▸ x))⟩
set_option maxRecDepth 100000 in
set_option maxHeartbeats 8000000 in
theorem pdcd20 (b gb : Nat) (za : Option Addr) (zc gc : Nat) (w : World) (ht : Tab w) (hgb : gb ≠ b) (hb0 : b ≠ 0) (h : Ma20 w b (mm20 (.slice (some ⟨gb, 0, none⟩) 1 gc) (.slice none 0 0))) (hg : w.heap[gb]? = some (.cells #[.slice za 25 zc] 36 (0, 0))) (hz : Seg w za z20) (hzb : ∀ x off, za = some ⟨x, off, none⟩ → x ≠ b) (hc : 25 ≤ zc) :
    Calls Tryz.prog 20 #[.pointer (some ⟨b, 0, none⟩)] w fun e w' => e = .returned (.tuple #[]) ∧ (∃ rb rc, Ma20 w' b (mm20 (.slice (some ⟨gb, 0, none⟩) 1 gc) (.slice (some ⟨rb, 0, none⟩) 1 rc)) ∧ Rd20 w' w.heap.size rb rc) ∧ Kp (fun k => k = b) w w' := by
  have HLB : Hid (b < w.heap.size) := (Array.getElem?_eq_some_iff.1 h).1
  have c9 : w.cell? ⟨b, 9, none⟩ = some (.slice (some ⟨gb, 0, none⟩) 1 gc) := h.c rfl
  have DE : Hid (Calls Tryz.prog 40 #[.slice za 25 zc] w fun e w' => e = .returned (.tuple #[.agg #[.int .i64 0, .int .i64 0, .int .u32 0, .int .u32 0, .int .i64 64, .int .i64 100], .slice none 0 0, .int .i64 0]) ∧ Below w.heap.size w w') := pdec20 za zc w ht hz hc
  have HH : Hid (Ma20 w b (mm20 (.slice (some ⟨gb, 0, none⟩) 1 gc) (.slice none 0 0)) ∧ w.heap[gb]? = some (.cells #[.slice za 25 zc] 36 (0, 0))) := ⟨h, hg⟩
  clear ht hgb hz hzb hc h hg hb0
  go_enter Tryz.func20, Tryz.ntmps20
  go_wp2_with fail
  go_loopw [12] (fun t12 V => (t12 = .int .i64 0 ∧ V = w) ∨ (t12 = .int .i64 1 ∧ (∃ rb rc, Ma20 V b (mm20 (.slice (some ⟨gb, 0, none⟩) 1 gc) (.slice (some ⟨rb, 0, none⟩) 1 rc)) ∧ Rd20 V w.heap.size rb rc) ∧ Kp (fun k => k = b) w V)) (fun t12 _ => 1 - (intOf t12).toNat)
  case atStart => exact .inl ⟨rfl, rfl⟩
  case round =>
    rcases hrel with ⟨rfl, hV⟩ | ⟨rfl, hV⟩
    rotate_left
    · have HV := Hid.mk20 hV
      clear hV c9
      go_wp2_with fail
      go_end0
      exact ⟨rfl, HV.out.1, HV.out.2⟩
    subst wr
    have cg : w.cell? ⟨gb, 0, none⟩ = some (.slice za 25 zc) := cell18 HH.out.2 rfl
    go_wp2_with fail
    refine DE.out.mono ?_
    rintro e1 w1 ⟨rfl, b1⟩
    obtain ⟨w2, hw2⟩ : ∃ w2, w2 = w1.alloc (.cells #[.int .i64 0, .int .i64 0, .int .u32 0, .int .u32 0, .int .i64 64, .int .i64 100] 51) := ⟨_, rfl⟩
    have k2 := cb16 w1 #[.int .i64 0, .int .i64 0, .int .u32 0, .int .u32 0, .int .i64 64, .int .i64 100] 51
    rw [← hw2] at k2
    obtain ⟨b4, hb4⟩ : ∃ b4, b4 = w1.heap.size := ⟨_, rfl⟩
    have q4 := k2.cl
    rw [← hb4] at q4
    have B2 : Below w.heap.size w w2 := b1.trans (k2.bl.mono b1.size)
    have HW2 : Hid (w1.alloc (.cells #[.int .i64 0, .int .i64 0, .int .u32 0, .int .u32 0, .int .i64 64, .int .i64 100] 51) = w2 ∧ w1.heap.size = b4) := ⟨hw2.symm, hb4.symm⟩
    have H2 : Hid (Ma20 w2 b (mm20 (.slice (some ⟨gb, 0, none⟩) 1 gc) (.slice none 0 0)) ∧ w2.heap[b4]? = some (.cells #[.int .i64 0, .int .i64 0, .int .u32 0, .int .u32 0, .int .i64 64, .int .i64 100] 51 (0, 0)) ∧ Below w.heap.size w w2 ∧ w.heap.size ≤ b4) := ⟨HH.out.1.old B2, q4, B2, by have := b1.size; omega⟩
    clear hw2 k2 hb4 q4 B2 b1 DE c9 cg
    go_wp2_with fail
    rw [HW2.out.1, HW2.out.2]
    refine (ppas20 w2).mono ?_
    rintro e3 w3 ⟨rfl, hw3⟩
    subst w3
    go_wp2_with fail
    have HS : Hid (∀ V rd, Ma20 V b (mm20 (.slice (some ⟨gb, 0, none⟩) 1 gc) rd) → V.heap[b4]? = some (.cells #[.int .i64 0, .int .i64 0, .int .u32 0, .int .u32 0, .int .i64 64, .int .i64 100] 51 (0, 0)) → V.cell? ⟨b, 10, none⟩ = some rd ∧ V.cell? ⟨b4, 0, none⟩ = some (.int .i64 0) ∧ V.cell? ⟨b4, 1, none⟩ = some (.int .i64 0) ∧ V.cell? ⟨b4, 2, none⟩ = some (.int .u32 0) ∧ V.cell? ⟨b4, 3, none⟩ = some (.int .u32 0) ∧ V.cell? ⟨b4, 4, none⟩ = some (.int .i64 64) ∧ V.cell? ⟨b4, 5, none⟩ = some (.int .i64 100)) := fun V rd m q => ⟨m.c rfl, cell18 q rfl, cell18 q rfl, cell18 q rfl, cell18 q rfl, cell18 q rfl, cell18 q rfl⟩
    obtain ⟨u, hu⟩ : ∃ u, u = w2.drew := ⟨_, rfl⟩
    have HU : Hid (w2.drew = u) := hu.symm
    have H3 : Hid (Ma20 u b (mm20 (.slice (some ⟨gb, 0, none⟩) 1 gc) (.slice none 0 0)) ∧ u.heap[b4]? = some (.cells #[.int .i64 0, .int .i64 0, .int .u32 0, .int .u32 0, .int .i64 64, .int .i64 100] 51 (0, 0)) ∧ Below w.heap.size w u ∧ w.heap.size ≤ b4) := by
      show _ ∧ _ ∧ _ ∧ _
      rw [hu]
      exact ⟨H2.out.1, H2.out.2.1, H2.out.2.2.1.drew, H2.out.2.2.2⟩
    clear hu
    refine plain_region16 (fun V => V.cell? ⟨b, 10, none⟩ = some (.slice none 0 0) ∧ V.cell? ⟨b4, 0, none⟩ = some (.int .i64 0) ∧ V.cell? ⟨b4, 1, none⟩ = some (.int .i64 0) ∧ V.cell? ⟨b4, 2, none⟩ = some (.int .u32 0) ∧ V.cell? ⟨b4, 3, none⟩ = some (.int .u32 0) ∧ V.cell? ⟨b4, 4, none⟩ = some (.int .i64 64) ∧ V.cell? ⟨b4, 5, none⟩ = some (.int .i64 100)) 12 (by kernel_rfl) (by rw [HU.out]; exact HS.out _ _ H3.out.1 H3.out.2.1) (fun hHeld => ?_)
    rw [HU.out] at hHeld ⊢
    refine wpAnyK_take (i := 0) (v := .pointer (some ⟨b, 0, none⟩)) rfl (by kernel_rfl) (by kernel_rfl) (by kernel_rfl) (by kernel_rfl) (fun _ _ _ h => h) (Or.inl ⟨by rfl, fun w hSw => by go_simp⟩) hHeld ?_
    simp only [List.getElem_toArray, List.getElem_cons_zero, Act.put, List.setIfInBounds_toArray, List.set_cons_zero, List.set_cons_succ]
    refine wpAnyK_take (i := 1) (v := .pointer (some ⟨b, 0, none⟩)) rfl (by kernel_rfl) (by kernel_rfl) (by kernel_rfl) (by kernel_rfl) (fun _ _ _ h => h) (Or.inl ⟨by rfl, fun w hSw => by go_simp⟩) hHeld ?_
    simp only [List.getElem_toArray, List.getElem_cons_zero, List.getElem_cons_succ, Act.put, List.setIfInBounds_toArray, List.set_cons_zero, List.set_cons_succ]
    refine wpAnyK_take (i := 2) (v := .pointer (some ⟨b, 0, none⟩)) rfl (by kernel_rfl) (by kernel_rfl) (by kernel_rfl) (by kernel_rfl) (fun _ _ _ h => h) (Or.inl ⟨by rfl, fun w hSw => by go_simp⟩) hHeld ?_
    simp only [List.getElem_toArray, List.getElem_cons_zero, List.getElem_cons_succ, Act.put, List.setIfInBounds_toArray, List.set_cons_zero, List.set_cons_succ]
    refine wpAnyK_take (i := 3) (v := .pointer (some ⟨b, 10, none⟩)) rfl (by kernel_rfl) (by kernel_rfl) (by kernel_rfl) (by kernel_rfl) (fun _ _ _ h => h) (Or.inl ⟨by rfl, fun w hSw => by go_simp⟩) hHeld ?_
    simp only [List.getElem_toArray, List.getElem_cons_zero, List.getElem_cons_succ, Act.put, List.setIfInBounds_toArray, List.set_cons_zero, List.set_cons_succ]
    refine wpAnyK_take (i := 4) (v := .slice none 0 0) rfl (by kernel_rfl) (by kernel_rfl) (by kernel_rfl) (by kernel_rfl) (fun _ _ _ h => h) (Or.inl ⟨by rfl, fun w hSw => by go_simp⟩) hHeld ?_
    simp only [List.getElem_toArray, List.getElem_cons_zero, List.getElem_cons_succ, Act.put, List.setIfInBounds_toArray, List.set_cons_zero, List.set_cons_succ]
    refine wpAnyK_take (i := 5) (v := .agg #[.int .i64 0, .int .i64 0, .int .u32 0, .int .u32 0, .int .i64 64, .int .i64 100]) rfl (by kernel_rfl) (by kernel_rfl) (by kernel_rfl) (by kernel_rfl) (fun _ _ _ h => h) (Or.inl ⟨by rfl, fun w hSw => by go_simp⟩) hHeld ?_
    simp only [List.getElem_toArray, List.getElem_cons_zero, List.getElem_cons_succ, Act.put, List.setIfInBounds_toArray, List.set_cons_zero, List.set_cons_succ]
    refine wpAnyK_take (i := 6) (v := .slice none 0 0) rfl (by kernel_rfl) (by kernel_rfl) (by kernel_rfl) (by kernel_rfl) (fun _ _ _ h => h) (Or.inl ⟨by rfl, fun w hSw => by go_simp⟩) hHeld ?_
    simp only [List.getElem_toArray, List.getElem_cons_zero, List.getElem_cons_succ, Act.put, List.setIfInBounds_toArray, List.set_cons_zero, List.set_cons_succ]
    refine wpAnyK_take (i := 7) (v := .agg #[.int .i64 0, .int .i64 0, .int .u32 0, .int .u32 0, .int .i64 64, .int .i64 100, .slice none 0 0]) rfl (by kernel_rfl) (by kernel_rfl) (by kernel_rfl) (by kernel_rfl) (fun _ _ _ h => h) (Or.inl ⟨by rfl, fun w hSw => by go_simp⟩) hHeld ?_
    simp only [List.getElem_toArray, List.getElem_cons_zero, List.getElem_cons_succ, Act.put, List.setIfInBounds_toArray, List.set_cons_zero, List.set_cons_succ]
    obtain ⟨rb, rc, w5, hr5, o5, k5, g5⟩ := appp20 u w.heap.size H3.out.2.2.1.size
    have m5 : Ma20 w5 b (mm20 (.slice (some ⟨gb, 0, none⟩) 1 gc) (.slice none 0 0)) := k5.heap H3.out.1 (fun x => x)
    have q5 := k5.heap H3.out.2.1 (fun x => x)
    obtain ⟨u2, hu2⟩ : ∃ u2, u2 = u.alloc (.cells #[.int .i64 0, .int .i64 0, .int .u32 0, .int .u32 0, .int .i64 64, .int .i64 100, .slice none 0 0] 54) := ⟨_, rfl⟩
    have ku := cb16 u #[.int .i64 0, .int .i64 0, .int .u32 0, .int .u32 0, .int .i64 64, .int .i64 100, .slice none 0 0] 54
    rw [← hu2] at ku hr5
    have HU2 : Hid (u.alloc (.cells #[.int .i64 0, .int .i64 0, .int .u32 0, .int .u32 0, .int .i64 64, .int .i64 100, .slice none 0 0] 54) = u2) := hu2.symm
    have H4 : Hid (Ma20 u2 b (mm20 (.slice (some ⟨gb, 0, none⟩) 1 gc) (.slice none 0 0)) ∧ u2.heap[b4]? = some (.cells #[.int .i64 0, .int .i64 0, .int .u32 0, .int .u32 0, .int .i64 64, .int .i64 100] 51 (0, 0))) := ⟨H3.out.1.old ku.bl, (ku.bl.block _ (Array.getElem?_eq_some_iff.1 H3.out.2.1).1).trans H3.out.2.1⟩
    have H5 : Hid (Ma20 w5 b (mm20 (.slice (some ⟨gb, 0, none⟩) 1 gc) (.slice none 0 0)) ∧ w5.heap[b4]? = some (.cells #[.int .i64 0, .int .i64 0, .int .u32 0, .int .u32 0, .int .i64 64, .int .i64 100] 51 (0, 0)) ∧ w5.ownsRow w.heap.size 54 7 (.slice (some ⟨rb, 0, none⟩) 1 rc) 1 [.int .i64 0, .int .i64 0, .int .u32 0, .int .u32 0, .int .i64 64, .int .i64 100, .slice none 0 0] ∧ Kp (fun k => k = b) w w5 ∧ w.heap.size ≤ rb) := ⟨m5, q5, o5, (Kp.of_below (S := fun k => k = b) H3.out.2.2.1).trans k5 (fun _ _ x => x.elim), by have := H3.out.2.2.1.size; omega⟩
    have HR5 := Hid.mk20 hr5
    clear hu2 ku m5 q5 o5 k5 g5 hr5
    refine wpAnyK_one (i := 8) (by kernel_rfl) rfl (fun K hK => ?_)
    (try simp only [List.getElem_toArray, List.getElem_cons_zero, List.getElem_cons_succ, Act.put, List.setIfInBounds_toArray, List.set_cons_zero, List.set_cons_succ])
    go_simp
    rw [HU2.out]
    refine hK.out _ _ (fun _ => HS.out _ _ H4.out.1 H4.out.2) (fun hHeld0 => ?_)
    have hHeld := hHeld0 (by decide)
    clear hHeld0 hK K
    (try simp only [List.getElem_toArray, List.getElem_cons_zero, List.getElem_cons_succ, Act.put, List.setIfInBounds_toArray, List.set_cons_zero, List.set_cons_succ])
    refine wpAnyK_one (i := 9) (by kernel_rfl) rfl (fun K hK => ?_)
    rw [if_pos (show Region.wanted _ _ = true from rfl)]
    refine operwp_app16 (.tmp 28) (.tmp 32) 45 rfl rfl rfl HR5.out ?_
    refine hK.out _ _ (fun _ => HS.out _ _ H5.out.1 H5.out.2.1) (fun hHeld0 => ?_)
    have hHeld := hHeld0 (by decide)
    clear hHeld0 hK K
    simp only [Act.put, List.setIfInBounds_toArray, List.set_cons_zero, List.set_cons_succ]
    refine wpAnyK_one (i := 10) (by kernel_rfl) rfl (fun K hK => ?_)
    (try simp only [List.getElem_toArray, List.getElem_cons_zero, List.getElem_cons_succ, Act.put, List.setIfInBounds_toArray, List.set_cons_zero, List.set_cons_succ])
    go_simp
    refine hK.out _ _ (fun _ => HS.out _ _ H5.out.1 H5.out.2.1) (fun hHeld0 => ?_)
    have hHeld := hHeld0 (by decide)
    clear hHeld0 hK K
    (try simp only [List.getElem_toArray, List.getElem_cons_zero, List.getElem_cons_succ, Act.put, List.setIfInBounds_toArray, List.set_cons_zero, List.set_cons_succ])
    refine wpAnyK_take (i := 11) (v := .pointer (some ⟨b, 10, none⟩)) rfl (by kernel_rfl) (by kernel_rfl) (by kernel_rfl) (by kernel_rfl) (fun _ _ _ h => h) (Or.inl ⟨by rfl, fun w hSw => by go_simp⟩) hHeld ?_
    simp only [List.getElem_toArray, List.getElem_cons_zero, List.getElem_cons_succ, Act.put, List.setIfInBounds_toArray, List.set_cons_zero, List.set_cons_succ]
    have d10 : w5.cell? ⟨b, 10, none⟩ = some (.slice none 0 0) := H5.out.1.c rfl
    have f10 := H5.out.1.f (i := 10)
    have m6 : Ma20 (w5.setCell ⟨b, 10, none⟩ (.slice (some ⟨rb, 0, none⟩) 1 rc)) b (mm20 (.slice (some ⟨gb, 0, none⟩) 1 gc) (.slice (some ⟨rb, 0, none⟩) 1 rc)) := H5.out.1.set (i := 10) (.slice (some ⟨rb, 0, none⟩) 1 rc)
    have k6 : Kp (fun k => k = b) w5 (w5.setCell ⟨b, 10, none⟩ (.slice (some ⟨rb, 0, none⟩) 1 rc)) := Kp.set (S := fun k => k = b) rfl _
    have H6 : Hid (Ma20 (w5.setCell ⟨b, 10, none⟩ (.slice (some ⟨rb, 0, none⟩) 1 rc)) b (mm20 (.slice (some ⟨gb, 0, none⟩) 1 gc) (.slice (some ⟨rb, 0, none⟩) 1 rc)) ∧ Rd20 (w5.setCell ⟨b, 10, none⟩ (.slice (some ⟨rb, 0, none⟩) 1 rc)) w.heap.size rb rc ∧ Kp (fun k => k = b) w (w5.setCell ⟨b, 10, none⟩ (.slice (some ⟨rb, 0, none⟩) 1 rc))) := ⟨m6, Rd20.kp ⟨H5.out.2.2.1⟩ k6 (fun x => by have x : rb = b := x; have := HLB.out; have := H5.out.2.2.2.2; omega), H5.out.2.2.2.1.trans k6 (fun _ _ x => x)⟩
    clear m6 k6
    refine wpAnyK_one (i := 12) (by kernel_rfl) rfl (fun K hK => ?_)
    simp only [List.getElem_toArray, List.getElem_cons_zero, List.getElem_cons_succ, Act.put]
    go_simp
    refine hK.out _ _ (fun h => absurd rfl h) (fun _ => ?_)
    clear hK K
    refine wpAnyK_done (by kernel_rfl) ?_ _
    go_wp2_with fail
    go_roundw
    case rel => exact .inr ⟨by first | rfl | simp, ⟨rb, rc, H6.out.1, H6.out.2.1⟩, H6.out.2.2⟩
    case measure => simp [intOf]
end Go.Proofs.YtmfpdchfofffeaaGreatDoor
