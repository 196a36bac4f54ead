import Derived.Test.YteboaolflecibaaDoorProg
import Derived.Test.YteboaolflecibaaDoorPa
import Derived.Test.YteboaolflecibaaDoorPn
import Derived.WalkKit
import Derived.WalkSpells
import Derived.WalkLawsBesides
import Derived.Deep.QuietTactic
import Derived.BigQuiet
import Derived.Test.YteboaolflecibaaDoorPr
import Derived.Test.YteboaolflecibaaDoorPp
import Derived.Test.YteboaolflecibaaDoorPq
import Derived.Test.YteboaolflecibaaDoorRows
import Derived.Test.YteboaolflecibaaDoorPd
import Derived.ProofKit
import Derived.OpenShut
import Derived.Deep.DeepHandedRow
import Derived.Lib.LaidTab
namespace Go.Proofs.YteboaolflecibaaDoor
open Go.RowKit
set_option linter.unusedVariables false
theorem info_u8' : (Tryd.prog.info? 5).map (fun i => (i.zero, i.size, i.bytes)) = some (some (.int .u8 0), 1, 1) := by kernel_rfl
def lentL (zs : List Int) : List Int := zs ++ [171, 172, 173, 174, 175]

theorem seg_five (w : World) : Seg (w.alloc (.cells #[.int .u8 171, .int .u8 172, .int .u8 173, .int .u8 174, .int .u8 175] 5)) (some ⟨w.heap.size, 0, none⟩) [171, 172, 173, 174, 175] := by
  refine ⟨fun i hi => ⟨w.heap.size, 0, rfl, ?_⟩, by decide, ?_⟩
  · simp only [List.length_cons, List.length_nil] at hi
    match i, hi with
    | 0, _ => simp
    | 1, _ => simp
    | 2, _ => simp
    | 3, _ => simp
    | 4, _ => simp
  · exact getD_bd (by decide) (by intro z hz; simp at hz; omega)

set_option maxRecDepth 100000 in
set_option maxHeartbeats 400000 in
theorem lend_any (a : Option Addr) (zs : List Int) (cap : Nat) (w : World) (hs : Seg w a zs) (hnil : a = none → cap = 0) (hl : zs.length ≤ 140737488351232) :
    Calls Tryd.prog 17 #[.slice a zs.length cap] w fun e w' => ∃ g cap', e = .returned (.tuple #[.slice (some ⟨g, 0, none⟩) (zs.length + 5) cap', .slice (some ⟨g, 0, none⟩) zs.length cap']) ∧
      w'.ownsRow w.heap.size 5 1 (.slice (some ⟨g, 0, none⟩) (zs.length + 5) cap') (zs.length + 5) ((lentL zs).map (Value.int .u8)) ∧ Below w.heap.size w w' := by
  obtain ⟨i0, hi, hz0, hz1, hz2⟩ := info_parts info_u8'
  go_enter Tryd.func17, Tryd.ntmps17
  have hm0 : (w.alloc (.cells #[] 5)).ownsRow w.heap.size 5 1 (.slice (some ⟨w.heap.size, 0, none⟩) 0 0) 0 [] := World.ownsRow_made w #[] 0 (Nat.le_refl _) (by decide) rfl
  have hb0 : Below w.heap.size w (w.alloc (.cells #[] 5)) := (Below.refl _ _).alloc (Nat.le_refl _) _
  go_wp2_with (first
    | (at_builtin; refine wpList_append_seg rfl (.tmp 5) (.tmp 6) 28 rfl w.heap.size 5 i0 (.int .u8 0) 1 Tryd.underlying28 hi hz0 hz1 hz2 rfl hm0 (hs.alloc _) hnil rfl rfl (by omega) (by omega) (by simp) ?_; intro v1 w1 hown1 hg1 hb1)
    | (at_builtin; refine wpList_append_seg rfl (.tmp 7) (.tmp 8) 28 rfl w.heap.size 5 i0 (.int .u8 0) 1 Tryd.underlying28 hi hz0 hz1 hz2 rfl (hown1.alloc _) (seg_five w1) (by intro h; cases h) rfl rfl (by simp; omega) (by simp; omega) (by have := hb1.size; simp at this ⊢; omega) ?_; intro v2 w2 hown2 hg2 hb2))
  obtain ⟨g, cap', rfl, hc2, hg, hgs⟩ := own_shape hown2 (by simp)
  have hcc : (zs.length : Int) ≤ (cap' : Int) := by simp at hc2; omega
  have hs1 := hb1.size
  have hbb : Below w.heap.size w w2 := hb0.trans (hb1.trans (((Below.refl _ _).alloc (by simp at hs1; omega) _).trans hb2))
  have hown3 : w2.ownsRow w.heap.size 5 1 (.slice (some ⟨g, 0, none⟩) (zs.length + 5) cap') (zs.length + 5) ((lentL zs).map (Value.int .u8)) := by
    have := hown2
    simp only [List.nil_append, Nat.zero_add, ← List.map_append] at this
    exact this
  clear hown2 hown1 hg1 hg2 hb1 hb2
  have e5 : 0 + zs.length + ([171, 172, 173, 174, 175] : List Int).length = zs.length + 5 := by simp
  rw [e5]
  clear e5 hc2
  go_region
  go_wp2
  go_ret2
  exact ⟨g, cap', rfl, hown3, hbb.drew⟩

theorem lent_bd {zs : List Int} (h : ∀ z ∈ zs, 0 ≤ z ∧ z ≤ 255) : ∀ z ∈ lentL zs, 0 ≤ z ∧ z ≤ 255 := by
  intro z hz
  unfold lentL at hz
  rw [List.mem_append] at hz
  rcases hz with hz | hz
  · exact h z hz
  · simp at hz; omega

set_option maxRecDepth 100000 in
/-- The longer list is as Lend made it. -/
theorem kept_any (a b : Option Addr) (xs zs : List Int) (ca cap : Nat) (w : World) (hx : Seg w b xs) (hs : Seg w a zs) (hnil : a = none → cap = 0) (hl : zs.length ≤ 140737488351232) :
    Calls Tryd.prog 20 #[.slice b xs.length ca, .slice a zs.length cap] w fun e w' => e = .returned (.bool (xs == lentL zs)) ∧ Below w.heap.size w w' := by
  go_enter Tryd.func20, Tryd.ntmps20
  go_wp2_with fail
  refine (lend_any a zs cap _ hs hnil hl).mono ?_
  rintro e w1 ⟨g, cap', rfl, hown, hb⟩
  obtain ⟨hn, a', c', hv, hseg, _, _, _⟩ := own_seg hown (M := 255) (by decide) (lent_bd hs.mem)
  have ha : a' = some ⟨g, 0, none⟩ := by simp at hv; exact hv.1.symm
  subst ha
  clear hv
  have hx1 := hx.old hb
  go_wp2_with fail
  refine (bsame_any b (some ⟨g, 0, none⟩) xs (lentL zs) ca cap' _ hx1 hseg).mono ?_
  rintro e w2 ⟨rfl, hw2⟩
  subst w2
  go_wp2
  go_ret
  exact ⟨rfl, hb⟩
end Go.Proofs.YteboaolflecibaaDoor

namespace Go.Proofs.YteboaolflecibaaDoor
open Go.RowKit Go.Shelf
set_option linter.unusedVariables false
set_option linter.unusedSimpArgs false
set_option maxRecDepth 100000 in
set_option maxHeartbeats 16000000 in
theorem bootDecodes_walk (w : World) (ht : Tab w) (a : Option Addr) (zs : List Int) (n cap : Nat) (hs : Seg w a zs) (hn : n = zs.length) (hcap : n ≤ cap) (hnil : a = none → cap = 0) (hl : n ≤ 140737488351232) :
    Calls Tryd.prog 5 #[.slice a n cap] w fun e w' => e = .returned (.bool true) ∧ Below w.heap.size w w' := by
  have CL := lend_any a zs cap w hs hnil (by omega)
  rw [← hn] at CL
  have HRD : Hid (∀ W, Below w.heap.size w W → Calls Tryd.prog 19 #[.slice a n cap] W fun e w' => e = .returned (.tuple #[.agg (dd25 zs).1.cs, .int .i64 (dd25 zs).2]) ∧ Below W.heap.size W w') := fun W hW => rdecode25 a zs n cap W (hs.old hW) hn hcap (by omega)
  have HPD : Hid (∀ W g c, Below w.heap.size w W → Seg W (some ⟨g, 0, none⟩) zs → n ≤ c → Calls Tryd.prog 18 #[.slice (some ⟨g, 0, none⟩) n c] W fun e w' => e = .returned (.tuple #[.agg (dd25 zs).1.cs, .int .i64 (dd25 zs).2]) ∧ Below W.heap.size W w') := fun W g c hW sg hc => by rw [← de_dd25 hs.mem]; exact pdecode25 _ zs n c W (ht.old hW) sg hn hc (by omega)
  have HKP : Hid (∀ W g c, Below w.heap.size w W → Seg W (some ⟨g, 0, none⟩) (lentL zs) → Calls Tryd.prog 20 #[.slice (some ⟨g, 0, none⟩) (lentL zs).length c, .slice a n cap] W fun e w' => e = .returned (.bool true) ∧ Below W.heap.size W w') := fun W g c hb sg => by
    have h5 := kept_any a (some ⟨g, 0, none⟩) (lentL zs) zs c cap W sg (hs.old hb) hnil (by omega)
    rw [← hn] at h5
    refine h5.mono ?_
    rintro e w' ⟨rfl, hB⟩
    exact ⟨by simp, hB⟩
  have HLV : Hid (∀ W, Below w.heap.size w W → Calls Tryd.prog 9 #[] W fun e w' => e = .returned (.bool true) ∧ Below W.heap.size W w') := fun W hW => plives25 W (ht.old hW)
  have HB : Hid (∀ y ∈ zs, 0 ≤ y ∧ y ≤ 255) := hs.mem
  have HTK : Hid (∀ V g, Seg V (some ⟨g, 0, none⟩) (lentL zs) → Seg V (some ⟨g, 0, none⟩) zs) := fun V g h => by
    have h5 := h
    unfold lentL at h5
    have := h5.take zs.length
    simpa using this
  have HFC : Hid (∀ (x : Rc25) W, Calls Tryd.prog 11 #[.agg x.cs] W fun e w' => e = .returned (.agg x.cs) ∧ Below W.heap.size W w') := fun x W => pfc25 x W
  have hber : Hid (∀ (x : Rc25) W, (binOp .eql 34 (.agg x.cs) (.agg x.cs)).run Tryd.prog W = .ok (.bool true) W) := fun x W => by rw [ber25, decide_eq_true rfl]
  clear hs ht hn hnil hl
  generalize (dd25 zs).1 = r at *
  generalize (dd25 zs).2 = f at *
  go_enter Tryd.func5, Tryd.ntmps5
  go_wp2_with fail
  refine CL.mono ?_
  rintro e v1 ⟨g, c, rfl, O1, b1⟩
  obtain ⟨_, a1, c1, hv, sl, -, hc1, -⟩ := own_seg O1 (M := 255) (by decide) (lent_bd HB.out)
  injection hv with y1 y2 y3
  subst y1
  have H1 : Hid (Seg v1 (some ⟨g, 0, none⟩) (lentL zs) ∧ n ≤ c ∧ Below w.heap.size w v1) := ⟨sl, by omega, b1⟩
  have HB1 : Hid (∀ V, Below v1.heap.size v1 V → Below w.heap.size w V) := fun V hV => b1.trans (hV.mono b1.size)
  clear O1 b1 sl hc1 y2 y3 CL
  go_wp2_with fail
  refine (HPD.out v1 g c H1.out.2.2 (HTK.out _ _ H1.out.1) H1.out.2.1).mono ?_
  rintro e v2 ⟨rfl, b2⟩
  have q3 : (v2.alloc (.cells #[.int .i64 0, .int .i64 0, .int .i64 0, .int .i64 0, .int .u32 0, .int .i64 0, .int .i64 0, .int .i64 0, .int .u32 0, .int .i64 0] 34)).heap[v2.heap.size]? = some (.cells #[.int .i64 0, .int .i64 0, .int .i64 0, .int .i64 0, .int .u32 0, .int .i64 0, .int .i64 0, .int .i64 0, .int .u32 0, .int .i64 0] 34 (0, 0)) := heap_alloc_new _ _
  go_wp2_with (refine wpList_store_row rfl 34 (.tmp 5) (.tmp 17) rfl v2.heap.size r.cs rfl rfl _ _ q3 info_rc25 rfl (row_rc25 r) ?_)
  have H3' : ((v2.alloc (.cells #[.int .i64 0, .int .i64 0, .int .i64 0, .int .i64 0, .int .u32 0, .int .i64 0, .int .i64 0, .int .i64 0, .int .u32 0, .int .i64 0] 34)).setRow v2.heap.size r.cs).heap[v2.heap.size]? = some (.cells r.cs 34 (0, 0)) ∧ Below v1.heap.size v1 ((v2.alloc (.cells #[.int .i64 0, .int .i64 0, .int .i64 0, .int .i64 0, .int .u32 0, .int .i64 0, .int .i64 0, .int .i64 0, .int .u32 0, .int .i64 0] 34)).setRow v2.heap.size r.cs) := ⟨set_row25 q3, below_row25 (b2.alloc b2.size _) b2.size _⟩
  obtain ⟨v3, hv3⟩ : ∃ v, v = (v2.alloc (.cells #[.int .i64 0, .int .i64 0, .int .i64 0, .int .i64 0, .int .u32 0, .int .i64 0, .int .i64 0, .int .i64 0, .int .u32 0, .int .i64 0] 34)).setRow v2.heap.size r.cs := ⟨_, rfl⟩
  rw [← hv3] at H3' ⊢
  clear hv3 q3 b2
  obtain ⟨ba, hba⟩ : ∃ b, b = v2.heap.size := ⟨_, rfl⟩
  rw [← hba] at H3' ⊢
  clear hba
  have H3 : Hid (v3.heap[ba]? = some (.cells r.cs 34 (0, 0)) ∧ Below v1.heap.size v1 v3) := H3'
  clear H3'
  refine (HRD.out v3 (HB1.out _ H3.out.2)).mono ?_
  rintro e v4 ⟨rfl, b4⟩
  have q5 : (v4.alloc (.cells #[.int .i64 0, .int .i64 0, .int .i64 0, .int .i64 0, .int .u32 0, .int .i64 0, .int .i64 0, .int .i64 0, .int .u32 0, .int .i64 0] 27)).heap[v4.heap.size]? = some (.cells #[.int .i64 0, .int .i64 0, .int .i64 0, .int .i64 0, .int .u32 0, .int .i64 0, .int .i64 0, .int .i64 0, .int .u32 0, .int .i64 0] 27 (0, 0)) := heap_alloc_new _ _
  have b4' : Below v1.heap.size v1 v4 := H3.out.2.trans (b4.mono H3.out.2.size)
  have k4 : v4.heap[ba]? = some (.cells r.cs 34 (0, 0)) := (b4.block _ (Array.getElem?_eq_some_iff.1 H3.out.1).1).trans H3.out.1
  have l4 : ba < v4.heap.size := (Array.getElem?_eq_some_iff.1 k4).1
  go_wp2_with (refine wpList_store_row rfl 27 (.tmp 7) (.tmp 22) rfl v4.heap.size r.cs rfl rfl _ _ q5 info_rc25d rfl (row_rc25 r) ?_)
  have H5' : ((v4.alloc (.cells #[.int .i64 0, .int .i64 0, .int .i64 0, .int .i64 0, .int .u32 0, .int .i64 0, .int .i64 0, .int .i64 0, .int .u32 0, .int .i64 0] 27)).setRow v4.heap.size r.cs).heap[ba]? = some (.cells r.cs 34 (0, 0)) ∧ ((v4.alloc (.cells #[.int .i64 0, .int .i64 0, .int .i64 0, .int .i64 0, .int .u32 0, .int .i64 0, .int .i64 0, .int .i64 0, .int .u32 0, .int .i64 0] 27)).setRow v4.heap.size r.cs).heap[v4.heap.size]? = some (.cells r.cs 27 (0, 0)) ∧ Below v1.heap.size v1 ((v4.alloc (.cells #[.int .i64 0, .int .i64 0, .int .i64 0, .int .i64 0, .int .u32 0, .int .i64 0, .int .i64 0, .int .i64 0, .int .u32 0, .int .i64 0] 27)).setRow v4.heap.size r.cs) := ⟨(old_row25 _ (by omega)).trans ((heap_alloc_old _ _ l4).trans k4), set_row25 q5, below_row25 (b4'.alloc b4'.size _) b4'.size _⟩
  obtain ⟨v5, hv5⟩ : ∃ v, v = (v4.alloc (.cells #[.int .i64 0, .int .i64 0, .int .i64 0, .int .i64 0, .int .u32 0, .int .i64 0, .int .i64 0, .int .i64 0, .int .u32 0, .int .i64 0] 27)).setRow v4.heap.size r.cs := ⟨_, rfl⟩
  rw [← hv5] at H5' ⊢
  clear hv5 q5 b4 b4' k4 l4
  obtain ⟨rb, hrb⟩ : ∃ b, b = v4.heap.size := ⟨_, rfl⟩
  rw [← hrb] at H5' ⊢
  clear hrb
  obtain ⟨v6, hv6⟩ : ∃ v, v = v5.drew := ⟨_, rfl⟩
  have HV : Hid (v5.drew = v6) := hv6.symm
  have H6 : Hid (v6.heap[ba]? = some (.cells r.cs 34 (0, 0)) ∧ v6.heap[rb]? = some (.cells r.cs 27 (0, 0)) ∧ Below v1.heap.size v1 v6) := by rw [hv6]; exact ⟨H5'.1, H5'.2.1, H5'.2.2.drew⟩
  have HS : Hid (∀ V, Below v6.heap.size v6 V → V.heap[ba]? = some (.cells r.cs 34 (0, 0)) ∧ V.heap[rb]? = some (.cells r.cs 27 (0, 0))) := fun V hV => ⟨(hV.block _ (Array.getElem?_eq_some_iff.1 H6.out.1).1).trans H6.out.1, (hV.block _ (Array.getElem?_eq_some_iff.1 H6.out.2.1).1).trans H6.out.2.1⟩
  have HBW : Hid (∀ V, Below v6.heap.size v6 V → Below v1.heap.size v1 V) := fun V hV => H6.out.2.2.trans (hV.mono H6.out.2.2.size)
  have hee : (f == f) = true := by simp
  clear hv6 H5'
  refine plain_region16 (fun V => V.heap[ba]? = some (.cells r.cs 34 (0, 0)) ∧ V.heap[rb]? = some (.cells r.cs 27 (0, 0))) 17 (by kernel_rfl) (by rw [HV.out]; exact ⟨H6.out.1, H6.out.2.1⟩) (fun hHeld => ?_)
  rw [HV.out] at hHeld ⊢
  refine wpAnyK_take (i := 0) (v := .agg r.cs) rfl (by kernel_rfl) (by kernel_rfl) (by kernel_rfl) (by kernel_rfl) (fun _ _ _ h => h) (yields_row25 (by rfl) 34 (.tmp 5) rfl ba rfl _ _ _ _ (fun w h => h.1) Tryd.underlying34 rfl info_rc25) hHeld ?_
  (try simp only [List.getElem_toArray, List.getElem_cons_zero, List.getElem_cons_succ, Act.put, List.setIfInBounds_toArray, List.set_cons_zero, List.set_cons_succ])
  refine wpAnyK_take (i := 1) (v := .agg r.cs) rfl (by kernel_rfl) (by kernel_rfl) (by kernel_rfl) (by kernel_rfl) (fun _ _ _ h => h) (yields_row25 (by rfl) 27 (.tmp 7) rfl rb rfl _ _ _ _ (fun w h => h.2) Tryd.underlying27 rfl info_rc25d) hHeld ?_
  (try simp only [List.getElem_toArray, List.getElem_cons_zero, List.getElem_cons_succ, Act.put, List.setIfInBounds_toArray, List.set_cons_zero, List.set_cons_succ])
  refine wpAnyK_one (i := 2) (by kernel_rfl) rfl (fun K hK => ?_)
  (try simp only [List.getElem_toArray, List.getElem_cons_zero, List.getElem_cons_succ, Act.put, List.setIfInBounds_toArray, List.set_cons_zero, List.set_cons_succ])
  go_simp
  refine (HFC.out r v6).mono ?_
  rintro e v7 ⟨rfl, b7⟩
  have B7 : Hid (Below v6.heap.size v6 v7) := b7
  clear b7
  refine hK.out _ _ (fun _ => (HS.out v7 B7.out)) (fun hHeld0 => ?_)
  have hHeld := hHeld0 (by decide)
  clear hHeld0 hK K
  (try simp only [List.getElem_toArray, List.getElem_cons_zero, List.getElem_cons_succ, Act.put, List.setIfInBounds_toArray, List.set_cons_zero, List.set_cons_succ])
  refine wpAnyK_one (i := 3) (by kernel_rfl) rfl (fun K hK => ?_)
  (try simp only [List.getElem_toArray, List.getElem_cons_zero, List.getElem_cons_succ, Act.put, List.setIfInBounds_toArray, List.set_cons_zero, List.set_cons_succ])
  rw [if_pos (by rfl)]
  refine wp_bin25 .eql 34 (.tmp 24) (.tmp 26) _ rfl rfl rfl egr25 (hber.out r v7) ?_
  refine hK.out _ _ (fun _ => (HS.out v7 B7.out)) (fun hHeld0 => ?_)
  have hHeld := hHeld0 (by decide)
  clear hHeld0 hK K
  simp only [Act.put, List.setIfInBounds_toArray, List.set_cons_zero, List.set_cons_succ]
  refine wpAnyK_take (i := 4) (v := .bool true) rfl (by kernel_rfl) (by kernel_rfl) (by kernel_rfl) (by kernel_rfl) (fun _ _ _ h => h) (Or.inl ⟨by rfl, fun w hSw => by go_simp⟩) hHeld ?_
  simp only [List.getElem_toArray, List.getElem_cons_zero, List.getElem_cons_succ, Act.put, List.setIfInBounds_toArray, List.set_cons_zero, List.set_cons_succ]
  refine wpAnyK_take (i := 5) (v := .int .i64 f) rfl (by kernel_rfl) (by kernel_rfl) (by kernel_rfl) (by kernel_rfl) (fun _ _ _ h => h) (Or.inl ⟨by rfl, fun w hSw => by go_simp⟩) hHeld ?_
  simp only [List.getElem_toArray, List.getElem_cons_zero, List.getElem_cons_succ, Act.put, List.setIfInBounds_toArray, List.set_cons_zero, List.set_cons_succ]
  refine wpAnyK_take (i := 6) (v := .int .i64 f) rfl (by kernel_rfl) (by kernel_rfl) (by kernel_rfl) (by kernel_rfl) (fun _ _ _ h => h) (Or.inl ⟨by rfl, fun w hSw => by go_simp⟩) hHeld ?_
  simp only [List.getElem_toArray, List.getElem_cons_zero, List.getElem_cons_succ, Act.put, List.setIfInBounds_toArray, List.set_cons_zero, List.set_cons_succ]
  refine wpAnyK_take (i := 7) (v := .bool true) rfl (by kernel_rfl) (by kernel_rfl) (by kernel_rfl) (by kernel_rfl) (fun _ _ _ h => h) (Or.inl ⟨by rfl, fun w hSw => by go_simp⟩) hHeld ?_
  simp only [List.getElem_toArray, List.getElem_cons_zero, List.getElem_cons_succ, Act.put, List.setIfInBounds_toArray, List.set_cons_zero, List.set_cons_succ]
  refine wpAnyK_take (i := 8) (v := .bool true) rfl (by kernel_rfl) (by kernel_rfl) (by kernel_rfl) (by kernel_rfl) (fun _ _ _ h => h) (Or.inl ⟨by rfl, fun w hSw => by go_simp⟩) hHeld ?_
  simp only [List.getElem_toArray, List.getElem_cons_zero, List.getElem_cons_succ, Act.put, List.setIfInBounds_toArray, List.set_cons_zero, List.set_cons_succ]
  refine wpAnyK_take (i := 9) (v := .bool true) rfl (by kernel_rfl) (by kernel_rfl) (by kernel_rfl) (by kernel_rfl) (fun _ _ _ h => h) (Or.inl ⟨by rfl, fun w hSw => by go_simp⟩) hHeld ?_
  simp only [List.getElem_toArray, List.getElem_cons_zero, List.getElem_cons_succ, Act.put, List.setIfInBounds_toArray, List.set_cons_zero, List.set_cons_succ]
  refine wpAnyK_take (i := 10) (v := .slice (some ⟨g, 0, none⟩) (lentL zs).length c) rfl (by kernel_rfl) (by kernel_rfl) (by kernel_rfl) (by kernel_rfl) (fun _ _ _ h => h) (Or.inl ⟨by rfl, fun w hSw => by go_simp⟩) hHeld ?_
  simp only [List.getElem_toArray, List.getElem_cons_zero, List.getElem_cons_succ, Act.put, List.setIfInBounds_toArray, List.set_cons_zero, List.set_cons_succ]
  refine wpAnyK_take (i := 11) (v := .slice a n cap) rfl (by kernel_rfl) (by kernel_rfl) (by kernel_rfl) (by kernel_rfl) (fun _ _ _ h => h) (Or.inl ⟨by rfl, fun w hSw => by go_simp⟩) hHeld ?_
  simp only [List.getElem_toArray, List.getElem_cons_zero, List.getElem_cons_succ, Act.put, List.setIfInBounds_toArray, List.set_cons_zero, List.set_cons_succ]
  refine wpAnyK_one (i := 12) (by kernel_rfl) rfl (fun K hK => ?_)
  (try simp only [List.getElem_toArray, List.getElem_cons_zero, List.getElem_cons_succ, Act.put, List.setIfInBounds_toArray, List.set_cons_zero, List.set_cons_succ])
  go_simp
  refine (HKP.out v7 g c (HB1.out _ (HBW.out _ B7.out)) (H1.out.1.old (HBW.out _ B7.out))).mono ?_
  rintro e v8 ⟨rfl, b8⟩
  have B8 : Hid (Below v6.heap.size v6 v8) := B7.out.trans (b8.mono B7.out.size)
  clear b8
  refine hK.out _ _ (fun _ => (HS.out v8 B8.out)) (fun hHeld0 => ?_)
  have hHeld := hHeld0 (by decide)
  clear hHeld0 hK K
  (try simp only [List.getElem_toArray, List.getElem_cons_zero, List.getElem_cons_succ, Act.put, List.setIfInBounds_toArray, List.set_cons_zero, List.set_cons_succ])
  refine wpAnyK_take (i := 13) (v := .bool true) rfl (by kernel_rfl) (by kernel_rfl) (by kernel_rfl) (by kernel_rfl) (fun _ _ _ h => h) (Or.inl ⟨by rfl, fun w hSw => by go_simp⟩) hHeld ?_
  simp only [List.getElem_toArray, List.getElem_cons_zero, List.getElem_cons_succ, Act.put, List.setIfInBounds_toArray, List.set_cons_zero, List.set_cons_succ]
  refine wpAnyK_take (i := 14) (v := .bool true) rfl (by kernel_rfl) (by kernel_rfl) (by kernel_rfl) (by kernel_rfl) (fun _ _ _ h => h) (Or.inl ⟨by rfl, fun w hSw => by go_simp⟩) hHeld ?_
  simp only [List.getElem_toArray, List.getElem_cons_zero, List.getElem_cons_succ, Act.put, List.setIfInBounds_toArray, List.set_cons_zero, List.set_cons_succ]
  refine wpAnyK_one (i := 15) (by kernel_rfl) rfl (fun K hK => ?_)
  (try simp only [List.getElem_toArray, List.getElem_cons_zero, List.getElem_cons_succ, Act.put, List.setIfInBounds_toArray, List.set_cons_zero, List.set_cons_succ])
  go_simp
  refine (HLV.out v8 (HB1.out _ (HBW.out _ B8.out))).mono ?_
  rintro e v9 ⟨rfl, b9⟩
  have B9 : Hid (Below v6.heap.size v6 v9) := B8.out.trans (b9.mono B8.out.size)
  clear b9
  refine hK.out _ _ (fun _ => (HS.out v9 B9.out)) (fun hHeld0 => ?_)
  have hHeld := hHeld0 (by decide)
  clear hHeld0 hK K
  (try simp only [List.getElem_toArray, List.getElem_cons_zero, List.getElem_cons_succ, Act.put, List.setIfInBounds_toArray, List.set_cons_zero, List.set_cons_succ])
  refine wpAnyK_take (i := 16) (v := .bool true) rfl (by kernel_rfl) (by kernel_rfl) (by kernel_rfl) (by kernel_rfl) (fun _ _ _ h => h) (Or.inl ⟨by rfl, fun w hSw => by go_simp⟩) hHeld ?_
  simp only [List.getElem_toArray, List.getElem_cons_zero, List.getElem_cons_succ, Act.put, List.setIfInBounds_toArray, List.set_cons_zero, List.set_cons_succ]
  refine wpAnyK_one (i := 17) (by kernel_rfl) rfl (fun K hK => ?_)
  (try simp only [List.getElem_toArray, List.getElem_cons_zero, List.getElem_cons_succ, Act.put, List.setIfInBounds_toArray, List.set_cons_zero, List.set_cons_succ])
  go_simp
  refine hK.out _ _ (fun h => absurd rfl h) (fun _ => ?_)
  clear hK K
  refine wpAnyK_done (by kernel_rfl) ?_ _
  go_wp2_with fail
  go_ret
  exact ⟨rfl, HB1.out _ (HBW.out _ B9.out)⟩
end Go.Proofs.YteboaolflecibaaDoor

namespace Go.Proofs.YteboaolflecibaaDoor
open Go.ChangeShapes Go.WideShapes Go.ChangeAt Go.RowKit
theorem gTab : Tryd.prog.globalNamed "sapper/crc.halves" = some 1 := by kernel_rfl
theorem gTabType : (Tryd.prog.globals[1]?).map (·.type) = some 190 := by kernel_rfl
theorem cellsTab : Tryd.prog.cellsOf 190 = 16 := by kernel_rfl
theorem cellsWord : Tryd.prog.cellsOf 23 = 1 := by kernel_rfl
theorem halfL_bd : ∀ z ∈ halfL, 0 ≤ z ∧ z ≤ 4294967295 := by decide

/-- What the row's list gives: the table's cells. -/
theorem tab_of {W : World} (h : laidMetH Tryd.prog [("sapper/crc.halves", Rows.laid_sapper_crc_halves)] W) : Tab W := by
  have ht : Lib.TabIs Tryd.prog W "sapper/crc.halves" .u32 halfL :=
    Lib.tabIs_of_head (rest := []) gTab gTabType Tryd.underlying190 Tryd.underlying23 cellsWord cellsTab h
  refine ⟨fun i hi => ⟨1, 0, rfl, ?_⟩, by decide, fun i => ?_⟩
  · rw [Nat.zero_add]
    exact ht.cell gTab i hi
  · by_cases hi : i < halfL.length
    · have := halfL_bd halfL[i] (List.getElem_mem hi)
      simpa [List.getD, hi] using this
    · have : halfL[i]? = none := List.getElem?_eq_none (by omega)
      simp [List.getD, this]

end Go.Proofs.YteboaolflecibaaDoor
