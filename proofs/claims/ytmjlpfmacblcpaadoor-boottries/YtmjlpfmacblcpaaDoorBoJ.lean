import Derived.Test.YtmjlpfmacblcpaaDoorBoI
import Derived.Test.YtmjlpfmacblcpaaDoorBoC
import Derived.Lib.AppendStr
namespace Go.Proofs.YtmjlpfmacblcpaaDoor
open Go.RowKit Go.Shelf
set_option linter.unusedVariables false
set_option linter.unusedSimpArgs false
set_option maxRecDepth 100000 in
theorem pfixd25 (v : Int) (s : Nat) (w : World) (h1 : 1 ≤ s) (h8 : s ≤ 8) (hv0 : 0 ≤ v) (hv1 : v ≤ 18446744073709551615) (hr : v / 2 ^ (8 * s) = 0) :
    Calls Tryd.prog 108 #[.int .u64 v, .int .i64 s] w fun e w' => e = .returned (.slice (some ⟨w.heap.size, 0, none⟩) s s) ∧
      w'.ownsRow w.heap.size 5 1 (.slice (some ⟨w.heap.size, 0, none⟩) s s) s ((fixL s v).map (Value.int .u8)) ∧ Below w.heap.size w w' := by
  have HF := fixed_ok v s w h1 h8 hv0 hv1 hr
  clear h1 h8 hv0 hv1 hr
  go_enter Tryd.func108, Tryd.ntmps108
  go_wp2_with fail
  refine HF.mono ?_
  rintro e1 w1 ⟨rfl, o1, b1⟩
  have H1 : Hid _ := And.intro o1 b1
  clear o1 b1 HF
  go_wp2_with fail
  go_ret
  exact ⟨rfl, H1.out.1, H1.out.2⟩
/-- The box ob has a row of bytes of its own. -/
def En25 (V : World) (N ob : Nat) (L : List Int) : Prop := ∃ p c, V.heap[ob]? = some (.cells #[.slice p L.length c] 22 (0, 0)) ∧ V.ownsRow N 5 1 (.slice p L.length c) L.length (L.map (Value.int .u8))
set_option maxRecDepth 100000 in
set_option maxHeartbeats 4000000 in
theorem penc125 {w : World} {N ob : Nat} {L M : List Int} {v z : Int} {s : Nat} (hN : N ≤ ob) (hE : En25 w N ob L) (hz : z = (s : Int)) (h1 : 1 ≤ s) (h8 : s ≤ 8) (hv0 : 0 ≤ v) (hv1 : v ≤ 18446744073709551615) (hr : v / 2 ^ (8 * s) = 0) (hL : L.length ≤ 1000) (hM : M = L ++ fixL s v) :
    Calls Tryd.prog 107 #[.int .u64 v, .int .i64 z, .pointer (some ⟨ob, 0, none⟩)] w fun e w' => e = .returned (.int .u64 v) ∧ En25 w' N ob M ∧ Ku25 ob w w' ∧ Below N w w' := by
  subst hz
  obtain ⟨p, c, hq, ho⟩ := hE
  have hNw : N ≤ w.heap.size := Nat.le_trans hN (Nat.le_of_lt (Array.getElem?_eq_some_iff.1 hq).1)
  obtain ⟨v0, hv0'⟩ : ∃ v, v = w.drew := ⟨_, rfl⟩
  have HV0 : Hid (w.drew = v0) := hv0'.symm
  have H0 : Hid (v0.heap[ob]? = some (.cells #[.slice p L.length c] 22 (0, 0)) ∧ v0.ownsRow N 5 1 (.slice p L.length c) L.length (L.map (Value.int .u8)) ∧ Below w.heap.size w v0 ∧ N ≤ v0.heap.size) := by rw [hv0']; exact ⟨hq, ho, (Below.refl _ _).drew, hNw⟩
  have HF := fun W => pfixd25 v s W h1 h8 hv0 hv1 hr
  have hlen : (fixL s v).length = s := fixL_len _ _
  have HMM : Hid (M = L ++ fixL s v) := hM
  have HLB : Hid (L.length ≤ 1000 ∧ s ≤ 8 ∧ 1 ≤ s ∧ N ≤ ob ∧ (fixL s v).length = s ∧ N ≤ w.heap.size) := ⟨hL, h8, h1, hN, hlen, hNw⟩
  obtain ⟨n, hn⟩ : ∃ n, n = L.length := ⟨_, rfl⟩
  have HNL : Hid (n = L.length) := hn
  rw [← hn] at H0
  clear hq ho hv0' h1 h8 hv0 hv1 hr hlen hM hL hN hNw hn
  go_enter Tryd.func107, Tryd.ntmps107
  go_wp2_with fail
  refine plain_region16 (fun V => V.cell? ⟨ob, 0, none⟩ = some (.slice p n c)) 5 (by kernel_rfl) (by rw [HV0.out]; exact cell25 H0.out.1 rfl) (fun hHeld => ?_)
  rw [HV0.out] at hHeld ⊢
  refine wpAnyK_take (i := 0) (v := .slice p n c) rfl (by kernel_rfl) (by kernel_rfl) (by kernel_rfl) (by kernel_rfl) (fun _ _ _ h => h) (Or.inl ⟨by rfl, fun w hSw => by go_simp⟩) hHeld ?_
  simp only [List.getElem_toArray, List.getElem_cons_zero, Act.put, List.setIfInBounds_toArray, List.set_cons_zero, List.set_cons_succ]
  refine wpAnyK_take (i := 1) (v := .int .u64 v) rfl (by kernel_rfl) (by kernel_rfl) (by kernel_rfl) (by kernel_rfl) (fun _ _ _ h => h) (Or.inl ⟨by rfl, fun w hSw => by go_simp⟩) hHeld ?_
  simp only [List.getElem_toArray, List.getElem_cons_zero, List.getElem_cons_succ, Act.put, List.setIfInBounds_toArray, List.set_cons_zero, List.set_cons_succ]
  refine wpAnyK_take (i := 2) (v := .int .i64 (s : Int)) rfl (by kernel_rfl) (by kernel_rfl) (by kernel_rfl) (by kernel_rfl) (fun _ _ _ h => h) (Or.inl ⟨by rfl, fun w hSw => by go_simp⟩) hHeld ?_
  simp only [List.getElem_toArray, List.getElem_cons_zero, List.getElem_cons_succ, Act.put, List.setIfInBounds_toArray, List.set_cons_zero, List.set_cons_succ]
  refine wpAnyK_one (i := 3) (by kernel_rfl) rfl (fun K hK => ?_)
  (try simp only [List.getElem_toArray, List.getElem_cons_zero, List.getElem_cons_succ, Act.put, List.setIfInBounds_toArray, List.set_cons_zero, List.set_cons_succ])
  go_simp
  refine (HF v0).mono ?_
  rintro e1 v1 ⟨rfl, o1, b1⟩
  have q1 : v1.heap[ob]? = some (.cells #[.slice p n c] 22 (0, 0)) := (b1.block _ (Array.getElem?_eq_some_iff.1 H0.out.1).1).trans H0.out.1
  have o0 := own_below21 H0.out.2.1 b1
  obtain ⟨-, a2, cc2, hvv, sg, -⟩ := own_seg (M := 255) o1 (by decide) (fixL_bd _ _)
  injection hvv with r1 r2 r3
  subst r1
  have H1 : Hid (v1.heap[ob]? = some (.cells #[.slice p n c] 22 (0, 0)) ∧ v1.ownsRow N 5 1 (.slice p n c) n (L.map (Value.int .u8)) ∧ Seg v1 (some ⟨v0.heap.size, 0, none⟩) (fixL s v) ∧ Below v0.heap.size v0 v1) := ⟨q1, o0, sg, b1⟩
  clear q1 o0 sg o1 b1 r2 r3 HF
  refine hK.out _ _ (fun _ => (cell25 H1.out.1 rfl)) (fun hHeld0 => ?_)
  have hHeld := hHeld0 (by decide)
  clear hHeld0 hK K
  (try simp only [List.getElem_toArray, List.getElem_cons_zero, List.getElem_cons_succ, Act.put, List.setIfInBounds_toArray, List.set_cons_zero, List.set_cons_succ])
  refine wpAnyK_one (i := 4) (by kernel_rfl) rfl (fun K hK => ?_)
  (try simp only [List.getElem_toArray, List.getElem_cons_zero, List.getElem_cons_succ, Act.put, List.setIfInBounds_toArray, List.set_cons_zero, List.set_cons_succ])
  rw [if_pos (by rfl)]
  have ob1 := H1.out.2.1
  rw [HNL.out] at ob1
  obtain ⟨g3, c3, v3, hr3, o3, b3, k3⟩ := app21 v1 (m := s) (N := M) (c2 := s) HMM.out ob1 H1.out.2.2.1 HLB.out.2.2.2.2.1 (by have := HLB.out.2.2.1; omega) (by have := HLB.out; omega) (by have := H1.out.2.2.2.size; have := H0.out.2.2.2; omega)
  rw [← HNL.out] at hr3 k3 ob1
  have q3 : v3.heap[ob]? = some (.cells #[.slice p n c] 22 (0, 0)) := k3.heap H1.out.1 (fun e => absurd (own_ty25 ob1 e H1.out.1) (by decide))
  have H3 : Hid (v3.heap[ob]? = some (.cells #[.slice p n c] 22 (0, 0)) ∧ v3.ownsRow N 5 1 (.slice (some ⟨g3, 0, none⟩) M.length c3) M.length (M.map (Value.int .u8)) ∧ Below N v1 v3 ∧ Kp (fun k => (Value.slice p n c).ownBlock = some k) v1 v3) := ⟨q3, o3, b3, k3⟩
  refine operwp_app24 _ _ _ rfl rfl rfl hr3 ?_
  clear hr3 q3 o3 b3 k3 ob1
  refine hK.out _ _ (fun _ => (cell25 H3.out.1 rfl)) (fun hHeld0 => ?_)
  have hHeld := hHeld0 (by decide)
  clear hHeld0 hK K
  simp only [Act.put, List.setIfInBounds_toArray, List.set_cons_zero, List.set_cons_succ]
  have xc : v3.cell? ⟨ob, 0, none⟩ = some (.slice p n c) := cell25 H3.out.1 rfl
  have xf : v3.frozen? ⟨ob, 0, none⟩ = false := free_row25 H3.out.1 0
  refine wpAnyK_one (i := 5) (by kernel_rfl) rfl (fun K hK => ?_)
  simp only [List.getElem_toArray, List.getElem_cons_zero, List.getElem_cons_succ, Act.put]
  go_simp
  refine hK.out _ _ (fun h => absurd rfl h) (fun _ => ?_)
  clear hK K
  refine wpAnyK_done (by kernel_rfl) ?_ _
  go_wp2_with fail
  go_ret
  have hset : v3.setCell ⟨ob, 0, none⟩ (.slice (some ⟨g3, 0, none⟩) M.length c3) = v3.setRow ob #[.slice (some ⟨g3, 0, none⟩) M.length c3] := setCell_row25 H3.out.1
  have kk : Kp (fun k => k = ob) v3 (v3.setCell ⟨ob, 0, none⟩ (.slice (some ⟨g3, 0, none⟩) M.length c3)) := Kp.set (S := fun k => k = ob) rfl _
  refine ⟨rfl, ⟨_, _, by rw [hset]; exact set_row25 H3.out.1, own_kp21 H3.out.2.1 (fun k e => kk.block k (H3.out.2.1.lt k e).2 (fun x => by subst x; exact absurd (own_ty25 H3.out.2.1 e H3.out.1) (by decide)))⟩, ?_, ?_⟩
  · refine ⟨Nat.le_trans H0.out.2.2.1.size (Nat.le_trans H1.out.2.2.2.size (Nat.le_trans H3.out.2.2.2.size kk.size)), fun j cs t fr hj h1 h2 => ?_⟩
    have j0 := (H0.out.2.2.1.block j (Array.getElem?_eq_some_iff.1 hj).1).trans hj
    have j1 := (H1.out.2.2.2.block j (Array.getElem?_eq_some_iff.1 j0).1).trans j0
    have j3 := H3.out.2.2.2.heap j1 (fun e => h2 (own_ty25 H1.out.2.1 e j1))
    exact (kk.heap j3 h1).trans hj.symm
  · have m0 := H0.out.2.2.1.mono HLB.out.2.2.2.2.2
    have m1 := H1.out.2.2.2.mono H0.out.2.2.2
    exact m0.trans (m1.trans (H3.out.2.2.1.trans (kk.below (fun k e => by subst e; exact HLB.out.2.2.2.1) (by have := H0.out.2.2.2; have := H1.out.2.2.2.size; have := H3.out.2.2.2.size; omega))))
end Go.Proofs.YtmjlpfmacblcpaaDoor
